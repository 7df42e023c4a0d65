/- Layer 2's small play: it answers true. Its condition: errors.errorType reads as the program's text lays it. -/
import Derived.Test.YtomhfnaekjmjnaaDoorPutL
namespace Go.Proofs.YtomhfnaekjmjnaaDoor
set_option linter.unusedVariables false
open Go.ChangeShapes Go.WideShapes Go.ChangeAt Go.RowKit Go.Lib
attribute [local go_sem ↓] Go.wp_at_zero Go.wp_at_succ comesTo_value_eq comesTo_skip_eq comesTo_enter_eq

theorem put_m1 : putI (-1) = [1] := by unfold putI; rw [show foldF (-1) = 1 from by decide, putU_lt (by decide)]; rfl
theorem put_64 : putI 64 = [128, 1] := by unfold putI; rw [show foldF 64 = 128 from by decide, putU_ge (by decide), putU_lt (by decide)]; rfl
theorem one_i1 : intF ⟨[1, 128, 1], 0⟩ = (⟨[128, 1], 0⟩, -1) := by rfl
theorem one_i2 : intF ⟨[128, 1], 0⟩ = (⟨[], 0⟩, 64) := by rfl
end Go.Proofs.YtomhfnaekjmjnaaDoor
