/- The bounds of a command's fields (layer 22). No condition. -/
import Derived.Test.YtlejicmpefdhpaaDoorCmdL
namespace Go.Proofs.YtlejicmpefdhpaaDoor
set_option linter.unusedVariables false
open Go.ChangeShapes Go.WideShapes Go.ChangeAt Go.RowKit
attribute [local go_sem ↓] Go.wp_at_zero Go.wp_at_succ comesTo_value_eq comesTo_skip_eq comesTo_enter_eq

/-- the least and the greatest number of a field -/
def bndF (k : Int) (f : Nat) : Int × Int :=
  if f = 9 then (if k = 1 ∨ k = 5 then (1, 1048576) else (0, 1099511627775))
  else [(0, 1), (1, 1073741824), (1, 16), (0, 3), (1, 64), (-100, 100), (0, 1073741824), (0, 63), (0, 4), (0, 0), (1, 1099511627775), (0, 1)].getD f (0, 1)
theorem bounds_at (k : Int) (f : Nat) (h : 1 ≤ f ∧ f ≤ 11) (w : World) : Calls Tryd.prog 28 #[.int .i64 k, .int .i64 f] w fun e w' => e = .returned (.tuple #[.int .i64 (bndF k f).1, .int .i64 (bndF k f).2]) ∧ w = w' := by
  rcases (show f = 9 ∨ f = 1 ∨ f = 2 ∨ f = 3 ∨ f = 4 ∨ f = 5 ∨ f = 6 ∨ f = 7 ∨ f = 8 ∨ f = 10 ∨ f = 11 by omega) with rfl | rfl | rfl | rfl | rfl | rfl | rfl | rfl | rfl | rfl | rfl
  · by_cases h1 : k = 1
    · subst h1
      go_enter Tryd.func28, Tryd.ntmps28
      go_wp2
      go_ret2
      exact ⟨rfl, rfl⟩
    · by_cases h5 : k = 5
      · subst h5
        go_enter Tryd.func28, Tryd.ntmps28
        go_wp2
        go_ret2
        exact ⟨rfl, rfl⟩
      · have hF : bndF k 9 = (0, 1099511627775) := by unfold bndF; rw [if_pos rfl, if_neg (by omega)]
        rw [hF]
        have q1 : (k == 1) = false := by rw [beq_eq_false_iff_ne]; exact h1
        have q5 : (k == 5) = false := by rw [beq_eq_false_iff_ne]; exact h5
        clear hF h1 h5 h
        go_enter Tryd.func28, Tryd.ntmps28
        go_wp2
        go_ret2
        exact ⟨rfl, rfl⟩
  all_goals
    clear h
    go_enter Tryd.func28, Tryd.ntmps28
    go_wp2
    go_ret2
    exact ⟨rfl, rfl⟩
end Go.Proofs.YtlejicmpefdhpaaDoor
