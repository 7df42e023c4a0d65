/- Contracts of picks (layer 20): May, Cost. No condition. -/
import Derived.Test.YtkllhnfnkgkelaaDoorBitsJoin
namespace Go.Proofs.YtkllhnfnkgkelaaDoor
set_option linter.unusedVariables false
open Go.ChangeShapes Go.WideShapes Go.ChangeAt Go.RowKit
attribute [local go_sem ↓] Go.wp_at_zero Go.wp_at_succ

theorem may_any (u b k : NSet) (w : World) : Calls Tryd.prog 37 #[.int .u64 (nv u), .int .u64 (nv b), .int .u64 (nv k)] w fun e w' => e = .returned (.int .u64 (nv (u &&& ~~~(b ||| k)))) ∧ w = w' := by
  have k1 := Lib.hid (fun W => or_any b k W)
  have k2 := Lib.hid (fun W => less_any u (b ||| k) W)
  go_enter Tryd.func37, Tryd.ntmps37
  go_wp2_with fail
  refine (k1.out _).mono ?_
  rintro e w' ⟨rfl, rfl⟩
  go_wp2_with fail
  refine (k2.out _).mono ?_
  rintro e w' ⟨rfl, rfl⟩
  go_wp2
  go_ret
  exact ⟨rfl, rfl⟩
theorem cost_any (s g : NSet) (w : World) : Calls Tryd.prog 38 #[.int .u64 (nv s), .int .u64 (nv g)] w fun e w' => e = .returned (.int .i64 (card (s &&& ~~~g))) ∧ w = w' := by
  have k1 := Lib.hid (fun W => less_any s g W)
  have k2 := Lib.hid (fun W => len_any (s &&& ~~~g) W)
  go_enter Tryd.func38, Tryd.ntmps38
  go_wp2_with fail
  refine (k1.out _).mono ?_
  rintro e w' ⟨rfl, rfl⟩
  go_wp2_with fail
  refine (k2.out _).mono ?_
  rintro e w' ⟨rfl, rfl⟩
  go_wp2
  go_ret
  exact ⟨rfl, rfl⟩
end Go.Proofs.YtkllhnfnkgkelaaDoor
