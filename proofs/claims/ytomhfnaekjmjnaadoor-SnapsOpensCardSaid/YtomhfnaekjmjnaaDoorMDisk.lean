/- A disk that nobody made (layer 4): what its functions answer. No condition. -/
import Derived.Test.YtomhfnaekjmjnaaDoorMaa
import Derived.Test.YtomhfnaekjmjnaaDoorMac
import Derived.OpenShut
import Derived.Outline
import Derived.WalkLawsBesides
import Derived.RegionTactic
import Derived.BigRegion
import Derived.Deep.RegionHeld3
import Derived.Deep.DrawnRows
import Derived.Lib.Hide
import Derived.Deep.DeepCutAuto
import Derived.IntWalk
namespace Go.Proofs.YtomhfnaekjmjnaaDoor
set_option linter.unusedVariables false
open Go.ChangeShapes Go.WideShapes Go.ChangeAt Go.RowKit
attribute [local go_sem ↓] Go.wp_at_zero Go.wp_at_succ comesTo_value_eq comesTo_skip_eq comesTo_enter_eq

/-- no disk: nil, or one that New did not make -/
def NoDisk (w : World) (v : Value) : Prop := v = .pointer none ∨ ∃ b, v = .pointer (some ⟨b, 0, none⟩) ∧ w.cell? ⟨b, 11, none⟩ = some (.bool false)
theorem there_no {w : World} {v : Value} (h : NoDisk w v) : Calls Tryd.prog 47 #[v] w fun e w' => e = .returned (.bool false) ∧ w = w' := by
  rcases h with rfl | ⟨b, rfl, hc⟩
  · go_enter Tryd.func47, Tryd.ntmps47
    go_wp2
    go_ret
    exact ⟨rfl, rfl⟩
  · go_enter Tryd.func47, Tryd.ntmps47
    go_wp2
    go_ret
    exact ⟨rfl, rfl⟩
theorem wrong_no {w : World} {v : Value} (h : NoDisk w v) (x : Value) : Calls Tryd.prog 51 #[v, x] w fun e w' => e = .returned (.int .i64 1) ∧ w = w' := by
  have K := Lib.hid (there_no h)
  clear h
  go_enter Tryd.func51, Tryd.ntmps51
  go_wp2_with (go_at_call 47; refine K.out.mono ?_; rintro e w' ⟨rfl, rfl⟩)
  go_ret
  exact ⟨rfl, rfl⟩
theorem arm_no {w : World} {v : Value} (h : NoDisk w v) (x : Value) : Calls Tryd.prog 21 #[v, x] w fun e w' => (∃ u, e = .returned u) ∧ w = w' := by
  have K := Lib.hid (there_no h)
  clear h
  go_enter Tryd.func21, Tryd.ntmps21
  go_wp2_with (go_at_call 47; refine K.out.mono ?_; rintro e w' ⟨rfl, rfl⟩)
  go_end0
  exact ⟨⟨_, rfl⟩, rfl⟩
theorem read_no {w : World} {v : Value} (h : NoDisk w v) (x : Value) : Calls Tryd.prog 24 #[v, x] w fun e w' => e = .returned (.tuple #[.slice none 0 0, .int .i64 1]) ∧ w = w' := by
  have K := Lib.hid (wrong_no h x)
  clear h
  go_enter Tryd.func24, Tryd.ntmps24
  go_wp2_with (go_at_call 51; refine K.out.mono ?_; rintro e w' ⟨rfl, rfl⟩)
  go_ret2
  exact ⟨rfl, rfl⟩
theorem call_no {w : World} {v : Value} (h : NoDisk w v) (k x b : Value) : Calls Tryd.prog 58 #[v, k, x, b] w fun e w' => e = .returned (.int .i64 1) ∧ w = w' := by
  have K := Lib.hid (wrong_no h x)
  clear h
  go_enter Tryd.func58, Tryd.ntmps58
  go_wp2_with (go_at_call 51; refine K.out.mono ?_; rintro e w' ⟨rfl, rfl⟩)
  go_ret
  exact ⟨rfl, rfl⟩
theorem append_no {w : World} {v : Value} (h : NoDisk w v) (x b : Value) : Calls Tryd.prog 33 #[v, x, b] w fun e w' => e = .returned (.int .i64 1) ∧ w = w' := by
  have K := Lib.hid (fun k b => call_no h k x b)
  clear h
  go_enter Tryd.func33, Tryd.ntmps33
  go_wp2_with (go_at_call 58; refine (K.out _ _).mono ?_; rintro e w' ⟨rfl, rfl⟩)
  go_ret
  exact ⟨rfl, rfl⟩
theorem sync_no {w : World} {v : Value} (h : NoDisk w v) (x : Value) : Calls Tryd.prog 49 #[v, x] w fun e w' => e = .returned (.int .i64 1) ∧ w = w' := by
  have K := Lib.hid (fun k b => call_no h k x b)
  clear h
  go_enter Tryd.func49, Tryd.ntmps49
  go_wp2_with (go_at_call 58; refine (K.out _ _).mono ?_; rintro e w' ⟨rfl, rfl⟩)
  go_ret
  exact ⟨rfl, rfl⟩
theorem reset_no {w : World} {v : Value} (h : NoDisk w v) (x : Value) : Calls Tryd.prog 37 #[v, x] w fun e w' => e = .returned (.int .i64 1) ∧ w = w' := by
  have K := Lib.hid (fun k b => call_no h k x b)
  clear h
  go_enter Tryd.func37, Tryd.ntmps37
  go_wp2_with (go_at_call 58; refine (K.out _ _).mono ?_; rintro e w' ⟨rfl, rfl⟩)
  go_ret
  exact ⟨rfl, rfl⟩
theorem clone_no {w : World} {v : Value} (h : NoDisk w v) : Calls Tryd.prog 36 #[v] w fun e w' => e = .returned (.pointer none) ∧ w = w' := by
  have K := Lib.hid (there_no h)
  clear h
  go_enter Tryd.func36, Tryd.ntmps36
  go_wp2_with (go_at_call 47; refine K.out.mono ?_; rintro e w' ⟨rfl, rfl⟩)
  go_ret
  exact ⟨rfl, rfl⟩
theorem NoDisk.below {w w' : World} {v : Value} (h : NoDisk w v) (hb : Below w.heap.size w w') : NoDisk w' v := by
  rcases h with rfl | ⟨b, rfl, hc⟩
  · exact .inl rfl
  · exact .inr ⟨b, rfl, (hb.cell (p := ⟨b, 11, none⟩) (World.block_lt_of_cell? w _ hc)).trans hc⟩
theorem fall_no {w : World} {v : Value} (h : NoDisk w v) (c0 c1 c2 c3 : Value) : Calls Tryd.prog 23 #[v, .agg #[c0, c1, c2, c3]] w fun e w' => (∃ u, e = .returned u) ∧ Below w.heap.size w w' := by
  have hb := below_alloc (Below.refl _ w) (.cells #[c0, c1, c2, c3] 52)
  have K := Lib.hid (there_no (h.below hb))
  clear h
  go_enter Tryd.func23, Tryd.ntmps23
  go_wp2_with (go_at_call 47; refine K.out.mono ?_; rintro e w' ⟨rfl, rfl⟩)
  refine bodyPost_ret (results_none rfl _ _ _) rfl ?_
  exact ⟨⟨_, rfl⟩, hb⟩
end Go.Proofs.YtomhfnaekjmjnaaDoor
