/- What the known sets of layer 7 come to (one). Condition: math/bits' table of trailing zeros lies as its text lays it. -/
import Derived.Test.YtkllhnfnkgkelaaDoorBitsText
import Derived.Test.YtkllhnfnkgkelaaDoorBitsSets
import Derived.Test.YtkllhnfnkgkelaaDoorBitsOf
namespace Go.Proofs.YtkllhnfnkgkelaaDoor
set_option linter.unusedVariables false
open Go.ChangeShapes Go.WideShapes Go.ChangeAt Go.RowKit Go.Shelf
attribute [local go_sem ↓] Go.wp_at_zero Go.wp_at_succ

theorem text_all (s : NSet) (w : World) (hT : TabZ w) :
    Calls Tryd.prog 26 #[.int .u64 (nv s)] w fun e w' => e = .returned (.string (strB (textT (nodes s)))) ∧ Below w.heap.size w w' := by
  by_cases hs : s = 0#64
  · have hb : (nv s == 0) = true := by rw [nv_is0]; simpa using hs
    have e : strB (textT (nodes s)) = ⟨#[110, 111, 110, 101]⟩ := by rw [hs, nodes_zero]; rfl
    rw [e]
    clear e hs hT
    go_enter Tryd.func26, Tryd.ntmps26
    go_wp2
    go_ret
    exact ⟨rfl, (by repeat (first | exact Below.refl _ _ | assumption | refine below_drewN ?_ _ | refine Below.drew ?_ | refine below_alloc ?_ _ | refine Below.alloc ?_ (by first | omega | (simp; done) | (simp; omega)) _ | refine Below.setCell ?_ (Below.size (by assumption)) _ | refine Below.setCell ?_ (by first | omega | (simp; done) | (simp; omega)) _ | (refine Below.trans ?_ (Below.mono (by assumption) (by first | omega | (simp; done) | (simp; omega)))) | refine below_next ?_ (by assumption)))⟩
  · exact text_any s hs w hT
theorem text46 (w : World) (hT : TabZ w) :
    Calls Tryd.prog 26 #[.int .u64 46] w fun e w' => e = .returned (.string ⟨#[49, 45, 51, 44, 53]⟩) ∧ Below w.heap.size w w' := by
  have h := text_all 46#64 w hT
  rw [nodes_46, show strB (textT [1, 2, 3, 5]) = ⟨#[49, 45, 51, 44, 53]⟩ by decide +kernel] at h
  exact h
theorem len46 (w : World) : Calls Tryd.prog 20 #[.int .u64 46] w fun e w' => e = .returned (.int .i64 4) ∧ w = w' := by
  have h := len_any 46#64 w
  rw [show (card 46#64 : Int) = 4 by decide +kernel] at h
  exact h
theorem has46 (n : Int) (b : Bool) (h : hasI 46#64 n = b) (w : World) : Calls Tryd.prog 18 #[.int .u64 46, .int .i64 n] w fun e w' => e = .returned (.bool b) ∧ w = w' := has_is 46#64 n b h w
theorem of1235 (b : Nat) (W : World) (hb : W.heap[b]? = some (.cells #[.int .i64 1, .int .i64 2, .int .i64 3, .int .i64 5] 3 (0, 0))) : Calls Tryd.prog 12 #[.slice (some ⟨b, 0, none⟩) 4 4] W fun e w' => e = .returned (.int .u64 46) ∧ W = w' := by
  have := of_ints b 4 [1, 2, 3, 5] W (by decide) (fun k hk => cell_of_block hb (by simp at hk; rcases (show k = 0 ∨ k = 1 ∨ k = 2 ∨ k = 3 by omega) with rfl | rfl | rfl | rfl <;> rfl))
  rw [show ofS [1, 2, 3, 5] = 46#64 by decide +kernel] at this
  exact this
set_option maxRecDepth 100000 in
set_option maxHeartbeats 2000000 in
theorem one_yes (w : World) (hT : TabZ w) : Calls Tryd.prog 21 #[] w fun e w' => e = .returned (.bool true) ∧ Below w.heap.size w w' := by
  have hT1 := hT.below (below_alloc (Below.refl _ w) (.cells #[.int .i64 1, .int .i64 2, .int .i64 3, .int .i64 5] 3))
  have K := Lib.hid (text46 _ hT1)
  have KO := Lib.hid (of1235 _ _ (blk_last w #[.int .i64 1, .int .i64 2, .int .i64 3, .int .i64 5] 3))
  have hB := below_alloc (Below.refl _ w) (.cells #[.int .i64 1, .int .i64 2, .int .i64 3, .int .i64 5] 3)
  clear hT hT1
  go_enter Tryd.func21, Tryd.ntmps21
  go_wp2_with fail
  refine KO.out.mono ?_
  rintro e w' ⟨rfl, rfl⟩
  go_wp2_with fail
  refine K.out.mono ?_
  rintro e w' ⟨rfl, hb⟩
  have HB := Lib.hid (below_next hB hb)
  clear hb
  go_wp2_with fail
  refine (len46 _).mono ?_
  rintro e w' ⟨rfl, rfl⟩
  go_wp2_with fail
  refine (has46 5 true (by decide) _).mono ?_
  rintro e w' ⟨rfl, rfl⟩
  go_wp2_with fail
  refine (has46 4 false (by decide) _).mono ?_
  rintro e w' ⟨rfl, rfl⟩
  go_wp2_with fail
  go_ret
  exact ⟨rfl, HB.out⟩
theorem sets_all (a b c : NSet) (w : World) (hT : TabZ w) :
    Calls Tryd.prog 5 #[.int .u64 (nv a), .int .u64 (nv b), .int .u64 (nv c)] w fun e w' => e = .returned (.bool true) ∧ Below w.heap.size w w' :=
  sets_walk a b c w (fun W hb => one_yes W (hT.below hb))
end Go.Proofs.YtkllhnfnkgkelaaDoor
