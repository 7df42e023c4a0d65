/- Layer 2's small play: it answers true. Its condition: errors.errorType reads as the program's text lays it. -/
import Derived.Test.YtnlfighfkmlmaaaDoorPutL
namespace Go.Proofs.YtnlfighfkmlmaaaDoor
set_option linter.unusedVariables false
open Go.ChangeShapes Go.WideShapes Go.ChangeAt Go.RowKit Go.Lib
attribute [local go_sem ↓] Go.wp_at_zero Go.wp_at_succ comesTo_value_eq comesTo_skip_eq comesTo_enter_eq

theorem put_m1 : putI (-1) = [1] := by unfold putI; rw [show foldF (-1) = 1 from by decide, putU_lt (by decide)]; rfl
theorem put_64 : putI 64 = [128, 1] := by unfold putI; rw [show foldF 64 = 128 from by decide, putU_ge (by decide), putU_lt (by decide)]; rfl
theorem one_i1 : intF ⟨[1, 128, 1], 0⟩ = (⟨[128, 1], 0⟩, -1) := by rfl
theorem one_i2 : intF ⟨[128, 1], 0⟩ = (⟨[], 0⟩, 64) := by rfl
set_option maxRecDepth 100000 in
theorem cod_one (w : World) (hE : ErrAt w) : Calls Tryd.prog 19 #[] w fun e w' => e = .returned (.bool true) ∧ Below w.heap.size w w' := by
  have hmx : Tryd.prog.follows .mixedOrders = true := by kernel_rfl
  have K1 := Lib.hid (putint_any (w := w) (v := .slice none 0 0) (xs := []) (n := -1) (.inr ⟨rfl, none, 0, rfl, fun _ => rfl⟩) (by decide) (by decide))
  have HE := Lib.hid hE
  clear hE
  go_enter Tryd.func19, Tryd.ntmps19
  go_wp2_with fail
  refine K1.out.mono ?_
  rintro e w1 ⟨u1, rfl, ho, hb⟩
  have K2 := Lib.hid (putint_any ho.at (by rw [put_m1]; decide) (n := 64) (by decide))
  have HB1 := Lib.hid hb
  clear ho hb K1
  go_wp2_with fail
  refine K2.out.mono ?_
  rintro e w2 ⟨u2, rfl, ho, hb⟩
  rw [put_m1, put_64] at ho
  have K3 := Lib.hid (read_cur ho.at (by decide))
  have HO := Lib.hid ho
  have HB2 := Lib.hid (below_next HB1.out hb)
  have HSZ := Lib.hid HB2.out.size
  clear ho hb K2 HB1
  go_wp2_with fail
  refine K3.out.mono ?_
  rintro e w3 ⟨C, rfl, hc, hb⟩
  have hcv := txt_conv (HO.out.at.below hb) w3 (Below.refl _ _)
  have HB3 := Lib.hid (below_next HB2.out hb)
  rw [show strOfNums ([] ++ [1] ++ [128, 1]) = ⟨#[1, 128, 1]⟩ from rfl] at hcv
  have K4 := int_cur hc
  rw [show ([] ++ [1] ++ [128, 1] : List Int) = [1, 128, 1] from rfl, one_i1] at K4
  have K5 := Lib.hid K4
  clear hc hb K3 HB2 K4
  go_wp2_with fail
  refine K5.out.mono ?_
  rintro e w4 ⟨rfl, hc4, hf4⟩
  have K6 := int_cur hc4
  rw [one_i2] at K6
  have K7 := Lib.hid K6
  have hCC := hc4.mem
  have hsz := HB3.out.size
  have HE3 := Lib.hid (HE.out.below HB3.out)
  have HB4 := Lib.hid (HB3.out.trans (hf4.below HB3.out.size fun j hj => by subst hj; exact Nat.le_trans HSZ.out hCC))
  have HE4 := Lib.hid (HE.out.below HB4.out)
  clear hc4 hf4 K5 K6
  go_wp2_with fail
  refine K7.out.mono ?_
  rintro e w5 ⟨rfl, hc5, hf5⟩
  have HB5 := Lib.hid (HB4.out.trans (hf5.below HB4.out.size fun j hj => by subst hj; exact Nat.le_trans HSZ.out hCC))
  have HE5 := Lib.hid (HE.out.below HB5.out)
  have K8 := end_cur hc5 HE5.out
  rw [show endF ⟨[], 0⟩ = 0 from rfl] at K8
  have K9 := Lib.hid K8
  clear hc5 hf5 K7 K8
  go_wp2_with fail
  refine K9.out.mono ?_
  rintro e w6 ⟨rfl, hb6⟩
  have HB6 := Lib.hid (below_next HB5.out hb6)
  clear hb6
  go_wp2
  go_ret
  exact ⟨rfl, HB6.out⟩
end Go.Proofs.YtnlfighfkmlmaaaDoor
