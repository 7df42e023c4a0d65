/- The law CodingNobody walked. Its condition: errors.errorType reads as the program's text lays it. -/
import Derived.Test.YtnlfighfkmlmaaaDoorCodOne
namespace Go.Proofs.YtnlfighfkmlmaaaDoor
set_option linter.unusedVariables false
open Go.ChangeShapes Go.WideShapes Go.ChangeAt Go.RowKit Go.Lib
attribute [local go_sem ↓] Go.wp_at_zero Go.wp_at_succ comesTo_value_eq comesTo_skip_eq comesTo_enter_eq

theorem none_int : intF ⟨[], 0⟩ = (⟨[], 10⟩, 0) := by rfl
theorem ten_int : intF ⟨[], 10⟩ = (⟨[], 10⟩, 0) := by rfl
theorem ten_small (m : Int) : smallF ⟨[], 10⟩ m = (⟨[], 10⟩, 0) := by
  unfold smallF
  rw [ten_int]
  split <;> rfl
theorem ten_text : textF ⟨[], 10⟩ = (⟨[], 10⟩, []) := by
  unfold textF
  rw [ten_small]
  rfl
theorem ten_ints (m : Int) : intsF ⟨[], 10⟩ m = (⟨[], 10⟩, []) := by
  unfold intsF
  rw [ten_small]
  rfl
set_option maxRecDepth 100000 in
set_option maxHeartbeats 4000000 in
theorem nobody_any (k0 m0 : Int) (hm : m0 ≤ 9223372036854775807) (W : World) (hE : ErrAt W) :
    Calls Tryd.prog 6 #[.agg #[.int .i64 k0, .int .i64 m0]] W fun e w' => e = .returned (.bool true) ∧ Below W.heap.size W w' := by
  have hA0 := below_alloc (Below.refl _ W) (.cells #[.int .i64 k0, .int .i64 m0] 38)
  have HE := Lib.hid hE
  have HM := Lib.hid hm
  have HA := Lib.hid hA0
  have r1 : (W.alloc (.cells #[.int .i64 k0, .int .i64 m0] 38)).cell? ⟨W.heap.size, 1, none⟩ = some (.int .i64 m0) := cell_of_block (o := 1) (World.alloc_heap_new W _) rfl
  have HR := Lib.hid r1
  clear hE hm hA0 r1
  go_enter Tryd.func6, Tryd.ntmps6
  go_wp2_with fail
  generalize W.alloc (.cells #[.int .i64 k0, .int .i64 m0] 38) = WA at *
  go_loopw [3] (fun i wr => ∃ k : Nat, k ≤ 2 ∧ i = .int .i64 k ∧ Below WA.heap.size WA wr) (fun i _ => 2 - (intOf i).toNat)
  case atStart => exact ⟨0, by decide, rfl, Below.refl _ _⟩
  case round =>
    obtain ⟨k, hk, rfl, hb⟩ := hrel
    have hlt := World.block_lt_of_cell? WA _ HR.out
    have RC := Lib.hid (fun w' (h : Below WA.heap.size WA w') => (h.cell (p := ⟨W.heap.size, 1, none⟩) hlt).trans HR.out)
    have RE := Lib.hid (fun w' (h : Below WA.heap.size WA w') => HE.out.below (HA.out.trans (h.mono HA.out.size)))
    have HB := Lib.hid hb
    clear hlt
    rcases (by omega : k = 0 ∨ k = 1 ∨ k = 2) with rfl | rfl | rfl
    · have hA1 := below_next hb (below_alloc (Below.refl _ wr) (.cells #[.slice none 0 0, .nilIface] 59))
      have hc1 : Cur (wr.alloc (.cells #[.slice none 0 0, .nilIface] 59)) wr.heap.size (fun j => wr.heap.size ≤ j) ⟨[], 0⟩ :=
        ⟨Nat.le_refl _, fun _ => rfl, by decide, none, 0, 0, World.alloc_heap_new wr _, .inr ⟨rfl, none, 0, rfl, fun _ => rfl⟩, Nat.le_refl _, fun p hp => by cases hp⟩
      have HCW := Lib.hid hb.size
      have HC1 := Lib.hid hc1
      have HA1 := Lib.hid hA1
      have KR := Lib.hid (rest_cur hc1)
      have KB := Lib.hid (bad_cur hc1 (RE.out _ hA1))
      clear hA1 hc1 hb
      go_wp2_with fail
      refine KR.out.mono ?_
      rintro e w1 ⟨rfl, rfl⟩
      go_wp2_with fail
      refine KB.out.mono ?_
      rintro e w2 ⟨rfl, hb2⟩
      have k2 := int_cur (HC1.out.below hb2)
      rw [none_int] at k2
      have KI := Lib.hid k2
      have HB2 := Lib.hid (below_next HA1.out hb2)
      generalize wr.heap.size = C at *
      clear k2 hb2 KB KR HA1 HC1
      go_wp2_with fail
      refine KI.out.mono ?_
      rintro e w3 ⟨rfl, hc3, hf3⟩
      have HB3 := Lib.hid (HB2.out.trans (hf3.below HB2.out.size fun j hj => by subst hj; exact HCW.out))
      have r3 := RC.out w3 HB3.out
      have k3 := small_cur hc3 m0
      rw [ten_small] at k3
      have KS := Lib.hid k3
      clear hc3 hf3 k3 KI
      go_wp2_with fail
      refine KS.out.mono ?_
      rintro e w4 ⟨rfl, hc4, hf4⟩
      have HB4 := Lib.hid (HB3.out.trans (hf4.below HB3.out.size fun j hj => by subst hj; exact HCW.out))
      have k4 := text_cur hc4
      rw [ten_text, show strOfNums [] = ⟨#[]⟩ from rfl] at k4
      have KT := Lib.hid k4
      clear hc4 hf4 k4 KS r3
      go_wp2_with fail
      refine KT.out.mono ?_
      rintro e w5 ⟨rfl, hc5, hf5⟩
      have HB5 := Lib.hid (HB4.out.trans (hf5.below HB4.out.size fun j hj => by subst hj; exact HCW.out))
      have r5 := RC.out w5 HB5.out
      have k5 := ints_cur hc5 (RE.out _ HB5.out) HM.out
      rw [ten_ints] at k5
      have KL := Lib.hid k5
      clear hc5 hf5 k5 KT
      go_wp2_with fail
      refine KL.out.mono ?_
      rintro e w6 ⟨u, rfl, ho6, hc6, hf6⟩
      obtain ⟨ua, uc, rfl⟩ := ho6.form
      have HB6 := Lib.hid (HB5.out.trans (hf6.below HB5.out.size fun j hj => by subst hj; exact HCW.out))
      have KB := Lib.hid (bad_cur hc6 (RE.out _ HB6.out))
      clear ho6 hc6 hf6 KL r5
      go_wp2_with fail
      refine KB.out.mono ?_
      rintro e w7 ⟨rfl, hb7⟩
      have HB7 := Lib.hid (below_next HB6.out hb7)
      clear hb7
      go_wp2
      go_roundw
      case rel => exact ⟨1, by decide, by go_num, HB7.out⟩
      case measure => simp [intOf]
    · have hA1 := below_next hb (below_alloc (Below.refl _ wr) (.cells #[.slice none 0 0, .nilIface] 59))
      have HA1 := Lib.hid hA1
      have KR := Lib.hid (rest_nil (wr.alloc (.cells #[.slice none 0 0, .nilIface] 59)))
      have KB := Lib.hid (bad_nil (wr.alloc (.cells #[.slice none 0 0, .nilIface] 59)))
      clear hA1 hb
      go_wp2_with fail
      refine KR.out.mono ?_
      rintro e w1 ⟨rfl, rfl⟩
      go_wp2_with fail
      refine KB.out.mono ?_
      rintro e w2 ⟨rfl, hb2⟩
      have HB2 := Lib.hid (below_next HA1.out hb2)
      have KI := Lib.hid (int_nil w2)
      have r3 := RC.out w2 HB2.out
      have KS := Lib.hid (small_nil m0 w2)
      have KT := Lib.hid (text_nil w2)
      have KL := Lib.hid (ints_nil m0 w2)
      clear hb2 KB KR
      go_wp2_with fail
      refine KI.out.mono ?_
      rintro e w3 ⟨rfl, rfl⟩
      go_wp2_with fail
      refine KS.out.mono ?_
      rintro e w4 ⟨rfl, rfl⟩
      go_wp2_with fail
      refine KT.out.mono ?_
      rintro e w5 ⟨rfl, rfl⟩
      go_wp2_with fail
      refine KL.out.mono ?_
      rintro e w6 ⟨rfl, hb6⟩
      have HB6 := Lib.hid (below_next HB2.out hb6)
      have KB := Lib.hid (bad_nil w6)
      clear hb6 KL r3
      go_wp2_with fail
      refine KB.out.mono ?_
      rintro e w7 ⟨rfl, hb7⟩
      have HB7 := Lib.hid (below_next HB6.out hb7)
      clear hb7
      go_wp2
      go_roundw
      case rel => exact ⟨2, by decide, by go_num, HB7.out⟩
      case measure => simp [intOf]
    · have KO := Lib.hid (cod_one wr (RE.out _ hb))
      clear hb
      go_wp2_with fail
      refine KO.out.mono ?_
      rintro e w1 ⟨rfl, hb1⟩
      have HB1 := Lib.hid (HA.out.trans ((below_next HB.out hb1).mono HA.out.size))
      clear hb1
      go_wp2
      go_ret
      exact ⟨rfl, HB1.out⟩
end Go.Proofs.YtnlfighfkmlmaaaDoor
