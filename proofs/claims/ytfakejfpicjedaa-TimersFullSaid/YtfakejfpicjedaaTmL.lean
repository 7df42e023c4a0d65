/- The walk of TimersFull (layer 17). No condition. -/
import Derived.Test.YtfakejfpicjedaaTmK
namespace Go.Proofs.Ytfakejfpicjedaa
set_option linter.unusedVariables false
open Go.ChangeShapes Go.WideShapes Go.ChangeAt Go.RowKit Tm
attribute [local go_sem ↓] Go.wp_at_zero Go.wp_at_succ comesTo_value_eq comesTo_skip_eq comesTo_enter_eq

set_option maxRecDepth 100000 in
set_option maxHeartbeats 2000000 in
theorem tfull_walk (a : Int) (w : World) : Calls Try.prog 5 #[.int .i64 a] w fun e w' => e = .returned (.bool true) ∧ Below w.heap.size w w' := by
  have KN := Lib.hid (cb_new (Below.refl w.heap.size w) (Nat.le_refl _))
  have hmk := mask_4095 a
  obtain ⟨x, hx⟩ : ∃ x, x = a % 4096 := ⟨_, rfl⟩
  have HX := Lib.hid (show 0 ≤ x ∧ x < 4096 from by omega)
  rw [← hx] at hmk
  clear hx
  go_enter Try.func5, Try.ntmps5
  go_wp2_with fail
  refine KN.out.mono ?_
  rintro e w1 ⟨c, rfl, h1⟩
  have H1 := Lib.hid h1
  clear h1 KN
  go_wp2_with fail
  go_loopw [4] (fun i wr => ∃ (k : Nat) (R : List AL), k ≤ 4096 ∧ i = .int .i64 (k : Int) ∧ CB w.heap.size w wr c R ∧ R.length = k ∧ ∀ id, inR R id = decide (0 ≤ id ∧ id < (k : Int))) (fun i _ => 4096 - (intOf i).toNat)
  case atStart => exact ⟨0, [], by omega, rfl, H1.out, rfl, fun id => by rw [show inR [] id = false from rfl]; symm; rw [decide_eq_false_iff_not]; omega⟩
  case round =>
    obtain ⟨k, R, hk, rfl, hC, hl, hin⟩ := hrel
    have HC := Lib.hid hC
    have HL := Lib.hid hl
    have HIN := Lib.hid hin
    clear hC hl hin H1
    by_cases hlt : k < 4096
    · have hltI : (k : Int) < 4096 := by omega
      have hw1 : IntKind.i64.wrap ((k : Int) + 1) = (k : Int) + 1 := by rw [IntKind.wrap_i64]; omega
      have hno : inR R (k : Int) = false := by rw [HIN.out]; rw [decide_eq_false_iff_not]; omega
      have hs := set_ok (R := R) (id := (k : Int)) (t := (k : Int)) (by omega) (.inr (by rw [HL.out]; exact hlt))
      have k1 := cb_set HC.out (id := (k : Int)) (t := (k : Int)) (by unfold i64T; omega) (by unfold i64T; omega)
      rw [hs] at k1
      have K1 := Lib.hid k1
      have HR := Lib.hid (show (∃ R', insR ((k : Int), (k : Int)) (delR R (k : Int)) = R' ∧ R'.length = k + 1 ∧ ∀ id, inR R' id = decide (0 ≤ id ∧ id < ((k + 1 : Nat) : Int))) from ⟨_, rfl, by rw [set_new_len hno, HL.out], fun id => by
        rw [in_set, HIN.out]
        rw [Bool.eq_iff_iff, Bool.or_eq_true, decide_eq_true_iff, decide_eq_true_iff, beq_iff_eq]
        omega⟩)
      clear hno hs k1
      go_wp2_with fail
      refine K1.out.mono ?_
      rintro e w2 ⟨rfl, h2⟩
      have H2 := Lib.hid h2
      clear h2 K1
      go_wp2_with fail
      go_roundw
      case rel =>
        obtain ⟨R', e1, e2, e3⟩ := HR.out
        exact ⟨k + 1, R', by omega, by go_num, by rw [← e1]; exact H2.out, e2, e3⟩
      case measure => simp [intOf]; omega
    · have hk2 : k = 4096 := by omega
      subst hk2
      clear hlt hk
      have n5 : inR R 5000 = false := by rw [HIN.out]; decide
      have nx : inR R x = true := by rw [HIN.out]; rw [decide_eq_true_iff]; exact HX.out
      have ix : i64T x := by have := HX.out; unfold i64T; omega
      have k1 := cb_set HC.out (id := 5000) (t := 1) (by unfold i64T; omega) (by unfold i64T; omega)
      rw [set_full (by omega) n5 (by rw [HL.out]; omega)] at k1
      have K1 := Lib.hid k1
      clear k1
      go_wp2_with fail
      refine K1.out.mono ?_
      rintro e w2 ⟨rfl, h2⟩
      have k2 := cb_set h2 (id := x) (t := 9000) ix (by unfold i64T; omega)
      rw [set_ok (by omega) (.inl nx)] at k2
      have l2 : (insR (9000, x) (delR R x)).length = 4096 := by rw [set_old_len h2 nx, HL.out]
      have n2 : inR (insR (9000, x) (delR R x)) x = true := by rw [in_set]; simp
      have n52 : inR (insR (9000, x) (delR R x)) 5000 = false := by rw [in_set, n5, Bool.or_false, beq_eq_false_iff_ne]; have := HX.out; omega
      generalize insR (9000, x) (delR R x) = R2 at k2 l2 n2 n52
      have K2 := Lib.hid k2
      clear k2 h2 K1
      go_wp2_with fail
      refine K2.out.mono ?_
      rintro e w3 ⟨rfl, h3⟩
      have k3 := cb_drop h3 (id := x) ix
      rw [n2] at k3
      have l3 : (delR R2 x).length = 4095 := by have := h3.del_len n2; omega
      have n3 : inR (delR R2 x) x = false := by rw [in_del]; simp
      have n53 : inR (delR R2 x) 5000 = false := by rw [in_del, n52, Bool.and_false]
      generalize delR R2 x = R3 at k3 l3 n3 n53
      have K3 := Lib.hid k3
      clear k3 h3 K2
      go_wp2_with fail
      refine K3.out.mono ?_
      rintro e w4 ⟨rfl, h4⟩
      have k4 := cb_drop h4 (id := x) ix
      rw [n3, del_none n3] at k4
      have K4 := Lib.hid k4
      clear k4 h4 K3
      go_wp2_with fail
      refine K4.out.mono ?_
      rintro e w5 ⟨rfl, h5⟩
      have k5 := cb_set h5 (id := 5000) (t := 1) (by unfold i64T; omega) (by unfold i64T; omega)
      rw [set_ok (by omega) (.inr (by omega))] at k5
      have l5 : (insR (1, 5000) (delR R3 5000)).length = 4096 := by rw [set_new_len n53, l3]
      generalize insR (1, 5000) (delR R3 5000) = R5 at k5 l5
      have K5 := Lib.hid k5
      clear k5 h5 K4
      go_wp2_with fail
      refine K5.out.mono ?_
      rintro e w6 ⟨rfl, h6⟩
      have k6 := cb_len h6
      rw [l5] at k6
      have K6 := Lib.hid (show Calls Try.prog 16 #[.pointer (some ⟨c, 0, none⟩)] w6 fun e w' => e = .returned (.int .i64 4096) ∧ w' = w6 from k6)
      have HB := Lib.hid h6.bel
      have KO := Lib.hid (one_any w6)
      clear k6 h6 K5
      go_wp2_with fail
      refine K6.out.mono ?_
      rintro e w7 ⟨rfl, hw⟩
      obtain rfl := hw
      go_wp2_with fail
      refine KO.out.mono ?_
      rintro e w8 ⟨rfl, hb⟩
      go_wp2_with fail
      go_ret
      exact ⟨rfl, below_next HB.out hb⟩
end Go.Proofs.Ytfakejfpicjedaa
