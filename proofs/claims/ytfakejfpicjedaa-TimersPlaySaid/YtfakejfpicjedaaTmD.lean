/- container/heap's up and down at a queue (layer 17). Conditions: the places'. -/
import Derived.Test.YtfakejfpicjedaaTmC
namespace Go.Proofs.Ytfakejfpicjedaa
set_option linter.unusedVariables false
open Go.ChangeShapes Go.WideShapes Go.ChangeAt Go.RowKit Tm
attribute [local go_sem ↓] Go.wp_at_zero Go.wp_at_succ comesTo_value_eq comesTo_skip_eq comesTo_enter_eq

set_option maxRecDepth 100000 in
set_option maxHeartbeats 4000000 in
theorem hup {w : World} {Q m : Nat} {v : Value} {A : List AL} {pm : Int → Option Nat} {c : Nat} (h : Tq w Q m v A pm c) (hC : Co A pm) (hc : c < 100000) {j : Nat} (hj : j < A.length) :
    Calls Try.prog 29 #[.iface 52 (.pointer (some ⟨Q, 0, none⟩)), .int .i64 (j : Int)] w fun e w' => e = .returned (.tuple #[]) ∧ ∃ pm', Tq w' Q m v (upF A j) pm' c ∧ Co (upF A j) pm' ∧ FrT Q m v w w' := by
  have HT := Lib.hid h
  have HC := Lib.hid hC
  have HJ := Lib.hid hj
  have HCC := Lib.hid hc
  clear h hC hj hc
  go_enter Try.func29, Try.ntmps29
  go_wp2_with fail
  go_loopw [1] (fun jv wr => ∃ (k : Nat) (B : List AL) (pb : Int → Option Nat), jv = .int .i64 (k : Int) ∧ k < B.length ∧ Tq wr Q m v B pb c ∧ Co B pb ∧ FrT Q m v w wr ∧ upF B k = upF A j) (fun jv _ => (intOf jv).toNat)
  case atStart => exact ⟨j, A, pm, rfl, HJ.out, HT.out, HC.out, FrT.refl _ _ _ _, rfl⟩
  case round =>
    obtain ⟨k, B, pb, rfl, hk, hT, hC, hF, hE⟩ := hrel
    have HT1 := Lib.hid hT
    have HC1 := Lib.hid hC
    have HF1 := Lib.hid hF
    have HE1 := Lib.hid hE
    have HK := Lib.hid hk
    have hkb : k < 4096 := Nat.lt_of_lt_of_le hk hC.len
    have hw1 : IntKind.i64.wrap ((k : Int) - 1) = (k : Int) - 1 := by rw [IntKind.wrap_i64]; omega
    obtain ⟨i, hi⟩ : ∃ i, i = (k - 1) / 2 := ⟨_, rfl⟩
    have HI := Lib.hid hi
    have hdv : Int.tdiv ((k : Int) - 1) 2 = (i : Int) := by
      by_cases h0 : k = 0
      · subst h0; rw [hi]; decide
      · rw [Int.tdiv_eq_ediv_of_nonneg (by omega), hi]; omega
    have hw2 : IntKind.i64.wrap (i : Int) = (i : Int) := by rw [IntKind.wrap_i64]; omega
    clear hT hC hF hE hk hi HT HC HJ
    have HKB := Lib.hid hkb
    by_cases h0 : k = 0
    case pos =>
      subst h0
      have hi0 : i = 0 := HI.out
      subst hi0
      have hbq : (((0 : Nat) : Int) == ((0 : Nat) : Int)) = true := rfl
      have HE2 := Lib.hid (show upF A j = B from by rw [← HE1.out]; unfold upF; rw [if_neg (by omega)])
      clear hkb
      go_wp2_with fail
      go_end0
      rw [HE2.out]
      exact ⟨rfl, pb, HT1.out, HC1.out, HF1.out⟩
    case neg =>
      have hbq : ((i : Int) == (k : Int)) = false := by rw [beq_eq_false_iff_ne]; have := HI.out; omega
      have KL := Lib.hid (qless HT1.out HK.out (show i < B.length from by have := HI.out; have := HK.out; omega))
      have HK0 := Lib.hid h0
      clear hkb h0
      go_wp2_with fail
      refine KL.out.mono ?_
      rintro e w1 ⟨rfl, hb⟩
      have HT2 := Lib.hid (HT1.out.below hb)
      have HF2 := Lib.hid (HF1.out.trans (FrT.of_below (Q := Q) (m := m) (v := v) hb) (RowN.refl _ _))
      clear hb KL HT1 HF1
      cases hlt : ltB (gA B k) (gA B i) with
      | false =>
        have HE2 := Lib.hid (show upF A j = B from by rw [← HE1.out]; unfold upF; rw [if_neg]; rintro ⟨_, h2⟩; rw [← HI.out, hlt] at h2; cases h2)
        clear hlt
        go_wp2_with fail
        go_end0
        rw [HE2.out]
        exact ⟨rfl, pb, HT2.out, HC1.out, HF2.out⟩
      | true =>
        have HE2 := Lib.hid (show upF (swapA B i k) i = upF A j from by
          rw [← HE1.out]
          conv => rhs; unfold upF
          rw [← HI.out, if_pos ⟨by have := HK0.out; omega, hlt⟩])
        have KS := Lib.hid (qswap HT2.out HC1.out HCC.out (show i < B.length from by have := HI.out; have := HK.out; omega) HK.out)
        have HC2 := Lib.hid (HC1.out.swap (show i < B.length from by have := HI.out; have := HK.out; omega) HK.out)
        clear hlt
        go_wp2_with fail
        refine KS.out.mono ?_
        rintro e w2 ⟨rfl, hT, hF⟩
        have HT3 := Lib.hid hT
        have HF3 := Lib.hid (HF2.out.trans hF (RowN.refl _ _))
        clear hT hF KS HT2 HF2
        go_wp2_with fail
        go_roundw
        case rel => exact ⟨i, swapA B i k, swapP B pb i k, by go_num, by rw [swapA_len]; have := HI.out; have := HK.out; omega, HT3.out, HC2.out, HF3.out, HE2.out⟩
        case measure => have := HI.out; have := HK0.out; simp [intOf]; omega
set_option maxRecDepth 100000 in
set_option maxHeartbeats 4000000 in
theorem hdown {w : World} {Q m : Nat} {v : Value} {A : List AL} {pm : Int → Option Nat} {c : Nat} (h : Tq w Q m v A pm c) (hC : Co A pm) (hc : c < 100000) {i0 n : Nat} (hi : i0 ≤ 4096) (hn : n ≤ A.length) :
    Calls Try.prog 28 #[.iface 52 (.pointer (some ⟨Q, 0, none⟩)), .int .i64 (i0 : Int), .int .i64 (n : Int)] w fun e w' => e = .returned (.bool (decide (i0 < (downF A i0 n).2))) ∧ ∃ pm', Tq w' Q m v (downF A i0 n).1 pm' c ∧ Co (downF A i0 n).1 pm' ∧ FrT Q m v w w' := by
  have HT := Lib.hid h
  have HC := Lib.hid hC
  have HI := Lib.hid hi
  have HCC := Lib.hid hc
  have HNA := Lib.hid hn
  have HN4 := Lib.hid (Nat.le_trans hn hC.len)
  clear h hC hi hc hn
  go_enter Try.func28, Try.ntmps28
  go_wp2_with fail
  go_loopw [7] (fun jv wr => ∃ (k : Nat) (B : List AL) (pb : Int → Option Nat), jv = .int .i64 (k : Int) ∧ k ≤ 4096 ∧ B.length = A.length ∧ Tq wr Q m v B pb c ∧ Co B pb ∧ FrT Q m v w wr ∧ downF B k n = downF A i0 n) (fun jv _ => n - (intOf jv).toNat)
  case atStart => exact ⟨i0, A, pm, rfl, HI.out, rfl, HT.out, HC.out, FrT.refl _ _ _ _, rfl⟩
  case round =>
    obtain ⟨k, B, pb, rfl, hk, hBl, hT, hC, hF, hE⟩ := hrel
    have HT1 := Lib.hid hT
    have HC1 := Lib.hid hC
    have HF1 := Lib.hid hF
    have HE1 := Lib.hid hE
    have HK := Lib.hid hk
    have HBL := Lib.hid hBl
    obtain ⟨a, ha⟩ : ∃ a, a = 2 * k + 1 := ⟨_, rfl⟩
    have hw1 : IntKind.i64.wrap (2 * (k : Int)) = 2 * (k : Int) := by rw [IntKind.wrap_i64]; omega
    have hw2 : IntKind.i64.wrap (2 * (k : Int) + 1) = (a : Int) := by rw [IntKind.wrap_i64]; omega
    have hw3 : IntKind.i64.wrap ((a : Int) + 1) = (a : Int) + 1 := by rw [IntKind.wrap_i64]; omega
    have hz : decide ((a : Int) < 0) = false := decide_eq_false (by omega)
    have HA := Lib.hid ha
    clear hT hC hF hE hk hBl ha HT HC HI
    by_cases hge : a ≥ n
    case pos =>
      have hd1 : decide ((a : Int) ≥ (n : Int)) = true := decide_eq_true (by omega)
      have hd2 : decide ((n : Int) ≤ (a : Int)) = true := decide_eq_true (by omega)
      have hd3 : decide (n ≤ a) = true := decide_eq_true (by omega)
      have HE2 := Lib.hid (show downF A i0 n = (B, k) from by rw [← HE1.out]; unfold downF; rw [dif_neg]; rintro ⟨h1, _⟩; have := HA.out; omega)
      clear hge
      go_wp2_with fail
      go_ret
      rw [HE2.out]
      exact ⟨by first | rfl | (congr 2; simp), pb, HT1.out, HC1.out, HF1.out⟩
    case neg =>
    have HLT := Lib.hid (show a < n by omega)
    have hd1 : decide ((a : Int) ≥ (n : Int)) = false := decide_eq_false (by omega)
    have hd2 : decide ((n : Int) ≤ (a : Int)) = false := decide_eq_false (by omega)
    have hd3 : decide (n ≤ a) = false := decide_eq_false (by omega)
    clear hge
    by_cases hb2 : a + 1 < n
    case pos =>
      have hd4 : decide ((a : Int) + 1 < (n : Int)) = true := decide_eq_true (by omega)
      have KL := Lib.hid (qless HT1.out (i := a + 1) (j := a) (by have := HBL.out; have := HNA.out; omega) (by have := HBL.out; have := HNA.out; omega))
      have HB2 := Lib.hid hb2
      clear hb2
      rw [show ((a + 1 : Nat) : Int) = (a : Int) + 1 from by omega] at KL
      go_wp2_with fail
      refine KL.out.mono ?_
      rintro e w1 ⟨rfl, hb⟩
      have HT2 := Lib.hid (HT1.out.below hb)
      have HF2 := Lib.hid (HF1.out.trans (FrT.of_below (Q := Q) (m := m) (v := v) hb) (RowN.refl _ _))
      clear hb KL HT1 HF1
      cases hlt : ltB (gA B (a + 1)) (gA B a) with
      | true =>
        have HLB := Lib.hid hlt
        clear hlt
        have HKD := Lib.hid (show kidA B k n = a + 1 from by unfold kidA; have hA := HA.out; rw [if_pos ⟨by have := HB2.out; omega, by rw [show 2 * k + 2 = a + 1 by omega, show 2 * k + 1 = a by omega]; exact HLB.out⟩]; omega)
        have HKI := Lib.hid (kidA_in (A := B) (i := k) (n := n) (by have := HA.out; have := HLT.out; omega))
        have KL2 := Lib.hid (qless HT2.out (show a + 1 < B.length from by have := HKI.out; rw [HKD.out] at this; have := HBL.out; have := HNA.out; omega) (show k < B.length from by have := HKI.out; rw [HKD.out] at this; have := HBL.out; have := HNA.out; omega))
        go_wp2_with fail
        refine KL2.out.mono ?_
        rintro e w2 ⟨rfl, hb⟩
        have HT3 := Lib.hid (HT2.out.below hb)
        have HF3 := Lib.hid (HF2.out.trans (FrT.of_below (Q := Q) (m := m) (v := v) hb) (RowN.refl _ _))
        clear hb KL2 HT2 HF2
        cases hl2 : ltB (gA B (a + 1)) (gA B k) with
        | false =>
          have HE2 := Lib.hid (show downF A i0 n = (B, k) from by rw [← HE1.out]; unfold downF; rw [dif_neg]; rintro ⟨_, h2⟩; rw [HKD.out, hl2] at h2; cases h2)
          clear hl2
          go_wp2_with fail
          go_ret
          rw [HE2.out]
          exact ⟨by first | rfl | (congr 2; simp), pb, HT3.out, HC1.out, HF3.out⟩
        | true =>
          have HE2 := Lib.hid (show downF (swapA B k (a + 1)) (a + 1) n = downF A i0 n from by
            rw [← HE1.out]
            conv => rhs; unfold downF
            rw [dif_pos (show 2 * k + 1 < n ∧ ltB (gA B (kidA B k n)) (gA B k) = true from ⟨by have := HA.out; have := HLT.out; omega, by rw [HKD.out]; exact hl2⟩), HKD.out])
          have KS := Lib.hid (qswap HT3.out HC1.out HCC.out (show k < B.length from by have := HKI.out; rw [HKD.out] at this; have := HBL.out; have := HNA.out; omega) (show a + 1 < B.length from by have := HKI.out; rw [HKD.out] at this; have := HBL.out; have := HNA.out; omega))
          have HC2 := Lib.hid (HC1.out.swap (i := k) (j := a + 1) (by have := HKI.out; rw [HKD.out] at this; have := HBL.out; have := HNA.out; omega) (by have := HKI.out; rw [HKD.out] at this; have := HBL.out; have := HNA.out; omega))
          clear hl2
          go_wp2_with fail
          refine KS.out.mono ?_
          rintro e w3 ⟨rfl, hT, hF⟩
          have HT4 := Lib.hid hT
          have HF4 := Lib.hid (HF3.out.trans hF (RowN.refl _ _))
          clear hT hF KS HT3 HF3
          go_wp2_with fail
          go_roundw
          case rel => exact ⟨a + 1, swapA B k (a + 1), swapP B pb k (a + 1), by go_num, by have := HKI.out; rw [HKD.out] at this; have := HN4.out; omega, by rw [swapA_len]; exact HBL.out, HT4.out, HC2.out, HF4.out, HE2.out⟩
          case measure => have := HKI.out; rw [HKD.out] at this; simp [intOf]; omega
      | false =>
        have HLB := Lib.hid hlt
        clear hlt
        have HKD := Lib.hid (show kidA B k n = a from by unfold kidA; have hA := HA.out; rw [if_neg]; omega; rintro ⟨_, h2⟩; rw [show 2 * k + 2 = a + 1 by omega, show 2 * k + 1 = a by omega, HLB.out] at h2; cases h2)
        have HKI := Lib.hid (kidA_in (A := B) (i := k) (n := n) (by have := HA.out; have := HLT.out; omega))
        have KL2 := Lib.hid (qless HT2.out (show a < B.length from by have := HKI.out; rw [HKD.out] at this; have := HBL.out; have := HNA.out; omega) (show k < B.length from by have := HKI.out; rw [HKD.out] at this; have := HBL.out; have := HNA.out; omega))
        go_wp2_with fail
        refine KL2.out.mono ?_
        rintro e w2 ⟨rfl, hb⟩
        have HT3 := Lib.hid (HT2.out.below hb)
        have HF3 := Lib.hid (HF2.out.trans (FrT.of_below (Q := Q) (m := m) (v := v) hb) (RowN.refl _ _))
        clear hb KL2 HT2 HF2
        cases hl2 : ltB (gA B (a)) (gA B k) with
        | false =>
          have HE2 := Lib.hid (show downF A i0 n = (B, k) from by rw [← HE1.out]; unfold downF; rw [dif_neg]; rintro ⟨_, h2⟩; rw [HKD.out, hl2] at h2; cases h2)
          clear hl2
          go_wp2_with fail
          go_ret
          rw [HE2.out]
          exact ⟨by first | rfl | (congr 2; simp), pb, HT3.out, HC1.out, HF3.out⟩
        | true =>
          have HE2 := Lib.hid (show downF (swapA B k (a)) (a) n = downF A i0 n from by
            rw [← HE1.out]
            conv => rhs; unfold downF
            rw [dif_pos (show 2 * k + 1 < n ∧ ltB (gA B (kidA B k n)) (gA B k) = true from ⟨by have := HA.out; have := HLT.out; omega, by rw [HKD.out]; exact hl2⟩), HKD.out])
          have KS := Lib.hid (qswap HT3.out HC1.out HCC.out (show k < B.length from by have := HKI.out; rw [HKD.out] at this; have := HBL.out; have := HNA.out; omega) (show a < B.length from by have := HKI.out; rw [HKD.out] at this; have := HBL.out; have := HNA.out; omega))
          have HC2 := Lib.hid (HC1.out.swap (i := k) (j := a) (by have := HKI.out; rw [HKD.out] at this; have := HBL.out; have := HNA.out; omega) (by have := HKI.out; rw [HKD.out] at this; have := HBL.out; have := HNA.out; omega))
          clear hl2
          go_wp2_with fail
          refine KS.out.mono ?_
          rintro e w3 ⟨rfl, hT, hF⟩
          have HT4 := Lib.hid hT
          have HF4 := Lib.hid (HF3.out.trans hF (RowN.refl _ _))
          clear hT hF KS HT3 HF3
          go_wp2_with fail
          go_roundw
          case rel => exact ⟨a, swapA B k (a), swapP B pb k (a), by go_num, by have := HKI.out; rw [HKD.out] at this; have := HN4.out; omega, by rw [swapA_len]; exact HBL.out, HT4.out, HC2.out, HF4.out, HE2.out⟩
          case measure => have := HKI.out; rw [HKD.out] at this; simp [intOf]; omega
    case neg =>
      have hd4 : decide ((a : Int) + 1 < (n : Int)) = false := decide_eq_false (by omega)
      have HB2 := Lib.hid hb2
      clear hb2
      have HKD := Lib.hid (show kidA B k n = a from by unfold kidA; have hA := HA.out; rw [if_neg]; omega; rintro ⟨h1, _⟩; exact HB2.out (by omega))
      have HKI := Lib.hid (kidA_in (A := B) (i := k) (n := n) (by have := HA.out; have := HLT.out; omega))
      have KL2 := Lib.hid (qless HT1.out (show a < B.length from by have := HKI.out; rw [HKD.out] at this; have := HBL.out; have := HNA.out; omega) (show k < B.length from by have := HKI.out; rw [HKD.out] at this; have := HBL.out; have := HNA.out; omega))
      go_wp2_with fail
      refine KL2.out.mono ?_
      rintro e w2 ⟨rfl, hb⟩
      have HT3 := Lib.hid (HT1.out.below hb)
      have HF3 := Lib.hid (HF1.out.trans (FrT.of_below (Q := Q) (m := m) (v := v) hb) (RowN.refl _ _))
      clear hb KL2 HT1 HF1
      cases hl2 : ltB (gA B (a)) (gA B k) with
      | false =>
        have HE2 := Lib.hid (show downF A i0 n = (B, k) from by rw [← HE1.out]; unfold downF; rw [dif_neg]; rintro ⟨_, h2⟩; rw [HKD.out, hl2] at h2; cases h2)
        clear hl2
        go_wp2_with fail
        go_ret
        rw [HE2.out]
        exact ⟨by first | rfl | (congr 2; simp), pb, HT3.out, HC1.out, HF3.out⟩
      | true =>
        have HE2 := Lib.hid (show downF (swapA B k (a)) (a) n = downF A i0 n from by
          rw [← HE1.out]
          conv => rhs; unfold downF
          rw [dif_pos (show 2 * k + 1 < n ∧ ltB (gA B (kidA B k n)) (gA B k) = true from ⟨by have := HA.out; have := HLT.out; omega, by rw [HKD.out]; exact hl2⟩), HKD.out])
        have KS := Lib.hid (qswap HT3.out HC1.out HCC.out (show k < B.length from by have := HKI.out; rw [HKD.out] at this; have := HBL.out; have := HNA.out; omega) (show a < B.length from by have := HKI.out; rw [HKD.out] at this; have := HBL.out; have := HNA.out; omega))
        have HC2 := Lib.hid (HC1.out.swap (i := k) (j := a) (by have := HKI.out; rw [HKD.out] at this; have := HBL.out; have := HNA.out; omega) (by have := HKI.out; rw [HKD.out] at this; have := HBL.out; have := HNA.out; omega))
        clear hl2
        go_wp2_with fail
        refine KS.out.mono ?_
        rintro e w3 ⟨rfl, hT, hF⟩
        have HT4 := Lib.hid hT
        have HF4 := Lib.hid (HF3.out.trans hF (RowN.refl _ _))
        clear hT hF KS HT3 HF3
        go_wp2_with fail
        go_roundw
        case rel => exact ⟨a, swapA B k (a), swapP B pb k (a), by go_num, by have := HKI.out; rw [HKD.out] at this; have := HN4.out; omega, by rw [swapA_len]; exact HBL.out, HT4.out, HC2.out, HF4.out, HE2.out⟩
        case measure => have := HKI.out; rw [HKD.out] at this; simp [intOf]; omega
end Go.Proofs.Ytfakejfpicjedaa
