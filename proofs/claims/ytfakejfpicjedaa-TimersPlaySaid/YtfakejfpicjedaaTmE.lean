/- container/heap's Fix, Push, Remove and Pop at a queue (layer 17). Conditions: the places'. -/
import Derived.Test.YtfakejfpicjedaaTmD
namespace Go.Proofs.Ytfakejfpicjedaa
set_option linter.unusedVariables false
open Go.ChangeShapes Go.WideShapes Go.ChangeAt Go.RowKit Tm
attribute [local go_sem ↓] Go.wp_at_zero Go.wp_at_succ comesTo_value_eq comesTo_skip_eq comesTo_enter_eq

set_option maxRecDepth 100000 in
set_option maxHeartbeats 4000000 in
theorem hfix {w : World} {Q m : Nat} {v : Value} {A : List AL} {pm : Int → Option Nat} {c : Nat} (h : Tq w Q m v A pm c) (hC : Co A pm) (hc : c < 100000) {i : Nat} (hi : i < A.length) :
    Calls Try.prog 21 #[.iface 52 (.pointer (some ⟨Q, 0, none⟩)), .int .i64 (i : Int)] w fun e w' => e = .returned (.tuple #[]) ∧ ∃ pm', Tq w' Q m v (fixF A i A.length) pm' c ∧ Co (fixF A i A.length) pm' ∧ FrT Q m v w w' := by
  have K0 := Lib.hid (qlen h)
  have K1 := Lib.hid (hdown h hC hc (i0 := i) (n := A.length) (by have := hC.len; omega) (Nat.le_refl _))
  have HI := Lib.hid hi
  have HCC := Lib.hid hc
  clear h hC hc hi
  go_enter Try.func21, Try.ntmps21
  go_wp2_with fail
  refine K0.out.mono ?_
  rintro e w1 ⟨rfl, hw⟩
  obtain rfl := hw
  go_wp2_with fail
  refine K1.out.mono ?_
  rintro e w2 ⟨rfl, pm2, hT, hC, hF⟩
  have HT := Lib.hid hT
  have HC := Lib.hid hC
  have HF := Lib.hid hF
  clear hT hC hF K0 K1
  by_cases hd : i < (downF A i A.length).2
  · have hd1 : decide (i < (downF A i A.length).2) = true := decide_eq_true hd
    have HE := Lib.hid (show fixF A i A.length = (downF A i A.length).1 from by unfold fixF; rw [if_pos hd])
    clear hd
    rw [hd1]
    go_wp2_with fail
    go_end0
    rw [HE.out]
    exact ⟨rfl, pm2, HT.out, HC.out, HF.out⟩
  · have hd1 : decide (i < (downF A i A.length).2) = false := decide_eq_false hd
    have HE := Lib.hid (show fixF A i A.length = upF (downF A i A.length).1 i from by unfold fixF; rw [if_neg hd])
    have K2 := Lib.hid (hup HT.out HC.out HCC.out (j := i) (by rw [downF_len]; exact HI.out))
    clear hd
    rw [hd1]
    go_wp2_with fail
    refine K2.out.mono ?_
    rintro e w3 ⟨rfl, pm3, hT, hC, hF⟩
    have HT3 := Lib.hid hT
    have HC3 := Lib.hid hC
    have HF3 := Lib.hid (HF.out.trans hF (RowN.refl _ _))
    clear hT hC hF K2
    go_wp2_with fail
    go_end0
    rw [HE.out]
    exact ⟨rfl, pm3, HT3.out, HC3.out, HF3.out⟩
set_option maxRecDepth 100000 in
set_option maxHeartbeats 4000000 in
theorem hpush {w : World} {Q m : Nat} {v : Value} {A : List AL} {pm : Int → Option Nat} (h : Tq w Q m v A pm A.length) (hC : Co A pm) {x : AL} (hx : i64T x.2 ∧ 0 ≤ x.1 ∧ x.1 < 1099511627776) (hn : pm x.2 = none) (hl : A.length < 4096) :
    Calls Try.prog 22 #[.iface 52 (.pointer (some ⟨Q, 0, none⟩)), .iface 42 (.agg #[.int .i64 x.1, .int .i64 x.2])] w fun e w' => e = .returned (.tuple #[]) ∧ ∃ v' pm', Tq w' Q m v' (pushF A x) pm' (A.length + 1) ∧ Co (pushF A x) pm' ∧ FrT Q m v w w' ∧ RowN w v v' := by
  have K0 := Lib.hid (qpush h hC hx.1 hn hl)
  have HC := Lib.hid (hC.push hx hn hl)
  have HL := Lib.hid hl
  clear h hC hx hn hl
  obtain ⟨x1, x2⟩ := x
  dsimp only at K0 HC ⊢
  go_enter Try.func22, Try.ntmps22
  go_wp2_with fail
  refine K0.out.mono ?_
  rintro e w1 ⟨rfl, v1, hT, hF, hR⟩
  have HT := Lib.hid hT
  have HF := Lib.hid hF
  have HR := Lib.hid hR
  have K1 := Lib.hid (qlen hT)
  have hlen : (A ++ [(x1, x2)]).length = A.length + 1 := by simp
  rw [hlen] at K1
  have k2 := hup hT HC.out (by have := HL.out; omega) (j := A.length) (by rw [hlen]; omega)
  obtain ⟨N, hN⟩ : ∃ N : Int, N = ((A.length + 1 : Nat) : Int) := ⟨_, rfl⟩
  obtain ⟨M, hM⟩ : ∃ M : Int, M = (A.length : Int) := ⟨_, rfl⟩
  have hw1 : IntKind.i64.wrap (N - 1) = M := by have := HL.out; rw [IntKind.wrap_i64]; omega
  rw [← hN] at K1
  rw [← hM] at k2
  have K2 := Lib.hid k2
  clear hT hF hR K0 hlen hN hM k2
  go_wp2_with fail
  refine K1.out.mono ?_
  rintro e w2 ⟨rfl, hw⟩
  obtain rfl := hw
  go_wp2_with fail
  refine K2.out.mono ?_
  rintro e w3 ⟨rfl, pm3, hT, hC, hF⟩
  have HT3 := Lib.hid hT
  have HC3 := Lib.hid hC
  have HF3 := Lib.hid (HF.out.trans hF HR.out)
  clear hT hC hF K1 K2 hw1
  go_wp2_with fail
  go_end0
  exact ⟨rfl, v1, pm3, HT3.out, HC3.out, HF3.out, HR.out⟩
theorem take_len {A : List AL} {k : Nat} (h : A.length = k + 1) : (A.take k).length = k := by rw [List.length_take]; omega
set_option maxRecDepth 100000 in
set_option maxHeartbeats 4000000 in
theorem hpop {w : World} {Q m : Nat} {v : Value} {A : List AL} {pm : Int → Option Nat} {k : Nat} (h : Tq w Q m v A pm (k + 1)) (hC : Co A pm) (hk : A.length = k + 1) :
    Calls Try.prog 24 #[.iface 52 (.pointer (some ⟨Q, 0, none⟩))] w fun e w' => e = .returned (.iface 42 (.agg #[.int .i64 (gA A 0).1, .int .i64 (gA A 0).2])) ∧ ∃ v' pm', Tq w' Q m v' ((popF A).take k) pm' k ∧ Co ((popF A).take k) pm' ∧ FrT Q m v w w' ∧ RowN w v v' := by
  have K0 := Lib.hid (qlen h)
  rw [hk] at K0
  have hk4 : k < 4096 := by have := hC.len; omega
  have HK := Lib.hid hk
  have k1 := qswap h hC (by omega) (i := 0) (j := k) (by omega) (by omega)
  rw [Int.natCast_zero] at k1
  have K1 := Lib.hid k1
  clear k1
  have HC1 := Lib.hid (hC.swap (i := 0) (j := k) (by omega) (by omega))
  have HP := Lib.hid (show popF A = (downF (swapA A 0 k) 0 k).1 from by unfold popF; rw [hk, Nat.add_sub_cancel])
  have HLA := Lib.hid (show gA (popF A) k = gA A 0 from by have := popF_last (A := A) (by omega); rw [hk, Nat.add_sub_cancel] at this; exact this)
  obtain ⟨N, hN⟩ : ∃ N : Int, N = ((k + 1 : Nat) : Int) := ⟨_, rfl⟩
  have hw1 : IntKind.i64.wrap (N - 1) = (k : Int) := by rw [IntKind.wrap_i64]; omega
  rw [← hN] at K0
  clear hN
  have HK4 := Lib.hid hk4
  clear h hC hk hk4
  go_enter Try.func24, Try.ntmps24
  go_wp2_with fail
  refine K0.out.mono ?_
  rintro e w1 ⟨rfl, hw⟩
  obtain rfl := hw
  go_wp2_with fail
  refine K1.out.mono ?_
  rintro e w2 ⟨rfl, hT, hF⟩
  have HF2 := Lib.hid hF
  have k2 := hdown hT HC1.out (by have := HK4.out; omega) (i0 := 0) (n := k) (by omega) (by rw [swapA_len, HK.out]; omega)
  rw [Int.natCast_zero] at k2
  have K2 := Lib.hid k2
  clear k2
  clear hT hF K0 K1 hw1
  go_wp2_with fail
  refine K2.out.mono ?_
  rintro e w3 ⟨rfl, pm3, hT, hC, hF⟩
  rw [← HP.out] at hT hC
  have HF3 := Lib.hid (HF2.out.trans hF (RowN.refl _ _))
  have hlen : (popF A).length = k + 1 := by rw [popF_len, HK.out]
  have K3 := Lib.hid (qpop hT hlen (by have := HK4.out; omega) (hC.at (by omega)).1 (hC.pos k (by omega)))
  have HC3 := Lib.hid (hC.pop hlen)
  rw [HLA.out] at K3 HC3
  obtain ⟨x, hx⟩ : ∃ x, x = gA A 0 := ⟨_, rfl⟩
  rw [← hx] at K3 HC3
  have HXE := Lib.hid hx
  clear hx
  obtain ⟨x1, x2⟩ := x
  dsimp only at K3 HC3
  clear hT hC hF K2 hlen HLA HP
  go_wp2_with fail
  refine K3.out.mono ?_
  rintro e w4 ⟨rfl, v4, hT, hF, hR⟩
  have HT4 := Lib.hid hT
  have HF4 := Lib.hid (HF3.out.trans hF (RowN.refl _ _))
  have HR4 := Lib.hid (RowN.trans (RowN.refl _ v) hR HF3.out.size)
  clear hT hF hR K3
  go_wp2_with fail
  go_ret
  exact ⟨by rw [← HXE.out]; rfl, v4, _, HT4.out, HC3.out, HF4.out, HR4.out⟩
set_option maxRecDepth 100000 in
set_option maxHeartbeats 4000000 in
theorem hrem {w : World} {Q m : Nat} {v : Value} {A : List AL} {pm : Int → Option Nat} {k : Nat} (h : Tq w Q m v A pm (k + 1)) (hC : Co A pm) (hk : A.length = k + 1) {i : Nat} (hi : i ≤ k) :
    Calls Try.prog 23 #[.iface 52 (.pointer (some ⟨Q, 0, none⟩)), .int .i64 (i : Int)] w fun e w' => (∃ u, e = .returned u) ∧ ∃ v' pm', Tq w' Q m v' ((remF A i).take k) pm' k ∧ Co ((remF A i).take k) pm' ∧ FrT Q m v w w' ∧ RowN w v v' := by
  have K0 := Lib.hid (qlen h)
  rw [hk] at K0
  have hk4 : k < 4096 := by have := hC.len; omega
  have HK := Lib.hid hk
  have HK4 := Lib.hid hk4
  have HI := Lib.hid hi
  have HT0 := Lib.hid h
  have HC0 := Lib.hid hC
  obtain ⟨N, hN⟩ : ∃ N : Int, N = ((k + 1 : Nat) : Int) := ⟨_, rfl⟩
  have hw1 : IntKind.i64.wrap (N - 1) = (k : Int) := by rw [IntKind.wrap_i64]; omega
  rw [← hN] at K0
  clear hN
  clear h hC hk hk4 hi
  go_enter Try.func23, Try.ntmps23
  go_wp2_with fail
  refine K0.out.mono ?_
  rintro e w1 ⟨rfl, hw⟩
  obtain rfl := hw
  by_cases hki : k = i
  case pos =>
    have hne : ((k : Int) != (i : Int)) = false := by rw [bne_eq_false_iff_eq]; omega
    have HE := Lib.hid (show remF A i = A from by unfold remF; rw [if_pos (by rw [HK.out]; omega)])
    have HFR := Lib.hid (FrT.refl Q m v w1)
    clear hki K0
    have hlen : (A).length = k + 1 := by exact HK.out
    have K3 := Lib.hid (qpop HT0.out hlen (by have := HK4.out; omega) (HC0.out.at (by omega)).1 (HC0.out.pos k (by omega)))
    have HC3 := Lib.hid (HC0.out.pop hlen)
    clear hlen
    generalize gA (A) k = x at *
    obtain ⟨x1, x2⟩ := x
    dsimp only at K3 HC3 ⊢
    go_wp2_with fail
    refine K3.out.mono ?_
    rintro e w9 ⟨rfl, v4, hT, hF, hR⟩
    have HT4 := Lib.hid hT
    have HF4 := Lib.hid (HFR.out.trans hF (RowN.refl _ _))
    have HR4 := Lib.hid (RowN.trans (RowN.refl _ v) hR (HFR.out).size)
    clear hT hF hR K3
    go_wp2_with fail
    go_ret
    rw [HE.out]
    exact ⟨⟨_, rfl⟩, v4, _, HT4.out, HC3.out, HF4.out, HR4.out⟩
  case neg =>
    have hne : ((k : Int) != (i : Int)) = true := by rw [bne_iff_ne]; omega
    have HIK := Lib.hid (show i < k from by have := HI.out; omega)
    have HE := Lib.hid (show remF A i = fixF (swapA A i k) i k from by unfold remF; rw [HK.out, Nat.add_sub_cancel, if_neg (by have := HIK.out; omega)])
    have K1 := Lib.hid (qswap HT0.out HC0.out (by have := HK4.out; omega) (i := i) (j := k) (by have := HI.out; have := HK.out; omega) (by have := HK.out; omega))
    have HC1 := Lib.hid (HC0.out.swap (i := i) (j := k) (by have := HI.out; have := HK.out; omega) (by have := HK.out; omega))
    clear hki K0
    go_wp2_with fail
    refine K1.out.mono ?_
    rintro e w2 ⟨rfl, hT, hF⟩
    have HF2 := Lib.hid hF
    have K2 := Lib.hid (hdown hT HC1.out (by have := HK4.out; omega) (i0 := i) (n := k) (by have := HIK.out; have := HK4.out; omega) (by rw [swapA_len, HK.out]; omega))
    clear hT hF K1 hw1
    go_wp2_with fail
    refine K2.out.mono ?_
    rintro e w3 ⟨rfl, pm3, hT, hC, hF⟩
    have HT3 := Lib.hid hT
    have HC3' := Lib.hid hC
    have HF3 := Lib.hid (HF2.out.trans hF (RowN.refl _ _))
    clear hT hC hF K2
    by_cases hd : i < (downF (swapA A i k) i k).2
    case pos =>
      have hd1 : decide (i < (downF (swapA A i k) i k).2) = true := decide_eq_true hd
      have HE2 := Lib.hid (show fixF (swapA A i k) i k = (downF (swapA A i k) i k).1 from by unfold fixF; rw [if_pos hd])
      rw [HE2.out] at HE
      clear hd
      rw [hd1]
      have hlen : ((downF (swapA A i k) i k).1).length = k + 1 := by rw [downF_len, swapA_len, HK.out]
      have K3 := Lib.hid (qpop HT3.out hlen (by have := HK4.out; omega) (HC3'.out.at (by omega)).1 (HC3'.out.pos k (by omega)))
      have HC3 := Lib.hid (HC3'.out.pop hlen)
      clear hlen
      generalize gA ((downF (swapA A i k) i k).1) k = x at *
      obtain ⟨x1, x2⟩ := x
      dsimp only at K3 HC3 ⊢
      go_wp2_with fail
      refine K3.out.mono ?_
      rintro e w9 ⟨rfl, v4, hT, hF, hR⟩
      have HT4 := Lib.hid hT
      have HF4 := Lib.hid (HF3.out.trans hF (RowN.refl _ _))
      have HR4 := Lib.hid (RowN.trans (RowN.refl _ v) hR (HF3.out).size)
      clear hT hF hR K3
      go_wp2_with fail
      go_ret
      rw [HE.out]
      exact ⟨⟨_, rfl⟩, v4, _, HT4.out, HC3.out, HF4.out, HR4.out⟩
    case neg =>
      have hd1 : decide (i < (downF (swapA A i k) i k).2) = false := decide_eq_false hd
      have HE2 := Lib.hid (show fixF (swapA A i k) i k = upF (downF (swapA A i k) i k).1 i from by unfold fixF; rw [if_neg hd])
      rw [HE2.out] at HE
      have K4 := Lib.hid (hup HT3.out HC3'.out (by have := HK4.out; omega) (j := i) (by rw [downF_len, swapA_len, HK.out]; have := HIK.out; omega))
      clear hd
      rw [hd1]
      go_wp2_with fail
      refine K4.out.mono ?_
      rintro e w5 ⟨rfl, pm5, hT, hC, hF⟩
      have HT5 := Lib.hid hT
      have HC5 := Lib.hid hC
      have HF5 := Lib.hid (HF3.out.trans hF (RowN.refl _ _))
      clear hT hC hF K4 HT3 HC3' HF3
      have hlen : (upF (downF (swapA A i k) i k).1 i).length = k + 1 := by rw [upF_len, downF_len, swapA_len, HK.out]
      have K3 := Lib.hid (qpop HT5.out hlen (by have := HK4.out; omega) (HC5.out.at (by omega)).1 (HC5.out.pos k (by omega)))
      have HC3 := Lib.hid (HC5.out.pop hlen)
      clear hlen
      generalize gA (upF (downF (swapA A i k) i k).1 i) k = x at *
      obtain ⟨x1, x2⟩ := x
      dsimp only at K3 HC3 ⊢
      go_wp2_with fail
      refine K3.out.mono ?_
      rintro e w9 ⟨rfl, v4, hT, hF, hR⟩
      have HT4 := Lib.hid hT
      have HF4 := Lib.hid (HF5.out.trans hF (RowN.refl _ _))
      have HR4 := Lib.hid (RowN.trans (RowN.refl _ v) hR (HF5.out).size)
      clear hT hF hR K3
      go_wp2_with fail
      go_ret
      rw [HE.out]
      exact ⟨⟨_, rfl⟩, v4, _, HT4.out, HC3.out, HF4.out, HR4.out⟩
end Go.Proofs.Ytfakejfpicjedaa
