/- FleetFails walked. Condition: math/bits' table of trailing zeros lies as its text lays it. -/
import Derived.Test.YtdpfbpmdpdfpdaaDoorFlF
import Derived.Test.YtdpfbpmdpdfpdaaDoorFlO
import Derived.Test.YtdpfbpmdpdfpdaaDoorFlT
namespace Go.Proofs.YtdpfbpmdpdfpdaaDoor
set_option linter.unusedVariables false
open Go.ChangeShapes Go.WideShapes Go.ChangeAt Go.RowKit
attribute [local go_sem ↓] Go.wp_at_zero Go.wp_at_succ comesTo_value_eq comesTo_skip_eq comesTo_enter_eq

set_option maxRecDepth 100000 in
set_option maxHeartbeats 8000000 in
theorem ffails_walk (n s S D P : Int) (ad : Option Addr) (ll lcap : Nat) (A : Nat → Int × Int) (w : World) (hT : TabZ w) (hA : ToldsAt w ad ll A) :
    Calls Tryd.prog 8 #[.agg #[.int .i64 n, .int .i64 s], .agg #[.int .i64 S, .int .i64 D, .int .i64 P], .slice ad ll lcap] w fun e w' => e = .returned (.bool true) ∧ Below w.heap.size w w' := by
  have hmx : Tryd.prog.follows .mixedOrders = true := by kernel_rfl
  have b1 := below_alloc (Below.refl _ w) (.cells #[.int .i64 n, .int .i64 s] 43)
  have b2 := below_alloc (Below.refl _ (w.alloc (.cells #[.int .i64 n, .int .i64 s] 43))) (.cells #[.int .i64 S, .int .i64 D, .int .i64 P] 45)
  have n1 := World.alloc_heap_new w (.cells #[.int .i64 n, .int .i64 s] 43)
  have n2 := World.alloc_heap_new (w.alloc (.cells #[.int .i64 n, .int .i64 s] 43)) (.cells #[.int .i64 S, .int .i64 D, .int .i64 P] 45)
  rw [World.size_alloc] at n2
  have N1 := Lib.hid ((b2.block _ (by simp)).trans n1)
  have N2 := Lib.hid n2
  have HA := Lib.hid (below_next b1 b2)
  have HT := Lib.hid hT
  have HAT := Lib.hid hA
  clear b1 b2 n1 n2 hT hA
  go_enter Tryd.func8, Tryd.ntmps8
  go_upto_region 1 with fail
  generalize (w.alloc (.cells #[.int .i64 n, .int .i64 s] 43)).alloc (.cells #[.int .i64 S, .int .i64 D, .int .i64 P] 45) = U at *
  have a0 := cell_of_block (o := 0) N1.out rfl
  have a1 := cell_of_block (o := 1) N1.out rfl
  have r0 := cell_of_block (o := 0) N2.out rfl
  have r1 := cell_of_block (o := 1) N2.out rfl
  have r2 := cell_of_block (o := 2) N2.out rfl
  have KN := Lib.hid (fnew_any n s S D P U)
  go_wp2_with fail
  refine KN.out.mono ?_
  rintro e w1 (⟨hno, rfl, hb⟩ | ⟨hyes, F, G, rfl, hfl, hF, hG, hb⟩)
  · have HB := Lib.hid (below_next HA.out hb)
    have K1 := Lib.hid (fone w1 (HT.out.below HB.out))
    clear hno hb a0 a1 r0 r1 r2
    go_wp2_with fail
    refine K1.out.mono ?_
    rintro e w2 ⟨rfl, hb2⟩
    have HB2 := Lib.hid (below_next HB.out hb2)
    clear hb2
    go_wp2_with fail
    go_ret
    exact ⟨rfl, HB2.out⟩
  have hok : 1 ≤ n ∧ n ≤ 64 ∧ 0 ≤ s ∧ s < n := by unfold newOk at hyes; rw [Bool.and_eq_true, decide_eq_true_eq] at hyes; exact hyes.1
  obtain ⟨N, rfl⟩ : ∃ N : Nat, n = (N : Int) := ⟨n.toNat, by omega⟩
  obtain ⟨M, rfl⟩ : ∃ M : Nat, s = (M : Int) := ⟨s.toNat, by omega⟩
  have HINV := Lib.hid (newF_inv N M S D P (by omega) (by omega) (by omega))
  have HFL := Lib.hid hfl
  have HNM := Lib.hid hok
  have HFG := Lib.hid (show w.heap.size ≤ F ∧ w.heap.size ≤ G from ⟨Nat.le_trans HA.out.size hF, Nat.le_trans HA.out.size hG⟩)
  have HUF := Lib.hid (show w.heap.size + 1 < F ∧ w.heap.size + 1 < G by have := (Array.getElem?_eq_some_iff.1 N2.out).1; omega)
  have HB1 := Lib.hid (below_next HA.out hb)
  have N1' := Lib.hid ((hb.block _ (Array.getElem?_eq_some_iff.1 N1.out).1).trans N1.out)
  clear hyes hfl hF hG hb hok a0 a1 r0 r1 r2 KN N1 N2
  go_wp2_with fail
  go_loopw [9] (fun i wr => ∃ (j : Nat) (f : FV), j ≤ 60 ∧ i = .int .i64 j ∧ Fl wr F G f ∧ FInv f N M j ∧ Fr (fun x => x = F ∨ x = G) w1 wr) (fun i _ => 60 - (intOf i).toNat)
  case atStart => exact ⟨0, newF N M S D P, by decide, rfl, HFL.out, HINV.out, Fr.refl _ _⟩
  case round =>
    obtain ⟨j, f, hj, rfl, hfl, hinv, hfr⟩ := hrel
    have HF := Lib.hid hfl
    have HI := Lib.hid hinv
    have HFR := Lib.hid hfr
    have HBW := Lib.hid (HB1.out.trans (hfr.below (B := w.heap.size) HB1.out.size (fun x hx => by have := HFG.out; rcases hx with rfl | rfl; exact this.1; exact this.2)))
    have NBX := Lib.hid ((hfr.block _ (Array.getElem?_eq_some_iff.1 N1'.out).1 (fun e => by have := HUF.out; omega)).trans N1'.out)
    have HTR := Lib.hid (HT.out.below HBW.out)
    have HTL := Lib.hid (HAT.out.below HBW.out)
    clear hfl hinv hfr HFL HINV
    by_cases hj2 : j < ll ∧ j < 60
    case neg =>
      have K1 := Lib.hid (fone wr HTR.out)
      by_cases hjl : j < ll
      · have d1 : decide (j < ll) = true := decide_eq_true hjl
        have d2 : decide ((j : Int) < (ll : Int)) = true := decide_eq_true (by omega)
        have d3 : decide ((j : Int) < 60) = false := decide_eq_false (by omega)
        clear hj2 hjl
        go_wp2_with fail
        refine K1.out.mono ?_
        rintro e w2 ⟨rfl, hb2⟩
        have HB2 := Lib.hid (below_next HBW.out hb2)
        clear hb2
        go_wp2_with fail
        go_ret
        exact ⟨rfl, HB2.out⟩
      · have d1 : decide (j < ll) = false := decide_eq_false hjl
        have d2 : decide ((j : Int) < (ll : Int)) = false := decide_eq_false (by omega)
        clear hj2 hjl
        go_wp2_with fail
        refine K1.out.mono ?_
        rintro e w2 ⟨rfl, hb2⟩
        have HB2 := Lib.hid (below_next HBW.out hb2)
        clear hb2
        go_wp2_with fail
        go_ret
        exact ⟨rfl, HB2.out⟩
    case pos =>
    obtain ⟨hjl, hj60⟩ := hj2
    have d1 : decide (j < ll) = true := decide_eq_true hjl
    have d2 : decide ((j : Int) < (ll : Int)) = true := decide_eq_true (by omega)
    have d3 : decide ((j : Int) < 60) = true := decide_eq_true (by omega)
    have hjI : (j : Int) < (ll : Int) := by omega
    have hw1 : IntKind.i64.wrap ((j : Int) + 1) = (j : Int) + 1 := by rw [IntKind.wrap_i64]; omega
    obtain ⟨tb, toff, had, hcells⟩ := HTL.out.2 (by omega)
    obtain ⟨t0, t1⟩ := hcells j hjl
    subst had
    have HTC := Lib.hid (And.intro t0 t1)
    have HTELL := Lib.hid (HI.out.tell (by omega) (A j).1 (A j).2)
    have HLE := Lib.hid (show card (actF f &&& upF f) ≤ 64 from card_le _)
    have HSWB := Lib.hid (show 0 ≤ f.sw ∧ f.sw ≤ 1000 by have := HI.out.sw; omega)
    have KT := Lib.hid (fun X (hX : Below wr.heap.size wr X) => tell_fl (HF.out.below hX) (HTR.out.below hX) (by have := HFG.out.1; have := HT.out.1; omega) (by have := HFG.out.2; have := HT.out.1; omega) (by have := HSWB.out; omega) (A j).1 (A j).2)
    have KA := Lib.hid (fun X (hX : Below wr.heap.size wr X) => factive_fl (HF.out.below hX))
    have KU := Lib.hid (fun X (hX : Below wr.heap.size wr X) => up_fl (HF.out.below hX) (HTR.out.below hX))
    have KS := Lib.hid (fun X (hX : Below wr.heap.size wr X) => fswaps_fl (HF.out.below hX))
    have KX := Lib.hid (fun X => and_any (actF f) (upF f) X)
    have KC := Lib.hid (fun X => blen_any (actF f &&& upF f) X)
    have HCF := Lib.hid (show cF f = card (actF f &&& upF f) from rfl)
    have HBwr := Lib.hid (Below.refl wr.heap.size wr)
    have HJ60 := Lib.hid hj60
    clear t0 t1 hcells hj60
    generalize card (actF f &&& upF f) = was at *
    generalize nv (actF f &&& upF f) = va at *
    generalize nv (actF f) = vb at *
    generalize nv (upF f) = vc at *
    generalize (A j).1 = tn at *
    generalize (A j).2 = tk at *
    go_wp2_with fail
    refine (KA.out _ HBwr.out).mono ?_
    rintro e w' ⟨rfl, rfl⟩
    go_wp2_with fail
    refine (KU.out _ HBwr.out).mono ?_
    rintro e wa ⟨rfl, hb⟩
    have HBwa := Lib.hid (below_next HBwr.out hb)
    clear hb
    go_wp2_with fail
    refine (KX.out _).mono ?_
    rintro e w' ⟨rfl, rfl⟩
    go_wp2_with fail
    refine (KC.out _).mono ?_
    rintro e w' ⟨rfl, rfl⟩
    go_wp2_with fail
    refine (KS.out _ HBwa.out).mono ?_
    rintro e w' ⟨rfl, rfl⟩
    have HTC2 := Lib.hid (And.intro ((HBwa.out.cell (p := ⟨tb, toff + j * 2, none⟩) (World.block_lt_of_cell? wr _ HTC.out.1)).trans HTC.out.1) ((HBwa.out.cell (p := ⟨tb, toff + j * 2 + 1, none⟩) (World.block_lt_of_cell? wr _ HTC.out.2)).trans HTC.out.2))
    have t0 := HTC2.out.1
    have t1 := HTC2.out.2
    have hz := World.block_lt_of_cell? wa _ t0
    dsimp only at hz
    go_upto_region 8 with fail
    refine wp_region_grow_tail 11 (fun w' => Below wa.heap.size wa w') hmx (by kernel_rfl) (Below.refl _ _).drew ?_
    simp only [List.take]
    iterate 11 (refine textS_run ?_ ?_ (fun W hS => ?_) ?_; rotate_left; (focus go_simp); (focus (obtain ⟨hc, hf⟩ := bcell hS; go_simp; first | rfl | exact ⟨rfl, hS⟩ | exact hS)); (try go_simp))
    refine textS_nil ?_
    intro wb hbb
    have HBwb := Lib.hid (below_next HBwa.out hbb)
    clear hbb t0 t1 hz
    go_wp2_with fail
    refine (KT.out _ HBwb.out).mono ?_
    rintro e wc ⟨rfl, hfl, hfr⟩
    have HFc := Lib.hid hfl
    have HFRc := Lib.hid ((HFR.out.trans (Fr.of_below (F := fun _ => False) HBwb.out) (fun _ h => h.elim)).trans hfr (fun x hx => .inl hx))
    clear hfl hfr KT KA KU KS KX KC HFR HBW HTR HTL NBX HBwa HBwb HTC HTC2
    generalize (tellF f tn tk).2 = code at *
    generalize hf1 : (tellF f tn tk).1 = f1 at *
    clear hf1
    have HBWc := Lib.hid (HB1.out.trans (HFRc.out.below (B := w.heap.size) HB1.out.size (fun x hx => by have := HFG.out; rcases hx with rfl | rfl; exact this.1; exact this.2)))
    have NBc := Lib.hid ((HFRc.out.block _ (Array.getElem?_eq_some_iff.1 N1'.out).1 (fun e => by have := HUF.out; omega)).trans N1'.out)
    have HTc := Lib.hid (HT.out.below HBWc.out)
    have KA := Lib.hid (fun X (hX : Below wc.heap.size wc X) => factive_fl (HFc.out.below hX))
    have KU := Lib.hid (fun X (hX : Below wc.heap.size wc X) => up_fl (HFc.out.below hX) (HTc.out.below hX))
    have KS := Lib.hid (fun X (hX : Below wc.heap.size wc X) => fswaps_fl (HFc.out.below hX))
    have KLn := Lib.hid (fun X (hX : Below wc.heap.size wc X) => flen_fl (HFc.out.below hX))
    have KX := Lib.hid (fun X => and_any (actF f1) (upF f1) X)
    have KC := Lib.hid (fun X => blen_any (actF f1 &&& upF f1) X)
    have KCU := Lib.hid (fun X => blen_any (upF f1) X)
    have KLe := Lib.hid (fun X => show Calls Tryd.prog 32 #[.int .u64 (nv (actF f1)), .int .u64 (nv (upF f1))] X fun e w' => e = .returned (.int .u64 (nv (goneF f1))) ∧ X = w' from bless_any (actF f1) (upF f1) X)
    have HCF1 := Lib.hid (show cF f1 = card (actF f1 &&& upF f1) from rfl)
    have HALL := Lib.hid (HTELL.out.1.all)
    have HLEN := Lib.hid HTELL.out.1.len
    have HCU := Lib.hid (show card (upF f1) ≤ 64 from card_le _)
    have HC1 := Lib.hid (show card (actF f1 &&& upF f1) ≤ 64 from card_le _)
    have HSW1 := Lib.hid (show 0 ≤ f1.sw ∧ f1.sw ≤ 1000 by have := HTELL.out.1.sw; omega)
    have hGZ : goneF f1 = 0#64 ∨ nv (goneF f1) ≠ 0 := by
      by_cases h : goneF f1 = 0#64
      · exact .inl h
      · exact .inr (fun e => h (nv_inj (e.trans nv_zero.symm)))
    have HGZ := Lib.hid hGZ
    have HBwc := Lib.hid (Below.refl wc.heap.size wc)
    have CB1 := Lib.hid (fun X (hX : Below wc.heap.size wc X) => cell_of_block (o := 1) ((hX.block _ (Array.getElem?_eq_some_iff.1 NBc.out).1).trans NBc.out) rfl)
    clear hGZ
    rw [HLEN.out] at KLn
    generalize hnow : card (actF f1 &&& upF f1) = now at *
    generalize hcu : card (upF f1) = cu at *
    have HNOW := Lib.hid hnow
    clear hnow hcu
    obtain ⟨vg, hvg⟩ : ∃ v, v = nv (goneF f1) := ⟨_, rfl⟩
    have HVG := Lib.hid hvg
    rw [← hvg] at KLe
    clear hvg
    generalize nv (actF f1 &&& upF f1) = va2 at *
    generalize nv (actF f1) = vb2 at *
    generalize nv (upF f1) = vc2 at *
    have hwg : IntKind.i64.wrap ((N : Int) - (cu : Int)) = (N : Int) - (cu : Int) := by have := HCU.out; have := HNM.out; rw [IntKind.wrap_i64]; omega
    have hws : IntKind.i64.wrap (f.sw + 1) = f.sw + 1 := by have := HSWB.out; rw [IntKind.wrap_i64]; omega
    have hwm : IntKind.i64.wrap ((was : Int) - 1) = (was : Int) - 1 := by have := HLE.out; rw [IntKind.wrap_i64]; omega
    have e1 : decide (f1.sw < f.sw) = false := decide_eq_false (by have := HTELL.out.2.1; omega)
    have e2 : decide (f1.sw > f.sw + 1) = false := decide_eq_false (by have := HTELL.out.2.2.1; omega)
    have e3 : decide (f.sw + 1 < f1.sw) = false := decide_eq_false (by have := HTELL.out.2.2.1; omega)
    have e4 : decide ((now : Int) < (was : Int) - 1) = false := decide_eq_false (by have := HTELL.out.2.2.2.2; rw [HCF.out, HCF1.out] at this; omega)
    have HIN1 := Lib.hid HTELL.out.1
    have HGR := Lib.hid (show f.sw < f1.sw → ¬ (now : Int) < (was : Int) from fun h => by have := HTELL.out.2.2.2.1 h; rw [HCF.out, HCF1.out] at this; omega)
    have HGZ0 := Lib.hid (show (N : Int) - (cu : Int) ≤ (M : Int) → vg = 0 from fun h => by rw [HVG.out, HALL.out h]; rfl)
    clear HTELL HALL HGZ HVG
    go_wp2_with fail
    refine (KLn.out _ HBwc.out).mono ?_
    rintro e w' ⟨rfl, rfl⟩
    go_wp2_with fail
    refine (KU.out _ HBwc.out).mono ?_
    rintro e wd ⟨rfl, hb⟩
    have HBwd := Lib.hid (below_next HBwc.out hb)
    clear hb
    go_wp2_with fail
    refine (KCU.out _).mono ?_
    rintro e w' ⟨rfl, rfl⟩
    have c1 := CB1.out wd HBwd.out
    by_cases hgo : (N : Int) - (cu : Int) ≤ (M : Int)
    · have g0 : decide ((N : Int) - (cu : Int) ≤ (M : Int)) = true := decide_eq_true hgo
      obtain rfl : vg = 0 := HGZ0.out hgo
      clear hgo HGZ0
      go_wp2_with fail
      refine (KA.out _ HBwd.out).mono ?_
      rintro e w' ⟨rfl, rfl⟩
      go_wp2_with fail
      refine (KU.out _ HBwd.out).mono ?_
      rintro e we ⟨rfl, hb⟩
      have HBwe := Lib.hid (below_next HBwd.out hb)
      clear hb
      go_wp2_with fail
      refine (KLe.out _).mono ?_
      rintro e w' ⟨rfl, rfl⟩
      go_wp2_with fail
      refine (KS.out _ HBwe.out).mono ?_
      rintro e w' ⟨rfl, rfl⟩
      go_wp2_with fail
      refine (KS.out _ HBwe.out).mono ?_
      rintro e w' ⟨rfl, rfl⟩
      go_wp2_with fail
      refine (KA.out _ HBwe.out).mono ?_
      rintro e w' ⟨rfl, rfl⟩
      go_wp2_with fail
      refine (KU.out _ HBwe.out).mono ?_
      rintro e wz ⟨rfl, hb⟩
      have HBwz := Lib.hid (below_next HBwe.out hb)
      clear hb
      go_wp2_with fail
      refine (KX.out _).mono ?_
      rintro e w' ⟨rfl, rfl⟩
      go_wp2_with fail
      refine (KC.out _).mono ?_
      rintro e w' ⟨rfl, rfl⟩
      by_cases hsg : f.sw < f1.sw
      · have g1 : decide (f1.sw > f.sw) = true := decide_eq_true hsg
        have g2 : decide (f.sw < f1.sw) = true := decide_eq_true hsg
        have g3 : decide ((now : Int) < (was : Int)) = false := decide_eq_false (by have := HGR.out hsg; omega)
        have g4 : decide (now < was) = false := decide_eq_false (by have := HGR.out hsg; omega)
        clear hsg
        go_wp2_with fail
        refine (KS.out _ HBwz.out).mono ?_
        rintro e w' ⟨rfl, rfl⟩
        have HFZ := Lib.hid (HFc.out.below HBwz.out)
        have HFRZ := Lib.hid (HFRc.out.trans (Fr.of_below (F := fun _ => False) HBwz.out) (fun _ h => h.elim))
        go_wp2_with fail
        go_roundw
        case rel => exact ⟨j + 1, f1, by have := HJ60.out; omega, by go_num, HFZ.out, HIN1.out, HFRZ.out⟩
        case measure => have := HJ60.out; simp [intOf]; omega
      · have g1 : decide (f1.sw > f.sw) = false := decide_eq_false hsg
        have g2 : decide (f.sw < f1.sw) = false := decide_eq_false hsg
        clear hsg
        go_wp2_with fail
        refine (KS.out _ HBwz.out).mono ?_
        rintro e w' ⟨rfl, rfl⟩
        have HFZ := Lib.hid (HFc.out.below HBwz.out)
        have HFRZ := Lib.hid (HFRc.out.trans (Fr.of_below (F := fun _ => False) HBwz.out) (fun _ h => h.elim))
        go_wp2_with fail
        go_roundw
        case rel => exact ⟨j + 1, f1, by have := HJ60.out; omega, by go_num, HFZ.out, HIN1.out, HFRZ.out⟩
        case measure => have := HJ60.out; simp [intOf]; omega
    · have g0 : decide ((N : Int) - (cu : Int) ≤ (M : Int)) = false := decide_eq_false hgo
      clear hgo HGZ0
      go_wp2_with fail
      refine (KS.out _ HBwd.out).mono ?_
      rintro e w' ⟨rfl, rfl⟩
      go_wp2_with fail
      refine (KS.out _ HBwd.out).mono ?_
      rintro e w' ⟨rfl, rfl⟩
      go_wp2_with fail
      refine (KA.out _ HBwd.out).mono ?_
      rintro e w' ⟨rfl, rfl⟩
      go_wp2_with fail
      refine (KU.out _ HBwd.out).mono ?_
      rintro e wz ⟨rfl, hb⟩
      have HBwz := Lib.hid (below_next HBwd.out hb)
      clear hb
      go_wp2_with fail
      refine (KX.out _).mono ?_
      rintro e w' ⟨rfl, rfl⟩
      go_wp2_with fail
      refine (KC.out _).mono ?_
      rintro e w' ⟨rfl, rfl⟩
      by_cases hsg : f.sw < f1.sw
      · have g1 : decide (f1.sw > f.sw) = true := decide_eq_true hsg
        have g2 : decide (f.sw < f1.sw) = true := decide_eq_true hsg
        have g3 : decide ((now : Int) < (was : Int)) = false := decide_eq_false (by have := HGR.out hsg; omega)
        have g4 : decide (now < was) = false := decide_eq_false (by have := HGR.out hsg; omega)
        clear hsg
        go_wp2_with fail
        refine (KS.out _ HBwz.out).mono ?_
        rintro e w' ⟨rfl, rfl⟩
        have HFZ := Lib.hid (HFc.out.below HBwz.out)
        have HFRZ := Lib.hid (HFRc.out.trans (Fr.of_below (F := fun _ => False) HBwz.out) (fun _ h => h.elim))
        go_wp2_with fail
        go_roundw
        case rel => exact ⟨j + 1, f1, by have := HJ60.out; omega, by go_num, HFZ.out, HIN1.out, HFRZ.out⟩
        case measure => have := HJ60.out; simp [intOf]; omega
      · have g1 : decide (f1.sw > f.sw) = false := decide_eq_false hsg
        have g2 : decide (f.sw < f1.sw) = false := decide_eq_false hsg
        clear hsg
        go_wp2_with fail
        refine (KS.out _ HBwz.out).mono ?_
        rintro e w' ⟨rfl, rfl⟩
        have HFZ := Lib.hid (HFc.out.below HBwz.out)
        have HFRZ := Lib.hid (HFRc.out.trans (Fr.of_below (F := fun _ => False) HBwz.out) (fun _ h => h.elim))
        go_wp2_with fail
        go_roundw
        case rel => exact ⟨j + 1, f1, by have := HJ60.out; omega, by go_num, HFZ.out, HIN1.out, HFRZ.out⟩
        case measure => have := HJ60.out; simp [intOf]; omega
end Go.Proofs.YtdpfbpmdpdfpdaaDoor
