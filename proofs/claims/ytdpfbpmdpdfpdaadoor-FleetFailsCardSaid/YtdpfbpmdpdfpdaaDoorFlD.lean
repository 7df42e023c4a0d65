/- Spares take the places of nodes that are not up; what is told of a node. Condition: math/bits' table of trailing zeros lies as its text lays it. -/
import Derived.Test.YtdpfbpmdpdfpdaaDoorFlC
namespace Go.Proofs.YtdpfbpmdpdfpdaaDoor
set_option linter.unusedVariables false
open Go.ChangeShapes Go.WideShapes Go.ChangeAt Go.RowKit
attribute [local go_sem ↓] Go.wp_at_zero Go.wp_at_succ comesTo_value_eq comesTo_skip_eq comesTo_enter_eq Rl.comesToR_value_eq Rl.comesToR_skip_eq Rl.comesToR_enter_eq

/-- how many are gone, told from memory -/
def goneW (f : FV) (F : Nat) (w : World) : Nat := card (goneF { f with sp := BitVec.ofInt 64 (intOf ((w.cell? ⟨F, 4, none⟩).getD undef)) })
theorem nv_ofInt' (x : Int) : nv (BitVec.ofInt 64 x) = IntKind.u64.wrap x := by
  unfold nv
  rw [IntKind.wrap_u64, BitVec.toNat_ofInt]
  omega
theorem ofInt_nv (s : NSet) : BitVec.ofInt 64 (nv s) = s := by
  apply nv_inj
  rw [nv_ofInt']
  have h1 := nv_lo s
  have h2 := nv_hi s
  rw [IntKind.wrap_u64]
  omega
theorem goneW_at {w : World} {F G : Nat} {f : FV} (s : NSet) (sw : Int) (h : Fl w F G { f with sp := s, sw := sw }) : goneW f F w = card (goneF { f with sp := s, sw := sw }) := by
  unfold goneW
  rw [h.c4]
  show card (goneF { f with sp := BitVec.ofInt 64 (nv s) }) = _
  rw [ofInt_nv]
  rfl
theorem stop_iff (f : FV) : stopF f ↔ lowI (goneF f) < 0 ∨ lowI (freeF f) < 0 := by
  have h1 := lowI_neg (goneF f)
  have h2 := lowI_neg (freeF f)
  rw [decide_eq_decide] at h1 h2
  rw [h1, h2]
  exact Iff.rfl
structure SwapAt (w : World) (F G : Nat) (f : FV) (wr : World) : Prop where
  fl : ∃ s sw, Fl wr F G { f with sp := s, sw := sw } ∧ swapF { f with sp := s, sw := sw } = swapF f ∧ 0 ≤ sw ∧ sw ≤ 9223372036854775807
  fr : Fr (fun j => j = F) w wr
set_option maxRecDepth 100000 in
set_option maxHeartbeats 8000000 in
theorem swap_fl {w : World} {F G : Nat} {f : FV} (h : Fl w F G f) (hT : TabZ w) (hF : 1 < F) (hs0 : 0 ≤ f.sw ∧ f.sw ≤ 9223372036854775807) :
    Calls Tryd.prog 63 #[.pointer (some ⟨F, 0, none⟩)] w fun e w' => (∃ v, e = .returned v) ∧ Fl w' F G (swapF f) ∧ Fr (fun j => j = F) w w' := by
  have hmx : Tryd.prog.follows .mixedOrders = true := by kernel_rfl
  have H0 := Lib.hid (show SwapAt w F G f w from ⟨⟨f.sp, f.sw, h, rfl, hs0⟩, Fr.refl _ _⟩)
  have HT := Lib.hid (fun X (hX : Fr (fun j => j = F) w X) => show TabZ X from ⟨Nat.lt_of_lt_of_le hT.1 hX.size, fun j hj => (World.cell?_of_block (hX.block _ hT.1 (Nat.ne_of_lt hF))).trans (hT.2 j hj)⟩)
  clear h hT hs0 hF
  go_enter Tryd.func63, Tryd.ntmps63
  go_wp2_with fail
  go_loopw [2, 3] (fun g s wr => SwapAt w F G f wr) (fun _ _ wr => goneW f F wr)
  case atStart => exact H0.out
  case round =>
    obtain ⟨⟨s1, sw1, hfl, hsw, hb⟩, hfr⟩ := hrel
    have HM := Lib.hid (goneW_at s1 sw1 hfl)
    obtain ⟨f1, hf1⟩ : ∃ f1, f1 = { f with sp := s1, sw := sw1 } := ⟨_, rfl⟩
    have HF1 := Lib.hid hf1
    rw [← hf1] at hfl hsw HM
    have hTr : TabZ wr := HT.out wr hfr
    have HFL := Lib.hid hfl
    have HSW := Lib.hid hsw
    have HBD := Lib.hid hb
    have HFR := Lib.hid hfr
    have HSP := Lib.hid (show f1.sp = s1 ∧ f1.sw = sw1 by rw [hf1]; exact ⟨rfl, rfl⟩)
    have KA := Lib.hid (fun X (hX : Below wr.heap.size wr X) => factive_fl (hfl.below hX))
    have KU := Lib.hid (fun X (hX : Below wr.heap.size wr X) => up_fl (hfl.below hX) (hTr.below hX))
    have KL := Lib.hid (fun X => bless_any (actF f1) (upF f1) X)
    have KG := Lib.hid (fun X (hX : Below wr.heap.size wr X) => lowest_any (goneF f1) X (hTr.below hX))
    have KN := Lib.hid (fun X => and_any f1.sp (upF f1) X)
    have KF := Lib.hid (fun X (hX : Below wr.heap.size wr X) => lowest_any (freeF f1) X (hTr.below hX))
    have C4 := Lib.hid (fun X (hX : Below wr.heap.size wr X) => (hfl.below hX).c4)
    have KW := Lib.hid (fun X => with_any f1.sp (lowI (goneF f1)) X)
    have KO := Lib.hid (fun X => without_any (f1.sp ||| oneI (lowI (goneF f1))) (lowI (freeF f1)) X)
    have HST := Lib.hid (stop_iff f1)
    have HSTEP := Lib.hid (show ¬ stopF f1 → swapF f1 = swapF (swap1 f1) from swapF_step)
    have HDONE := Lib.hid (show stopF f1 → swapF f1 = f1 from swapF_done)
    have HG1 := Lib.hid (show ¬ stopF f1 → card (goneF (swap1 f1)) + 1 = card (goneF f1) from swap1_gone)
    have HS1 := Lib.hid (show swap1 f1 = { f with sp := (f1.sp ||| oneI (lowI (goneF f1))) &&& ~~~ oneI (lowI (freeF f1)), sw := if f1.sw < 9223372036854775807 then f1.sw + 1 else f1.sw } by rw [hf1]; rfl)
    clear hfl hsw hb hfr hTr hf1 H0
    unfold goneF at KG
    unfold freeF at KF
    generalize hlg : lowI (goneF f1) = lg at *
    generalize hlf : lowI (freeF f1) = lf at *
    have KG' := Lib.hid (fun X hX => show Calls Tryd.prog 98 #[.int .u64 (nv (actF f1 &&& ~~~ upF f1))] X fun e w' => e = .returned (.int .i64 lg) ∧ X = w' from hlg ▸ KG.out X hX)
    have KF' := Lib.hid (fun X hX => show Calls Tryd.prog 98 #[.int .u64 (nv (f1.sp &&& upF f1))] X fun e w' => e = .returned (.int .i64 lf) ∧ X = w' from hlf ▸ KF.out X hX)
    clear KG KF hlg hlf
    generalize nv (actF f1 &&& ~~~ upF f1) = va at *
    generalize nv (f1.sp &&& upF f1) = vb at *
    generalize nv (actF f1) = vc at *
    generalize nv (upF f1) = vd at *
    go_upto_region 0 with fail
    refine Rl.wp_region_rel (fun a b => Below a.heap.size a b) wr (fun a b c h h' => below_next h h') (fun a => Below.refl _ _) hmx (by kernel_rfl) (Below.refl _ _).drew ?_
    (refine Rl.textR_run ?_ (fun ρ => ?_) (fun ρ W hS hd => ?_) ?_; rotate_left; (focus go_simp); (focus (obtain ⟨hc, hf⟩ := bcell hS; go_simp; first | exact ⟨rfl, Below.refl _ _⟩ | (refine ⟨?_, Below.refl _ _⟩; rfl))); (try go_simp))
    (refine Rl.textR_run ?_ (fun ρ => ?_) (fun ρ W hS hd => ?_) ?_; rotate_left; (focus go_simp); (focus (obtain ⟨hc, hf⟩ := bcell hS; go_simp; refine (KA.out W hS).mono ?_; rintro e w1 ⟨rfl, rfl⟩; refine ⟨_, rfl, ?_, Below.refl _ _⟩; rfl)); (try go_simp))
    (refine Rl.textR_run ?_ (fun ρ => ?_) (fun ρ W hS hd => ?_) ?_; rotate_left; (focus go_simp); (focus (obtain ⟨hc, hf⟩ := bcell hS; go_simp; first | exact ⟨rfl, Below.refl _ _⟩ | (refine ⟨?_, Below.refl _ _⟩; rfl))); (try go_simp))
    (refine Rl.textR_run ?_ (fun ρ => ?_) (fun ρ W hS hd => ?_) ?_; rotate_left; (focus go_simp); (focus (obtain ⟨hc, hf⟩ := bcell hS; go_simp; refine (KU.out W hS).mono ?_; rintro e w1 ⟨rfl, hb⟩; refine ⟨_, rfl, ?_, hb⟩; rfl)); (try go_simp))
    (refine Rl.textR_run ?_ (fun ρ => ?_) (fun ρ W hS hd => ?_) ?_; rotate_left; (focus go_simp); (focus (obtain ⟨hc, hf⟩ := bcell hS; go_simp; refine (KL.out W).mono ?_; rintro e w1 ⟨rfl, rfl⟩; refine ⟨_, rfl, ?_, Below.refl _ _⟩; rfl)); (try go_simp))
    (refine Rl.textR_run ?_ (fun ρ => ?_) (fun ρ W hS hd => ?_) ?_; rotate_left; (focus go_simp); (focus (obtain ⟨hc, hf⟩ := bcell hS; go_simp; refine (KG'.out W hS).mono ?_; rintro e w1 ⟨rfl, rfl⟩; refine ⟨_, rfl, ?_, Below.refl _ _⟩; rfl)); (try go_simp))
    iterate 3 (refine Rl.textR_run ?_ (fun ρ => ?_) (fun ρ W hS hd => ?_) ?_; rotate_left; (focus go_simp); (focus (obtain ⟨hc, hf⟩ := bcell hS; go_simp; first | exact ⟨rfl, Below.refl _ _⟩ | (refine ⟨?_, Below.refl _ _⟩; rfl))); (try go_simp))
    (refine Rl.textR_run ?_ (fun ρ => ?_) (fun ρ W hS hd => ?_) ?_; rotate_left; (focus go_simp); (focus (have hfact := C4.out W hS; go_simp; first | exact ⟨rfl, Below.refl _ _⟩ | (refine ⟨?_, Below.refl _ _⟩; rfl))); (try go_simp))
    (refine Rl.textR_run ?_ (fun ρ => ?_) (fun ρ W hS hd => ?_) ?_; rotate_left; (focus go_simp); (focus (obtain ⟨hc, hf⟩ := bcell hS; go_simp; first | exact ⟨rfl, Below.refl _ _⟩ | (refine ⟨?_, Below.refl _ _⟩; rfl))); (try go_simp))
    (refine Rl.textR_run ?_ (fun ρ => ?_) (fun ρ W hS hd => ?_) ?_; rotate_left; (focus go_simp); (focus (obtain ⟨hc, hf⟩ := bcell hS; go_simp; refine (KU.out W hS).mono ?_; rintro e w1 ⟨rfl, hb⟩; refine ⟨_, rfl, ?_, hb⟩; rfl)); (try go_simp))
    (refine Rl.textR_run ?_ (fun ρ => ?_) (fun ρ W hS hd => ?_) ?_; rotate_left; (focus go_simp); (focus (obtain ⟨hc, hf⟩ := bcell hS; go_simp; refine (KN.out W).mono ?_; rintro e w1 ⟨rfl, rfl⟩; refine ⟨_, rfl, ?_, Below.refl _ _⟩; rfl)); (try go_simp))
    (refine Rl.textR_run ?_ (fun ρ => ?_) (fun ρ W hS hd => ?_) ?_; rotate_left; (focus go_simp); (focus (obtain ⟨hc, hf⟩ := bcell hS; go_simp; refine (KF'.out W hS).mono ?_; rintro e w1 ⟨rfl, rfl⟩; refine ⟨_, rfl, ?_, Below.refl _ _⟩; rfl)); (try go_simp))
    iterate 2 (refine Rl.textR_run ?_ (fun ρ => ?_) (fun ρ W hS hd => ?_) ?_; rotate_left; (focus go_simp); (focus (obtain ⟨hc, hf⟩ := bcell hS; go_simp; first | exact ⟨rfl, Below.refl _ _⟩ | (refine ⟨?_, Below.refl _ _⟩; rfl))); (try go_simp))
    refine Rl.textR_nil ?_
    intro ρ w5 hg5 hk5
    dsimp only
    have HB5 := Lib.hid hg5
    have HFL5 := Lib.hid (HFL.out.below hg5)
    have HFR5 := Lib.hid (HFR.out.trans (Fr.of_below (F := fun _ => False) hg5) (fun _ h => h.elim))
    clear hg5 hk5 KA KU KL KG' KN KF' C4 HFL HFR
    go_simp
    by_cases h1 : lg < 0
    · have d1 : decide (lg < 0) = true := decide_eq_true h1
      have hst : stopF f1 := HST.out.2 (.inl h1)
      have E := Lib.hid (HSW.out.symm.trans (HDONE.out hst))
      clear h1 hst
      go_wp2_with fail
      exact bodyPost_ret (v := .tuple #[]) (by simp [results, Tryd.results63, go_sem]) rfl ⟨⟨_, rfl⟩, by rw [E.out]; exact HFL5.out, HFR5.out⟩
    have d1 : decide (lg < 0) = false := decide_eq_false h1
    by_cases h2 : lf < 0
    · have d2 : decide (lf < 0) = true := decide_eq_true h2
      have hst : stopF f1 := HST.out.2 (.inr h2)
      have E := Lib.hid (HSW.out.symm.trans (HDONE.out hst))
      clear h1 h2 hst
      go_wp2_with fail
      exact bodyPost_ret (v := .tuple #[]) (by simp [results, Tryd.results63, go_sem]) rfl ⟨⟨_, rfl⟩, by rw [E.out]; exact HFL5.out, HFR5.out⟩
    have d2 : decide (lf < 0) = false := decide_eq_false h2
    have hns : ¬ stopF f1 := fun h => by rcases HST.out.1 h with h | h; exact h1 h; exact h2 h
    have HE := Lib.hid ((HSTEP.out hns).symm.trans HSW.out)
    have HMM := Lib.hid (HG1.out hns)
    clear h1 h2 hns
    have c4 := HFL5.out.c4
    have g4 := free_of_block 4 HFL5.out.blk
    have c5' := HFL5.out.c5
    have g5' := free_of_block 5 HFL5.out.blk
    obtain ⟨s2, hs2⟩ : ∃ s2, s2 = (f1.sp ||| oneI lg) &&& ~~~ oneI lf := ⟨_, rfl⟩
    rw [← hs2] at KO HS1
    go_wp2_with fail
    refine (KW.out _).mono ?_
    rintro e w6 ⟨rfl, rfl⟩
    go_wp2_with fail
    refine (KO.out _).mono ?_
    rintro e w6 ⟨rfl, rfl⟩
    have HFL6 := Lib.hid (HFL5.out.set4 s2)
    have HFR6 := Lib.hid (HFR5.out.set rfl 4 (.int .u64 (nv s2)))
    clear hs2 KW KO
    have c5 := HFL6.out.c5
    have g5 := free_of_block 5 HFL6.out.blk
    dsimp only at c5
    by_cases h3 : f1.sw < 9223372036854775807
    · have d3 : decide (f1.sw < 9223372036854775807) = true := decide_eq_true h3
      have hw1 : IntKind.i64.wrap (f1.sw + 1) = f1.sw + 1 := by have := HBD.out; have := HSP.out.2; rw [IntKind.wrap_i64]; omega
      have HB7 := Lib.hid (show 0 ≤ f1.sw + 1 ∧ f1.sw + 1 ≤ 9223372036854775807 by have := HBD.out; have := HSP.out.2; omega)
      rw [if_pos h3] at HS1
      clear h3
      have HFL7 := Lib.hid (show Fl ((w5.setCell ⟨F, 4, none⟩ (.int .u64 (nv s2))).setCell ⟨F, 5, none⟩ (.int .i64 (f1.sw + 1))) F G { f with sp := s2, sw := f1.sw + 1 } from by have := HFL6.out.set5 (f1.sw + 1); rw [HF1.out] at this ⊢; exact this)
      have HFR7 := Lib.hid (HFR6.out.set rfl 5 (.int .i64 (f1.sw + 1)))
      have HMW := Lib.hid (goneW_at s2 (f1.sw + 1) HFL7.out)
      go_wp2_with fail
      go_roundw
      case rel => exact ⟨⟨s2, f1.sw + 1, HFL7.out, by rw [← HS1.out]; exact HE.out, HB7.out⟩, HFR7.out⟩
      case measure =>
        rw [HMW.out, HM.out, ← HS1.out]
        have := HMM.out
        omega
    · have d3 : decide (f1.sw < 9223372036854775807) = false := decide_eq_false h3
      have HB7 := Lib.hid (show 0 ≤ f1.sw ∧ f1.sw ≤ 9223372036854775807 by have := HBD.out; have := HSP.out.2; omega)
      rw [if_neg h3] at HS1
      clear h3
      have HFL7 := Lib.hid (show Fl ((w5.setCell ⟨F, 4, none⟩ (.int .u64 (nv s2)))) F G { f with sp := s2, sw := f1.sw } from by have := HFL6.out; rw [HF1.out] at this ⊢; exact this)
      have HFR7 := Lib.hid (HFR6.out)
      have HMW := Lib.hid (goneW_at s2 (f1.sw) HFL7.out)
      go_wp2_with fail
      go_roundw
      case rel => exact ⟨⟨s2, f1.sw, HFL7.out, by rw [← HS1.out]; exact HE.out, HB7.out⟩, HFR7.out⟩
      case measure =>
        rw [HMW.out, HM.out, ← HS1.out]
        have := HMM.out
        omega
end Go.Proofs.YtdpfbpmdpdfpdaaDoor
