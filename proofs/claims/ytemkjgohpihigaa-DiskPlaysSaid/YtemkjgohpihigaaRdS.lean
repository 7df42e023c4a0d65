/- A disk held against the document's: 'same' answers true of a disk and its own numbers. No condition. -/
import Derived.Test.YtemkjgohpihigaaRdB
namespace Go.Proofs.Ytemkjgohpihigaa
set_option linter.unusedVariables false
open Go.ChangeShapes Go.WideShapes Go.ChangeAt Go.RowKit
attribute [local go_sem ↓] Go.wp_at_zero Go.wp_at_succ comesTo_value_eq comesTo_skip_eq comesTo_enter_eq Rl.comesToR_value_eq Rl.comesToR_skip_eq Rl.comesToR_enter_eq

set_option maxRecDepth 100000 in
set_option maxHeartbeats 1000000 in
theorem same_true {w : World} {D : Nat} {F : Nat → Prop} {st : DS} (h : Dk w D F st) (hd : st.down = true) : Calls Try.prog 15 #[.pointer (some ⟨D, 0, none⟩), .agg (rdC st).toArray] w fun e w' => e = .returned (.bool true) ∧ Below w.heap.size w w' := by
  have hmx : Try.prog.follows .mixedOrders = true := by kernel_rfl
  have H := Lib.hid h
  have HSF := Lib.hid h.safe
  have HFT := Lib.hid h.fits
  have hRD := rdC_down st
  rw [hd] at hRD
  have HRD := Lib.hid hRD
  have HRB := Lib.hid (fun k hk => rdC_b st (k := k) hk)
  have HRS := Lib.hid (fun k hk => rdC_s st (k := k) hk)
  have HDN := Lib.hid hd
  generalize rdC st = l at *
  clear h hd hRD
  go_enter Try.func15, Try.ntmps15
  go_upto_region 1 with fail
  have hN := World.alloc_heap_new w (.cells l.toArray 28)
  have HB := Lib.hid (below_alloc (Below.refl _ w) (.cells l.toArray 28))
  generalize w.alloc (.cells l.toArray 28) = U at *
  have HN := Lib.hid hN
  have KD := Lib.hid (fun (W : World) (h : Below U.heap.size U W) => down_dk ((H.out.below HB.out).below h))
  rw [HDN.out] at KD
  have HD0 := Lib.hid (fun (W : World) (h : Below U.heap.size U W) => cell_of_block (o := 9) ((h.block _ (Array.getElem?_eq_some_iff.1 HN.out).1).trans HN.out) HRD.out)
  clear hN
  refine Rl.wp_region_rel (fun a b => Below a.heap.size a b) U (fun a b c h h' => below_next h h') (fun a => Below.refl _ _) hmx (by kernel_rfl) (Below.refl _ _).drew ?_
  (refine Rl.textR_run ?_ (fun ρ => ?_) (fun ρ W hS hd => ?_) ?_; rotate_left; (focus go_simp); (focus (obtain ⟨hc, hf⟩ := bcell hS; go_simp; first | exact ⟨rfl, Below.refl _ _⟩ | (refine ⟨?_, Below.refl _ _⟩; rfl))); (try go_simp))
  (refine Rl.textR_run ?_ (fun ρ => ?_) (fun ρ W hS hd => ?_) ?_; rotate_left; (focus go_simp); (focus (obtain ⟨hc, hf⟩ := bcell hS; go_simp; refine (KD.out W hS).mono ?_; rintro e w1 ⟨rfl, rfl⟩; refine ⟨_, rfl, ?_, Below.refl _ _⟩; rfl)); (try go_simp))
  (refine Rl.textR_run ?_ (fun ρ => ?_) (fun ρ W hS hd => ?_) ?_; rotate_left; (focus go_simp); (focus (obtain ⟨hc, hf⟩ := bcell hS; go_simp; first | exact ⟨rfl, Below.refl _ _⟩ | (refine ⟨?_, Below.refl _ _⟩; rfl))); (try go_simp))
  (refine Rl.textR_run ?_ (fun ρ => ?_) (fun ρ W hS hd => ?_) ?_; rotate_left; (focus go_simp); (focus (have hfact := HD0.out W hS; go_simp; first | exact ⟨rfl, Below.refl _ _⟩ | (refine ⟨?_, Below.refl _ _⟩; rfl))); (try go_simp))
  (refine Rl.textR_run ?_ (fun ρ => ?_) (fun ρ W hS hd => ?_) ?_; rotate_left; (focus go_simp); (focus (obtain ⟨hc, hf⟩ := bcell hS; go_simp; first | exact ⟨rfl, Below.refl _ _⟩ | (refine ⟨?_, Below.refl _ _⟩; rfl))); (try go_simp))
  refine Rl.textR_nil ?_
  intro ρ w1 hg hk
  have HB1 := Lib.hid (below_next HB.out hg)
  have HN1 := Lib.hid ((hg.block _ (Array.getElem?_eq_some_iff.1 HN.out).1).trans HN.out)
  clear hg hk KD HD0
  dsimp only
  clear ρ
  go_wp2_with fail
  go_loopw [5] (fun i wr => ∃ k : Nat, k ≤ 4 ∧ i = .int .i64 k ∧ Below w1.heap.size w1 wr) (fun i _ => 4 - (intOf i).toNat)
  case atStart => exact ⟨0, Nat.zero_le _, rfl, Below.refl _ _⟩
  case round =>
    obtain ⟨k, hk4, rfl, hb⟩ := hrel
    have HBR := Lib.hid hb
    have HBW := Lib.hid (below_next HB1.out hb)
    have HNR := Lib.hid ((hb.block _ (Array.getElem?_eq_some_iff.1 HN1.out).1).trans HN1.out)
    clear hb
    by_cases hk : k < 4
    · have hdk : decide ((k : Int) < 4) = true := decide_eq_true (by omega)
      have hki : (k : Int) < 4 := by omega
      have KS := Lib.hid (safe_dk (H.out.below HBW.out) (k : Int))
      rw [show ((k : Int)).toNat = k from rfl, safeF_in hk] at KS
      go_wp2_with fail
      refine KS.out.mono ?_
      rintro e w5 ⟨u, rfl, ho, hb5, _⟩
      rw [if_pos rfl] at ho
      obtain ⟨sad, sn, sc, rfl, hsn, hssp, hsc⟩ := ho.shape2
      have HO5 := Lib.hid ho
      have HB5 := Lib.hid hb5
      have HBW5 := Lib.hid (below_next HBW.out hb5)
      have KR := Lib.hid (read_dk (H.out.below HBW5.out) (k : Int))
      rw [show ((k : Int)).toNat = k from rfl, wrongF_in hk, HDN.out] at KR
      clear ho hb5 hsn hssp hsc KS
      go_wp2_with fail
      refine KR.out.mono ?_
      rintro e w6 ⟨u2, rfl, ho2, hb6, _⟩
      obtain ⟨rad, rn, rc, rfl, hrn, hrsp, hrc⟩ := ho2.shape2
      have q1 := txt_conv (HO5.out.at.below hb6) w6.drew (Below.drew (Below.refl _ _))
      
      
      have hn6 := ((HB5.out.trans (hb6.mono HB5.out.size)).block _ (Array.getElem?_eq_some_iff.1 HNR.out).1).trans HNR.out
      have HB6 := Lib.hid (below_next HBR.out (below_next HB5.out hb6))
      have cb := cell_of_block (o := k) hn6 (HRB.out k hk)
      have cs := cell_of_block (o := 4 + k) hn6 (HRS.out k hk)
      have cd := cell_of_block (o := 9) hn6 HRD.out
      have hsz : (strOfNums (st.b k)).size = (st.b k).length := size_str _
      have hex := rstr_take (st.b k) (st.s k)
      have hle := HSF.out k hk
      have hfit := HFT.out k hk
      generalize strOfNums ((st.b k).take (st.s k)) = SX at *
      generalize strOfNums (st.b k) = S at *
      generalize (st.b k).length = L at *
      generalize st.s k = sk at *
      have hsl : (sk : Int) ≤ (L : Int) := by omega
      clear ho2 hb6 hrn hrsp hrc hn6 KR
      go_wp2_with fail
      refine wp_region_grow (fun w' => w' = w6.drew) hmx (by kernel_rfl) rfl ?_
      iterate 20 (refine textS_run ?_ ?_ (fun W hS => ?_) ?_; rotate_left; (focus go_simp); (focus (subst hS; go_simp; all_goals (first | exact ⟨rfl, rfl⟩ | rfl | (refine ⟨?_, rfl⟩; rfl)))); (try go_simp))
      iterate 2 (refine textS_run ?_ ?_ (fun W hS => ?_) ?_; rotate_left; (focus go_simp); (focus (subst hS; go_simp; all_goals (first | exact ⟨rfl, rfl⟩ | rfl | (refine ⟨?_, rfl⟩; rfl)))); (try go_simp))
      iterate 3 (refine textS_run ?_ ?_ (fun W hS => ?_) ?_; rotate_left; (focus go_simp); (focus (subst hS; go_simp; all_goals (first | exact ⟨rfl, rfl⟩ | rfl | (refine ⟨?_, rfl⟩; rfl)))); (try go_simp))
      iterate 4 (refine textS_run ?_ ?_ (fun W hS => ?_) ?_; rotate_left; (focus go_simp); (focus (subst hS; go_simp; all_goals (first | exact ⟨rfl, rfl⟩ | rfl | (refine ⟨?_, rfl⟩; rfl)))); (try go_simp))
      iterate 11 (refine textS_skip ?_ ?_; (focus (first | rfl | (go_simp; done) | (go_simp; rfl))); (try go_simp))
      iterate 2 (refine textS_run ?_ ?_ (fun W hS => ?_) ?_; rotate_left; (focus go_simp); (focus (subst hS; go_simp; all_goals (first | exact ⟨rfl, rfl⟩ | rfl | (refine ⟨?_, rfl⟩; rfl)))); (try go_simp))
      refine textS_nil ?_
      go_wp2_with fail
      go_roundw
      case rel => exact ⟨k + 1, by omega, by go_num, HB6.out.drew⟩
      case measure => simp [intOf]; omega
    · have hdk : decide ((k : Int) < 4) = false := decide_eq_false (by omega)
      go_wp2_with fail
      go_ret
      exact ⟨rfl, HBW.out⟩
set_option maxRecDepth 100000 in
set_option maxHeartbeats 1000000 in
theorem same_false {w : World} {D : Nat} {F : Nat → Prop} {st : DS} (h : Dk w D F st) (hd : st.down = false) : Calls Try.prog 15 #[.pointer (some ⟨D, 0, none⟩), .agg (rdC st).toArray] w fun e w' => e = .returned (.bool true) ∧ Below w.heap.size w w' := by
  have hmx : Try.prog.follows .mixedOrders = true := by kernel_rfl
  have H := Lib.hid h
  have HSF := Lib.hid h.safe
  have HFT := Lib.hid h.fits
  have hRD := rdC_down st
  rw [hd] at hRD
  have HRD := Lib.hid hRD
  have HRB := Lib.hid (fun k hk => rdC_b st (k := k) hk)
  have HRS := Lib.hid (fun k hk => rdC_s st (k := k) hk)
  have HDN := Lib.hid hd
  generalize rdC st = l at *
  clear h hd hRD
  go_enter Try.func15, Try.ntmps15
  go_upto_region 1 with fail
  have hN := World.alloc_heap_new w (.cells l.toArray 28)
  have HB := Lib.hid (below_alloc (Below.refl _ w) (.cells l.toArray 28))
  generalize w.alloc (.cells l.toArray 28) = U at *
  have HN := Lib.hid hN
  have KD := Lib.hid (fun (W : World) (h : Below U.heap.size U W) => down_dk ((H.out.below HB.out).below h))
  rw [HDN.out] at KD
  have HD0 := Lib.hid (fun (W : World) (h : Below U.heap.size U W) => cell_of_block (o := 9) ((h.block _ (Array.getElem?_eq_some_iff.1 HN.out).1).trans HN.out) HRD.out)
  clear hN
  refine Rl.wp_region_rel (fun a b => Below a.heap.size a b) U (fun a b c h h' => below_next h h') (fun a => Below.refl _ _) hmx (by kernel_rfl) (Below.refl _ _).drew ?_
  (refine Rl.textR_run ?_ (fun ρ => ?_) (fun ρ W hS hd => ?_) ?_; rotate_left; (focus go_simp); (focus (obtain ⟨hc, hf⟩ := bcell hS; go_simp; first | exact ⟨rfl, Below.refl _ _⟩ | (refine ⟨?_, Below.refl _ _⟩; rfl))); (try go_simp))
  (refine Rl.textR_run ?_ (fun ρ => ?_) (fun ρ W hS hd => ?_) ?_; rotate_left; (focus go_simp); (focus (obtain ⟨hc, hf⟩ := bcell hS; go_simp; refine (KD.out W hS).mono ?_; rintro e w1 ⟨rfl, rfl⟩; refine ⟨_, rfl, ?_, Below.refl _ _⟩; rfl)); (try go_simp))
  (refine Rl.textR_run ?_ (fun ρ => ?_) (fun ρ W hS hd => ?_) ?_; rotate_left; (focus go_simp); (focus (obtain ⟨hc, hf⟩ := bcell hS; go_simp; first | exact ⟨rfl, Below.refl _ _⟩ | (refine ⟨?_, Below.refl _ _⟩; rfl))); (try go_simp))
  (refine Rl.textR_run ?_ (fun ρ => ?_) (fun ρ W hS hd => ?_) ?_; rotate_left; (focus go_simp); (focus (have hfact := HD0.out W hS; go_simp; first | exact ⟨rfl, Below.refl _ _⟩ | (refine ⟨?_, Below.refl _ _⟩; rfl))); (try go_simp))
  (refine Rl.textR_run ?_ (fun ρ => ?_) (fun ρ W hS hd => ?_) ?_; rotate_left; (focus go_simp); (focus (obtain ⟨hc, hf⟩ := bcell hS; go_simp; first | exact ⟨rfl, Below.refl _ _⟩ | (refine ⟨?_, Below.refl _ _⟩; rfl))); (try go_simp))
  refine Rl.textR_nil ?_
  intro ρ w1 hg hk
  have HB1 := Lib.hid (below_next HB.out hg)
  have HN1 := Lib.hid ((hg.block _ (Array.getElem?_eq_some_iff.1 HN.out).1).trans HN.out)
  clear hg hk KD HD0
  dsimp only
  clear ρ
  go_wp2_with fail
  go_loopw [5] (fun i wr => ∃ k : Nat, k ≤ 4 ∧ i = .int .i64 k ∧ Below w1.heap.size w1 wr) (fun i _ => 4 - (intOf i).toNat)
  case atStart => exact ⟨0, Nat.zero_le _, rfl, Below.refl _ _⟩
  case round =>
    obtain ⟨k, hk4, rfl, hb⟩ := hrel
    have HBR := Lib.hid hb
    have HBW := Lib.hid (below_next HB1.out hb)
    have HNR := Lib.hid ((hb.block _ (Array.getElem?_eq_some_iff.1 HN1.out).1).trans HN1.out)
    clear hb
    by_cases hk : k < 4
    · have hdk : decide ((k : Int) < 4) = true := decide_eq_true (by omega)
      have hki : (k : Int) < 4 := by omega
      have KS := Lib.hid (safe_dk (H.out.below HBW.out) (k : Int))
      rw [show ((k : Int)).toNat = k from rfl, safeF_in hk] at KS
      go_wp2_with fail
      refine KS.out.mono ?_
      rintro e w5 ⟨u, rfl, ho, hb5, _⟩
      rw [if_pos rfl] at ho
      obtain ⟨sad, sn, sc, rfl, hsn, hssp, hsc⟩ := ho.shape2
      have HO5 := Lib.hid ho
      have HB5 := Lib.hid hb5
      have HBW5 := Lib.hid (below_next HBW.out hb5)
      have KR := Lib.hid (read_dk (H.out.below HBW5.out) (k : Int))
      rw [show ((k : Int)).toNat = k from rfl, wrongF_in hk, HDN.out] at KR
      clear ho hb5 hsn hssp hsc KS
      go_wp2_with fail
      refine KR.out.mono ?_
      rintro e w6 ⟨u2, rfl, ho2, hb6, _⟩
      obtain ⟨rad, rn, rc, rfl, hrn, hrsp, hrc⟩ := ho2.shape2
      have q1 := txt_conv (HO5.out.at.below hb6) w6.drew (Below.drew (Below.refl _ _))
      rw [if_pos (by rfl)] at ho2
      have q2 := txt_conv ho2.at w6.drew (Below.drew (Below.refl _ _))
      have hn6 := ((HB5.out.trans (hb6.mono HB5.out.size)).block _ (Array.getElem?_eq_some_iff.1 HNR.out).1).trans HNR.out
      have HB6 := Lib.hid (below_next HBR.out (below_next HB5.out hb6))
      have cb := cell_of_block (o := k) hn6 (HRB.out k hk)
      have cs := cell_of_block (o := 4 + k) hn6 (HRS.out k hk)
      have cd := cell_of_block (o := 9) hn6 HRD.out
      have hsz : (strOfNums (st.b k)).size = (st.b k).length := size_str _
      have hex := rstr_take (st.b k) (st.s k)
      have hle := HSF.out k hk
      have hfit := HFT.out k hk
      generalize strOfNums ((st.b k).take (st.s k)) = SX at *
      generalize strOfNums (st.b k) = S at *
      generalize (st.b k).length = L at *
      generalize st.s k = sk at *
      have hsl : (sk : Int) ≤ (L : Int) := by omega
      clear ho2 hb6 hrn hrsp hrc hn6 KR
      go_wp2_with fail
      refine wp_region_grow (fun w' => w' = w6.drew) hmx (by kernel_rfl) rfl ?_
      iterate 20 (refine textS_run ?_ ?_ (fun W hS => ?_) ?_; rotate_left; (focus go_simp); (focus (subst hS; go_simp; all_goals (first | exact ⟨rfl, rfl⟩ | rfl | (refine ⟨?_, rfl⟩; rfl)))); (try go_simp))
      iterate 2 (refine textS_skip ?_ ?_; (focus (first | rfl | (go_simp; done) | (go_simp; rfl))); (try go_simp))
      iterate 3 (refine textS_run ?_ ?_ (fun W hS => ?_) ?_; rotate_left; (focus go_simp); (focus (subst hS; go_simp; all_goals (first | exact ⟨rfl, rfl⟩ | rfl | (refine ⟨?_, rfl⟩; rfl)))); (try go_simp))
      iterate 4 (refine textS_run ?_ ?_ (fun W hS => ?_) ?_; rotate_left; (focus go_simp); (focus (subst hS; go_simp; all_goals (first | exact ⟨rfl, rfl⟩ | rfl | (refine ⟨?_, rfl⟩; rfl)))); (try go_simp))
      iterate 3 (refine textS_run ?_ ?_ (fun W hS => ?_) ?_; rotate_left; (focus go_simp); (focus (subst hS; go_simp; all_goals (first | exact ⟨rfl, rfl⟩ | rfl | (refine ⟨?_, rfl⟩; rfl)))); (try go_simp))
      iterate 7 (refine textS_run ?_ ?_ (fun W hS => ?_) ?_; rotate_left; (focus go_simp); (focus (subst hS; go_simp; all_goals (first | exact ⟨rfl, rfl⟩ | rfl | (refine ⟨?_, rfl⟩; rfl)))); (try go_simp))
      iterate 3 (refine textS_run ?_ ?_ (fun W hS => ?_) ?_; rotate_left; (focus go_simp); (focus (subst hS; go_simp; all_goals (first | exact ⟨rfl, rfl⟩ | rfl | (refine ⟨?_, rfl⟩; rfl)))); (try go_simp))
      refine textS_nil ?_
      go_wp2_with fail
      go_roundw
      case rel => exact ⟨k + 1, by omega, by go_num, HB6.out.drew⟩
      case measure => simp [intOf]; omega
    · have hdk : decide ((k : Int) < 4) = false := decide_eq_false (by omega)
      go_wp2_with fail
      go_ret
      exact ⟨rfl, HBW.out⟩
theorem same_c {w : World} {D : Nat} {F : Nat → Prop} {st : DS} (h : Dk w D F st) : Calls Try.prog 15 #[.pointer (some ⟨D, 0, none⟩), .agg (rdC st).toArray] w fun e w' => e = .returned (.bool true) ∧ Below w.heap.size w w' := by
  cases hd : st.down
  · exact same_false h hd
  · exact same_true h hd
end Go.Proofs.Ytemkjgohpihigaa
