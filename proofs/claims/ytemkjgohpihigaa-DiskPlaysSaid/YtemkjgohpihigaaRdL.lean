/- The law DiskPlays of layer 4, walked. No condition. -/
import Derived.Test.YtemkjgohpihigaaRdS
import Derived.Test.YtemkjgohpihigaaDkKeeps2
namespace Go.Proofs.Ytemkjgohpihigaa
set_option linter.unusedVariables false
open Go.ChangeShapes Go.WideShapes Go.ChangeAt Go.RowKit
attribute [local go_sem ↓] Go.wp_at_zero Go.wp_at_succ comesTo_value_eq comesTo_skip_eq comesTo_enter_eq Rl.comesToR_value_eq Rl.comesToR_skip_eq Rl.comesToR_enter_eq

/-- a disk, and the document's beside it -/
structure PAt (W : World) (D R : Nat) (st : DS) (wr : World) : Prop where
  fit : DFit st
  d : Dk wr D (fun j => W.heap.size ≤ j ∧ j ≠ R) st
  r : wr.heap[R]? = some (.cells (rdC st).toArray 28 (0, 0))
  below : Below W.heap.size W wr
theorem PAt.lt {W wr : World} {D R : Nat} {st : DS} (h : PAt W D R st wr) : R < wr.heap.size := (Array.getElem?_eq_some_iff.1 h.r).1
theorem PAt.next {W wr w' : World} {D R : Nat} {st : DS} (h : PAt W D R st wr) (hb : Below wr.heap.size wr w') : PAt W D R st w' :=
  ⟨h.fit, h.d.below hb, (hb.block _ h.lt).trans h.r, h.below.trans (hb.mono h.below.size)⟩
/-- a call of the disk alone -/
theorem PAt.call {W wr w' : World} {D R : Nat} {st st' : DS} (h : PAt W D R st wr) (hd : Dk w' D (fun j => (W.heap.size ≤ j ∧ j ≠ R) ∨ wr.heap.size ≤ j) st') (hf : Fr (fun j => W.heap.size ≤ j ∧ j ≠ R) wr w') :
    Dk w' D (fun j => W.heap.size ≤ j ∧ j ≠ R) st' ∧ w'.heap[R]? = some (.cells (rdC st).toArray 28 (0, 0)) ∧ Below W.heap.size W w' := by
  have hlt := h.lt
  have hs := h.below.size
  exact ⟨hd.more fun j hj => hj.elim id fun hj => ⟨by omega, by omega⟩, (hf.block R hlt (fun hg => hg.2 rfl)).trans h.r, h.below.trans (hf.below hs fun j hj => hj.1)⟩
/-- the document's one written anew -/
theorem PAt.write {W w w' : World} {D R : Nat} {st : DS} (hR : W.heap.size ≤ R) (hfit : DFit st) (hd : Dk w D (fun j => W.heap.size ≤ j ∧ j ≠ R) st) (hb : Below W.heap.size W w) (hw : WroteTo R 28 (rdC st).toArray w w') : PAt W D R st w' :=
  ⟨hfit, Fr.dk (G := fun j => j = R) hd ⟨hw.os, hw.tape, hw.output, Nat.le_of_eq hw.size.symm, fun j _ hj => hw.rest j hj⟩ (fun j hj _ he => hj.2 he), hw.there, hw.below hb hR⟩
set_option maxRecDepth 100000 in
set_option maxHeartbeats 4000000 in
theorem plays_any (lad : Option Addr) (ll lcap : Nat) (A : Nat → ActV) (W : World) (hA : ActsAt W lad ll A) :
    Calls Try.prog 3 #[.slice lad ll lcap] W fun e w' => e = .returned (.bool true) ∧ Below W.heap.size W w' := by
  have HA := Lib.hid hA
  have HI := Lib.hid (fun st' => show (Try.prog.info? 28).map (·.size) = some (rdC st').length from by rw [rdC_len]; kernel_rfl)
  have HO := Lib.hid (fun st' => rdC_one st')
  have KN := Lib.hid (fun w => new_any w)
  have KRN := Lib.hid (fun w => rnew_c w)
  have KO := Lib.hid (fun w => one_yes w)
  have KSM := Lib.hid (fun (w : World) (D : Nat) (F : Nat → Prop) (st : DS) (h : Dk w D F st) => same_c h)
  clear hA
  go_enter Try.func3, Try.ntmps3
  go_wp2_with fail
  refine (KN.out _).mono ?_
  rintro e w1 ⟨D, rfl, hd, hb⟩
  have HD1 := Lib.hid hd.bound
  have HW1 := Lib.hid hb
  clear hd hb
  go_upto_region 2 with fail
  refine wp_region_lit ?_
  refine wpList_enter rfl (by go_simp) (KRN.out w1) ?_
  rintro e w2 ⟨rfl, hb2⟩
  refine ⟨_, rfl, ?_⟩
  refine wpList_yield (w' := w2.alloc (.cells #[.string ⟨#[]⟩, .string ⟨#[]⟩, .string ⟨#[]⟩, .string ⟨#[]⟩, .int .i64 0, .int .i64 0, .int .i64 0, .int .i64 0, .int .i64 0, .bool false] 28)) (v := .pointer (some ⟨w2.heap.size, 0, none⟩)) rfl (by go_simp) ?_
  refine wpList_store_all rfl 28 _ _ rfl w2.heap.size (cs := #[.string ⟨#[]⟩, .string ⟨#[]⟩, .string ⟨#[]⟩, .string ⟨#[]⟩, .int .i64 0, .int .i64 0, .int .i64 0, .int .i64 0, .int .i64 0, .bool false]) (T := 28) (rdC newF) (by go_simp) (by go_simp) (World.alloc_heap_new _ _) rfl (HI.out _) (HO.out _) ?_
  intro w3 hw3
  have hb3 := below_next hb2 (hw3.below (below_alloc (Below.refl _ w2) _) (Nat.le_refl _))
  have hR : w1.heap.size ≤ w2.heap.size := hb2.size
  have hP3 : PAt W D w2.heap.size newF w3 := by
    refine ⟨⟨fun k _ => by show (0 : Nat) ≤ 1048576; decide, fun k _ => Nat.le_refl _, show -1 ≤ (-1 : Int) ∧ (-1 : Int) ≤ 9223372036854775807 by decide⟩, ?_, hw3.there, HW1.out.trans (hb3.mono HW1.out.size)⟩
    exact (HD1.out.below hb3).more fun j hj => ⟨hj.1, by have := hj.2; omega⟩
  have HR := Lib.hid (show W.heap.size ≤ w2.heap.size from Nat.le_trans HW1.out.size hR)
  have HP3 := Lib.hid hP3
  clear hw3 hb2 hb3 hR hP3 HD1 HW1
  generalize w2.heap.size = R at *
  go_wp2_with fail
  go_loopw [5] (fun i wr => ∃ q : Nat, q ≤ 60 ∧ q ≤ ll ∧ i = .int .i64 q ∧ ∃ st, PAt W D R st wr) (fun i _ => 60 - (intOf i).toNat)
  case atStart => exact ⟨0, by decide, Nat.zero_le _, rfl, _, HP3.out⟩
  case round =>
    clear HP3
    obtain ⟨q, hq60, hql, rfl, st, hst⟩ := hrel
    have HST := Lib.hid hst
    clear hst
    by_cases hlt : q < ll ∧ q < 60
    case neg =>
      rcases (by omega : ¬ q < ll ∨ q < ll ∧ q = 60) with hx | ⟨hx, rfl⟩
      · have hd1 : decide (q < ll) = false := decide_eq_false (by omega)
        clear hlt
        go_wp2_with fail
        refine (KO.out _).mono ?_
        rintro e w6 ⟨rfl, hb⟩
        have HW6 := Lib.hid (HST.out.next hb).below
        clear hb
        go_wp2_with fail
        go_ret
        exact ⟨rfl, HW6.out⟩
      · have hd1 : decide (60 < ll) = true := decide_eq_true (by omega)
        clear hlt
        go_wp2_with fail
        refine (KO.out _).mono ?_
        rintro e w6 ⟨rfl, hb⟩
        have HW6 := Lib.hid (HST.out.next hb).below
        clear hb
        go_wp2_with fail
        go_ret
        exact ⟨rfl, HW6.out⟩
    case pos =>
    obtain ⟨hlt, h60⟩ := hlt
    obtain ⟨b0, off0, rfl, hrow⟩ := HA.out.2 (by omega)
    have hc := hrow q hlt
    clear hrow
    generalize A q = a at hc
    obtain ⟨kd, ff, nn, axs, kp⟩ := a
    obtain ⟨c0, c1, c2, ⟨bad, bc, c3, hbt, hbc, hbp⟩, c4, c5, c6, c7, hnn⟩ := hc
    simp only at c0 c1 c2 c3 hbt hbc hbp c4 c5 c6 c7 hnn
    have hlt0 : b0 < W.heap.size := World.block_lt_of_cell? W _ c0
    have r0 := (HST.out.below.cell (p := ⟨b0, off0 + q * 8, none⟩) hlt0).trans c0
    have r1 := (HST.out.below.cell (p := ⟨b0, off0 + q * 8 + 1, none⟩) hlt0).trans c1
    have r2 := (HST.out.below.cell (p := ⟨b0, off0 + q * 8 + 2, none⟩) hlt0).trans c2
    have r3 := (HST.out.below.cell (p := ⟨b0, off0 + q * 8 + 3, none⟩) hlt0).trans c3
    have r4 := (HST.out.below.cell (p := ⟨b0, off0 + q * 8 + 4, none⟩) hlt0).trans c4
    have r5 := (HST.out.below.cell (p := ⟨b0, off0 + q * 8 + 5, none⟩) hlt0).trans c5
    have r6 := (HST.out.below.cell (p := ⟨b0, off0 + q * 8 + 6, none⟩) hlt0).trans c6
    have r7 := (HST.out.below.cell (p := ⟨b0, off0 + q * 8 + 7, none⟩) hlt0).trans c7
    have hd1 : decide (q < ll) = true := decide_eq_true (by omega)
    have hd2 : decide ((q : Int) < 60) = true := decide_eq_true (by omega)
    have hql2 : (q : Int) < (ll : Int) := by omega
    have hw1 : IntKind.i64.wrap ((q : Int) + 1) = (q : Int) + 1 := IntWalk.i64_in _ (by omega)
    have HBT := Lib.hid hbt
    have HBP := Lib.hid hbp
    have HNN := Lib.hid hnn
    have HQ := Lib.hid (And.intro hlt (And.intro h60 (And.intro hq60 hql)))
    obtain ⟨bn, hbn⟩ : ∃ bn, axs.length = bn := ⟨_, rfl⟩
    rw [hbn] at r3 HBT hbc HBP
    have HBN := Lib.hid hbn
    have HBC := Lib.hid hbc
    have HA1 := Lib.hid (below_alloc (Below.refl _ wr) (.cells #[.int .i64 kd, .int .i64 ff, .int .i64 nn, .slice bad bn bc, .int .i64 (kp 0), .int .i64 (kp 1), .int .i64 (kp 2), .int .i64 (kp 3)] 32))
    have HNA := Lib.hid (World.alloc_heap_new wr (.cells #[.int .i64 kd, .int .i64 ff, .int .i64 nn, .slice bad bn bc, .int .i64 (kp 0), .int .i64 (kp 1), .int .i64 (kp 2), .int .i64 (kp 3)] 32))
    have HSTA := Lib.hid (HST.out.next HA1.out)
    have HDB := Lib.hid (HST.out.d.bound.below HA1.out)
    clear c0 c1 c2 c3 c4 c5 c6 c7 hbt hnn hq60 hql hbp hbc hbn
    go_upto_region 7 with fail
    clear r0 r1 r2 r3 r4 r5 r6 r7
    generalize wr.alloc (.cells #[.int .i64 kd, .int .i64 ff, .int .i64 nn, .slice bad bn bc, .int .i64 (kp 0), .int .i64 (kp 1), .int .i64 (kp 2), .int .i64 (kp 3)] 32) = w5 at *
    have d0 := cell_of_block (o := 0) HNA.out rfl
    have d1 := cell_of_block (o := 1) HNA.out rfl
    have d2 := cell_of_block (o := 2) HNA.out rfl
    have d3 := cell_of_block (o := 3) HNA.out rfl
    have d4 := cell_of_block (o := 4) HNA.out rfl
    have d5 := cell_of_block (o := 5) HNA.out rfl
    have d6 := cell_of_block (o := 6) HNA.out rfl
    have d7 := cell_of_block (o := 7) HNA.out rfl
    have HAB := Lib.hid (show wr.heap.size ≠ R by have := HST.out.lt; omega)
    have HAL := Lib.hid (show wr.heap.size < w5.heap.size from (Array.getElem?_eq_some_iff.1 HNA.out).1)
    have HWW := Lib.hid HST.out.below.size
    generalize wr.heap.size = ab at *
    go_upto_if 34 with fail
    go_cut [7] (fun s wx => ∃ n' : Nat, s = .slice bad n' bc ∧ n' ≤ 200 ∧ n' ≤ bn ∧ wx = w5)
    case first =>
      by_cases h200 : 200 < bn
      · have hd3 : decide ((bn : Int) > 200) = true := decide_eq_true (by omega)
        obtain ⟨g, o, rfl⟩ := HBP.out (by omega)
        have hsl := slice_to_any (ad := some ⟨g, o, none⟩) (n := bn) (c := bc) (s := 200) ⟨g, o, rfl⟩ (by have := HBC.out; omega) (by have := HBC.out; omega) w5
        rw [show ((200 : Nat) : Int) = 200 from rfl] at hsl
        go_wp2_with fail
        go_meet
        exact ⟨200, rfl, Nat.le_refl _, by omega, rfl⟩
      · have hd3 : decide ((bn : Int) > 200) = false := decide_eq_false (by omega)
        go_wp2_with fail
        go_meet
        exact ⟨bn, rfl, by omega, Nat.le_refl _, rfl⟩
    case rest =>
    obtain ⟨n', rfl, hn2, hnb, rfl⟩ := hcut
    have HTX := Lib.hid (HBT.out.take HBN.out hnb)
    have HXL := Lib.hid (show (axs.take n').length = n' by rw [List.length_take, HBN.out]; omega)
    have HN2 := Lib.hid hn2
    generalize axs.take n' = xs at *
    clear hn2 hnb HBT HBP HBC HBN
    rcases (by omega : kd = 0 ∨ kd = 1 ∨ kd = 2 ∨ kd = 3 ∨ kd = 4 ∨ (¬ kd = 0 ∧ ¬ kd = 1 ∧ ¬ kd = 2 ∧ ¬ kd = 3 ∧ ¬ kd = 4)) with rfl | rfl | rfl | rfl | rfl | ⟨k0, k1, k2, k3, k4⟩
    · have hst5 := HSTA.out
      have hst6 := hst5.fit
      have KA := Lib.hid (rappend_c hst5.fit ff xs (by have := HXL.out; have := HN2.out; omega) wc)
      have q1 := txt_conv (HTX.out.below hst5.below) wc (Below.refl _ _)
      clear hst5
      go_upto_region 12 with fail
      refine wp_region_lit ?_
      refine wpList_load_all rfl 28 _ rfl R (rdC st) _ (by go_simp) HSTA.out.r Try.underlying28 rfl (HI.out _) ?_
      refine wpList_yield (w' := wc) (v := .pointer (some ⟨ab, 1, none⟩)) rfl (by go_simp) ?_
      refine wpList_yield (w' := wc) (v := .int .i64 ff) rfl (by go_simp) ?_
      refine wpList_yield (w' := wc) (v := .slice bad n' bc) rfl (by go_simp) ?_
      refine wpList_yield (w' := wc) (v := .string (strOfNums xs)) rfl (by go_simp) ?_
      refine wpList_enter rfl (by go_simp) KA.out ?_
      rintro e w6 ⟨rfl, hb6⟩
      refine ⟨_, rfl, ?_⟩
      refine wpList_yield (w' := w6) (v := .tuple #[.agg (rdC (callF 0 st ff xs).1).toArray, .int .i64 (callF 0 st ff xs).2]) rfl (by go_simp) ?_
      refine wpList_yield (w' := w6) (v := .agg (rdC (callF 0 st ff xs).1).toArray) rfl (by go_simp) ?_
      refine wpList_yield (w' := w6) (v := .int .i64 (callF 0 st ff xs).2) rfl (by go_simp) ?_
      refine wpList_yield (w' := w6.alloc (.cells #[.string ⟨#[]⟩, .string ⟨#[]⟩, .string ⟨#[]⟩, .string ⟨#[]⟩, .int .i64 0, .int .i64 0, .int .i64 0, .int .i64 0, .int .i64 0, .bool false] 28)) (v := .pointer (some ⟨w6.heap.size, 0, none⟩)) rfl (by go_simp) ?_
      refine wpList_store_all rfl 28 _ _ rfl w6.heap.size (cs := #[.string ⟨#[]⟩, .string ⟨#[]⟩, .string ⟨#[]⟩, .string ⟨#[]⟩, .int .i64 0, .int .i64 0, .int .i64 0, .int .i64 0, .int .i64 0, .bool false]) (T := 28) (rdC (callF 0 st ff xs).1) (by go_simp) (by go_simp) (World.alloc_heap_new _ _) rfl (HI.out _) (HO.out _) ?_
      intro w7 hw7
      have hb7 := below_next hb6 (hw7.below (below_alloc (Below.refl _ w6) _) (Nat.le_refl _))
      have HST7 := Lib.hid (HSTA.out.next hb7)
      have HX7 := Lib.hid hw7.there
      have HB57 := Lib.hid hb7
      have HZ7 := Lib.hid (show wc.heap.size ≤ w6.heap.size from hb6.size)
      have HL7 := Lib.hid (show w6.heap.size < w7.heap.size from (Array.getElem?_eq_some_iff.1 hw7.there).1)
      have f1 : w7.cell? ⟨ab, 1, none⟩ = some (.int .i64 ff) := (hb7.cell (p := ⟨ab, 1, none⟩) HAL.out).trans d1
      clear hb6 hw7 hb7 KA d0 d1 d2 d3 d4 d5 d6 d7
      generalize w6.heap.size = p7 at *
      have KD := Lib.hid (append_dk (HDB.out.below HB57.out) ff bad n' bc xs HXL.out.symm (fun w' hf => HTX.out.low HST7.out.below (Nat.le_refl _) (fun j hj => hj.1.1) hf) (by have := HXL.out; have := HN2.out; omega))
      go_wp2_with fail
      refine KD.out.mono ?_
      rintro e w8 ⟨rfl, hd, hf⟩
      obtain ⟨hd8, hr8, hb8⟩ := HST7.out.call (hd.more fun j hj => hj.elim (fun h => .inl h.1) .inr) (hf.mono fun j hj => hj.1)
      have HX8 := Lib.hid ((hf.block p7 HL7.out (fun hg => by have := hg.2; have := HAL.out; have := HZ7.out; omega)).trans HX7.out)
      have HD8 := Lib.hid hd8
      have HR8 := Lib.hid hr8
      have HB8 := Lib.hid hb8
      have HF8 := Lib.hid (hst6.call (q := 0) (by first | exact .inl rfl | exact .inr (.inl rfl) | exact .inr (.inr rfl)) ff xs)
      clear hd hf KD f1 hd8 hr8 hb8
      generalize (callF 0 st ff xs).2 = code at *
      generalize (callF 0 st ff xs).1 = st8 at *
      go_upto_region 15 with fail
      refine wp_region_lit ?_
      refine wpList_load_all rfl 28 _ rfl p7 (rdC st8) _ (by go_simp) HX8.out Try.underlying28 rfl (HI.out _) ?_
      refine wpList_store_all rfl 28 _ _ rfl R (T := 28) (rdC st8) (by go_simp) (by go_simp) HR8.out rfl (HI.out _) (HO.out _) ?_
      intro w10 hw10
      have HP10 := Lib.hid (PAt.write HR.out HF8.out HD8.out HB8.out hw10)
      clear hw10
      go_upto_region 32 with fail
      refine wp_region_lit ?_
      refine wpList_yield (w' := w10) (v := .pointer (some ⟨D, 0, none⟩)) rfl (by go_simp) ?_
      refine wpList_load_all rfl 28 _ rfl R _ _ (by go_simp) HP10.out.r Try.underlying28 rfl (HI.out _) ?_
      refine wpList_enter rfl (by go_simp) (KSM.out _ _ _ _ HP10.out.d) ?_
      rintro e w9 ⟨rfl, hb9⟩
      refine ⟨_, rfl, ?_⟩
      have HP9 := Lib.hid (HP10.out.next hb9)
      clear hb9
      go_wp2_with fail
      go_roundw
      case rel => exact ⟨q + 1, by have := HQ.out; omega, by have := HQ.out; omega, by go_num, _, HP9.out⟩
      case measure => have := HQ.out; simp [intOf]; omega
    · have hst5 := HSTA.out
      have hst6 := hst5.fit
      have KA := Lib.hid (rsync_c hst5.fit ff wc)
      
      clear hst5
      go_upto_region 17 with fail
      refine wp_region_lit ?_
      refine wpList_load_all rfl 28 _ rfl R (rdC st) _ (by go_simp) HSTA.out.r Try.underlying28 rfl (HI.out _) ?_
      refine wpList_yield (w' := wc) (v := .pointer (some ⟨ab, 1, none⟩)) rfl (by go_simp) ?_
      refine wpList_yield (w' := wc) (v := .int .i64 ff) rfl (by go_simp) ?_
      refine wpList_enter rfl (by go_simp) KA.out ?_
      rintro e w6 ⟨rfl, hb6⟩
      refine ⟨_, rfl, ?_⟩
      refine wpList_yield (w' := w6) (v := .tuple #[.agg (rdC (callF 1 st ff []).1).toArray, .int .i64 (callF 1 st ff []).2]) rfl (by go_simp) ?_
      refine wpList_yield (w' := w6) (v := .agg (rdC (callF 1 st ff []).1).toArray) rfl (by go_simp) ?_
      refine wpList_yield (w' := w6) (v := .int .i64 (callF 1 st ff []).2) rfl (by go_simp) ?_
      refine wpList_yield (w' := w6.alloc (.cells #[.string ⟨#[]⟩, .string ⟨#[]⟩, .string ⟨#[]⟩, .string ⟨#[]⟩, .int .i64 0, .int .i64 0, .int .i64 0, .int .i64 0, .int .i64 0, .bool false] 28)) (v := .pointer (some ⟨w6.heap.size, 0, none⟩)) rfl (by go_simp) ?_
      refine wpList_store_all rfl 28 _ _ rfl w6.heap.size (cs := #[.string ⟨#[]⟩, .string ⟨#[]⟩, .string ⟨#[]⟩, .string ⟨#[]⟩, .int .i64 0, .int .i64 0, .int .i64 0, .int .i64 0, .int .i64 0, .bool false]) (T := 28) (rdC (callF 1 st ff []).1) (by go_simp) (by go_simp) (World.alloc_heap_new _ _) rfl (HI.out _) (HO.out _) ?_
      intro w7 hw7
      have hb7 := below_next hb6 (hw7.below (below_alloc (Below.refl _ w6) _) (Nat.le_refl _))
      have HST7 := Lib.hid (HSTA.out.next hb7)
      have HX7 := Lib.hid hw7.there
      have HB57 := Lib.hid hb7
      have HZ7 := Lib.hid (show wc.heap.size ≤ w6.heap.size from hb6.size)
      have HL7 := Lib.hid (show w6.heap.size < w7.heap.size from (Array.getElem?_eq_some_iff.1 hw7.there).1)
      have f1 : w7.cell? ⟨ab, 1, none⟩ = some (.int .i64 ff) := (hb7.cell (p := ⟨ab, 1, none⟩) HAL.out).trans d1
      clear hb6 hw7 hb7 KA d0 d1 d2 d3 d4 d5 d6 d7
      generalize w6.heap.size = p7 at *
      have KD := Lib.hid (sync_dk (HDB.out.below HB57.out) ff)
      go_wp2_with fail
      refine KD.out.mono ?_
      rintro e w8 ⟨rfl, hd, hf⟩
      obtain ⟨hd8, hr8, hb8⟩ := HST7.out.call (hd.more fun j hj => hj.elim (fun h => .inl h.1) .inr) (hf.mono fun j hj => hj.1)
      have HX8 := Lib.hid ((hf.block p7 HL7.out (fun hg => by have := hg.2; have := HAL.out; have := HZ7.out; omega)).trans HX7.out)
      have HD8 := Lib.hid hd8
      have HR8 := Lib.hid hr8
      have HB8 := Lib.hid hb8
      have HF8 := Lib.hid (hst6.call (q := 1) (by first | exact .inl rfl | exact .inr (.inl rfl) | exact .inr (.inr rfl)) ff [])
      clear hd hf KD f1 hd8 hr8 hb8
      generalize (callF 1 st ff []).2 = code at *
      generalize (callF 1 st ff []).1 = st8 at *
      go_upto_region 20 with fail
      refine wp_region_lit ?_
      refine wpList_load_all rfl 28 _ rfl p7 (rdC st8) _ (by go_simp) HX8.out Try.underlying28 rfl (HI.out _) ?_
      refine wpList_store_all rfl 28 _ _ rfl R (T := 28) (rdC st8) (by go_simp) (by go_simp) HR8.out rfl (HI.out _) (HO.out _) ?_
      intro w10 hw10
      have HP10 := Lib.hid (PAt.write HR.out HF8.out HD8.out HB8.out hw10)
      clear hw10
      go_upto_region 32 with fail
      refine wp_region_lit ?_
      refine wpList_yield (w' := w10) (v := .pointer (some ⟨D, 0, none⟩)) rfl (by go_simp) ?_
      refine wpList_load_all rfl 28 _ rfl R _ _ (by go_simp) HP10.out.r Try.underlying28 rfl (HI.out _) ?_
      refine wpList_enter rfl (by go_simp) (KSM.out _ _ _ _ HP10.out.d) ?_
      rintro e w9 ⟨rfl, hb9⟩
      refine ⟨_, rfl, ?_⟩
      have HP9 := Lib.hid (HP10.out.next hb9)
      clear hb9
      go_wp2_with fail
      go_roundw
      case rel => exact ⟨q + 1, by have := HQ.out; omega, by have := HQ.out; omega, by go_num, _, HP9.out⟩
      case measure => have := HQ.out; simp [intOf]; omega
    · have hst5 := HSTA.out
      have hst6 := hst5.fit
      have KA := Lib.hid (rreset_c hst5.fit ff wc)
      
      clear hst5
      go_upto_region 22 with fail
      refine wp_region_lit ?_
      refine wpList_load_all rfl 28 _ rfl R (rdC st) _ (by go_simp) HSTA.out.r Try.underlying28 rfl (HI.out _) ?_
      refine wpList_yield (w' := wc) (v := .pointer (some ⟨ab, 1, none⟩)) rfl (by go_simp) ?_
      refine wpList_yield (w' := wc) (v := .int .i64 ff) rfl (by go_simp) ?_
      refine wpList_enter rfl (by go_simp) KA.out ?_
      rintro e w6 ⟨rfl, hb6⟩
      refine ⟨_, rfl, ?_⟩
      refine wpList_yield (w' := w6) (v := .tuple #[.agg (rdC (callF 2 st ff []).1).toArray, .int .i64 (callF 2 st ff []).2]) rfl (by go_simp) ?_
      refine wpList_yield (w' := w6) (v := .agg (rdC (callF 2 st ff []).1).toArray) rfl (by go_simp) ?_
      refine wpList_yield (w' := w6) (v := .int .i64 (callF 2 st ff []).2) rfl (by go_simp) ?_
      refine wpList_yield (w' := w6.alloc (.cells #[.string ⟨#[]⟩, .string ⟨#[]⟩, .string ⟨#[]⟩, .string ⟨#[]⟩, .int .i64 0, .int .i64 0, .int .i64 0, .int .i64 0, .int .i64 0, .bool false] 28)) (v := .pointer (some ⟨w6.heap.size, 0, none⟩)) rfl (by go_simp) ?_
      refine wpList_store_all rfl 28 _ _ rfl w6.heap.size (cs := #[.string ⟨#[]⟩, .string ⟨#[]⟩, .string ⟨#[]⟩, .string ⟨#[]⟩, .int .i64 0, .int .i64 0, .int .i64 0, .int .i64 0, .int .i64 0, .bool false]) (T := 28) (rdC (callF 2 st ff []).1) (by go_simp) (by go_simp) (World.alloc_heap_new _ _) rfl (HI.out _) (HO.out _) ?_
      intro w7 hw7
      have hb7 := below_next hb6 (hw7.below (below_alloc (Below.refl _ w6) _) (Nat.le_refl _))
      have HST7 := Lib.hid (HSTA.out.next hb7)
      have HX7 := Lib.hid hw7.there
      have HB57 := Lib.hid hb7
      have HZ7 := Lib.hid (show wc.heap.size ≤ w6.heap.size from hb6.size)
      have HL7 := Lib.hid (show w6.heap.size < w7.heap.size from (Array.getElem?_eq_some_iff.1 hw7.there).1)
      have f1 : w7.cell? ⟨ab, 1, none⟩ = some (.int .i64 ff) := (hb7.cell (p := ⟨ab, 1, none⟩) HAL.out).trans d1
      clear hb6 hw7 hb7 KA d0 d1 d2 d3 d4 d5 d6 d7
      generalize w6.heap.size = p7 at *
      have KD := Lib.hid (reset_dk (HDB.out.below HB57.out) ff)
      go_wp2_with fail
      refine KD.out.mono ?_
      rintro e w8 ⟨rfl, hd, hf⟩
      obtain ⟨hd8, hr8, hb8⟩ := HST7.out.call (hd.more fun j hj => hj.elim (fun h => .inl h.1) .inr) (hf.mono fun j hj => hj.1)
      have HX8 := Lib.hid ((hf.block p7 HL7.out (fun hg => by have := hg.2; have := HAL.out; have := HZ7.out; omega)).trans HX7.out)
      have HD8 := Lib.hid hd8
      have HR8 := Lib.hid hr8
      have HB8 := Lib.hid hb8
      have HF8 := Lib.hid (hst6.call (q := 2) (by first | exact .inl rfl | exact .inr (.inl rfl) | exact .inr (.inr rfl)) ff [])
      clear hd hf KD f1 hd8 hr8 hb8
      generalize (callF 2 st ff []).2 = code at *
      generalize (callF 2 st ff []).1 = st8 at *
      go_upto_region 25 with fail
      refine wp_region_lit ?_
      refine wpList_load_all rfl 28 _ rfl p7 (rdC st8) _ (by go_simp) HX8.out Try.underlying28 rfl (HI.out _) ?_
      refine wpList_store_all rfl 28 _ _ rfl R (T := 28) (rdC st8) (by go_simp) (by go_simp) HR8.out rfl (HI.out _) (HO.out _) ?_
      intro w10 hw10
      have HP10 := Lib.hid (PAt.write HR.out HF8.out HD8.out HB8.out hw10)
      clear hw10
      go_upto_region 32 with fail
      refine wp_region_lit ?_
      refine wpList_yield (w' := w10) (v := .pointer (some ⟨D, 0, none⟩)) rfl (by go_simp) ?_
      refine wpList_load_all rfl 28 _ rfl R _ _ (by go_simp) HP10.out.r Try.underlying28 rfl (HI.out _) ?_
      refine wpList_enter rfl (by go_simp) (KSM.out _ _ _ _ HP10.out.d) ?_
      rintro e w9 ⟨rfl, hb9⟩
      refine ⟨_, rfl, ?_⟩
      have HP9 := Lib.hid (HP10.out.next hb9)
      clear hb9
      go_wp2_with fail
      go_roundw
      case rel => exact ⟨q + 1, by have := HQ.out; omega, by have := HQ.out; omega, by go_num, _, HP9.out⟩
      case measure => have := HQ.out; simp [intOf]; omega
    · have KD := Lib.hid (arm_dk HDB.out nn HNN.out)
      go_wp2_with fail
      refine KD.out.mono ?_
      rintro e w8 ⟨rfl, hd, hf⟩
      obtain ⟨hd8, hr8, hb8⟩ := HSTA.out.call (hd.more fun j hj => .inl hj.1) (hf.mono fun j hj => hj.1)
      have f2 : w8.cell? ⟨ab, 2, none⟩ = some (.int .i64 nn) := (World.cell?_of_block (w := wc) (a := ⟨ab, 2, none⟩) (hf.block ab HAL.out (fun hg => by have := hg.2; omega))).trans d2
      have e8 := cell_of_block (o := 8) hr8 (rdC_left _)
      have g8 := free_of_block 8 hr8
      have hW := (wrote_refl hr8).set 8 (.int .i64 (max nn (-1)))
      rw [rdC_setL] at hW
      have HFT := Lib.hid (show DFit { st with left := max nn (-1) } from ⟨HSTA.out.fit.fits, HSTA.out.fit.safe, ⟨by show -1 ≤ max nn (-1); omega, by show max nn (-1) ≤ _; have := HNN.out; omega⟩⟩)
      have HP10 := Lib.hid (PAt.write HR.out HFT.out hd8 hb8 hW)
      clear hd hf KD hd8 hr8 hb8 hW d0 d1 d2 d3 d4 d5 d6 d7
      go_upto_region 32 with fail
      clear f2 e8 g8
      generalize w8.setCell ⟨R, 8, none⟩ (.int .i64 (max nn (-1))) = w10 at *
      refine wp_region_lit ?_
      refine wpList_yield (w' := w10) (v := .pointer (some ⟨D, 0, none⟩)) rfl (by go_simp) ?_
      refine wpList_load_all rfl 28 _ rfl R _ _ (by go_simp) HP10.out.r Try.underlying28 rfl (HI.out _) ?_
      refine wpList_enter rfl (by go_simp) (KSM.out _ _ _ _ HP10.out.d) ?_
      rintro e w9 ⟨rfl, hb9⟩
      refine ⟨_, rfl, ?_⟩
      have HP9 := Lib.hid (HP10.out.next hb9)
      clear hb9
      go_wp2_with fail
      go_roundw
      case rel => exact ⟨q + 1, by have := HQ.out; omega, by have := HQ.out; omega, by go_num, _, HP9.out⟩
      case measure => have := HQ.out; simp [intOf]; omega
    · have KD := Lib.hid (fall_dk HDB.out kp)
      go_wp2_with fail
      refine KD.out.mono ?_
      rintro e w8 ⟨rfl, hd, hf⟩
      obtain ⟨hd8, hr8, hb8⟩ := HSTA.out.call (hd.more fun j hj => .inl hj.1) (hf.mono fun j hj => hj.1)
      have hab := (hf.block ab HAL.out (fun hg => by have := hg.2; omega)).trans HNA.out
      have HD8 := Lib.hid hd8
      have HR8 := Lib.hid hr8
      have HB8 := Lib.hid hb8
      have HF8 := Lib.hid (HSTA.out.fit.fall kp)
      have KF := Lib.hid (rfall_c HSTA.out.fit kp w8)
      have f4 := cell_of_block (o := 4) hab rfl
      have f5 := cell_of_block (o := 5) hab rfl
      have f6 := cell_of_block (o := 6) hab rfl
      have f7 := cell_of_block (o := 7) hab rfl
      clear hd hf KD hd8 hr8 hb8 hab d0 d1 d2 d3 d4 d5 d6 d7
      go_upto_region 31 with fail
      refine wp_region_lit ?_
      refine wpList_load_all rfl 28 _ rfl R (rdC st) _ (by go_simp) HR8.out Try.underlying28 rfl (HI.out _) ?_
      refine wpList_yield (w' := w8) (v := .pointer (some ⟨ab, 4, none⟩)) rfl (by go_simp) ?_
      refine wpList_yield (w' := w8) (v := .agg #[.int .i64 (kp 0), .int .i64 (kp 1), .int .i64 (kp 2), .int .i64 (kp 3)]) rfl (by go_simp) ?_
      refine wpList_enter rfl (by go_simp) KF.out ?_
      rintro e w9 ⟨rfl, hb9⟩
      refine ⟨_, rfl, ?_⟩
      have hr9 := (hb9.block R (Array.getElem?_eq_some_iff.1 HR8.out).1).trans HR8.out
      have hd9 := HD8.out.below hb9
      have hB9 := HB8.out.trans (hb9.mono HB8.out.size)
      refine wpList_store_all rfl 28 _ _ rfl R (T := 28) (rdC (fallF st kp)) (by go_simp) (by go_simp) hr9 rfl (HI.out _) (HO.out _) ?_
      intro w10 hw10
      have HP10 := Lib.hid (PAt.write HR.out HF8.out hd9 hB9 hw10)
      clear hw10 hb9 hr9 hd9 hB9 f4 f5 f6 f7
      go_upto_region 32 with fail
      refine wp_region_lit ?_
      refine wpList_yield (w' := w10) (v := .pointer (some ⟨D, 0, none⟩)) rfl (by go_simp) ?_
      refine wpList_load_all rfl 28 _ rfl R _ _ (by go_simp) HP10.out.r Try.underlying28 rfl (HI.out _) ?_
      refine wpList_enter rfl (by go_simp) (KSM.out _ _ _ _ HP10.out.d) ?_
      rintro e w9 ⟨rfl, hb9⟩
      refine ⟨_, rfl, ?_⟩
      have HP9 := Lib.hid (HP10.out.next hb9)
      clear hb9
      go_wp2_with fail
      go_roundw
      case rel => exact ⟨q + 1, by have := HQ.out; omega, by have := HQ.out; omega, by go_num, _, HP9.out⟩
      case measure => have := HQ.out; simp [intOf]; omega
    · have q0 : (kd == 0) = false := by rw [beq_eq_false_iff_ne]; exact k0
      have q1 : (kd == 1) = false := by rw [beq_eq_false_iff_ne]; exact k1
      have q2 : (kd == 2) = false := by rw [beq_eq_false_iff_ne]; exact k2
      have q3 : (kd == 3) = false := by rw [beq_eq_false_iff_ne]; exact k3
      have q4 : (kd == 4) = false := by rw [beq_eq_false_iff_ne]; exact k4
      clear k0 k1 k2 k3 k4
      go_upto_region 32 with fail
      clear d0 d1 d2 d3 d4 d5 d6 d7
      refine wp_region_lit ?_
      refine wpList_yield (w' := wc) (v := .pointer (some ⟨D, 0, none⟩)) rfl (by go_simp) ?_
      refine wpList_load_all rfl 28 _ rfl R _ _ (by go_simp) HSTA.out.r Try.underlying28 rfl (HI.out _) ?_
      refine wpList_enter rfl (by go_simp) (KSM.out _ _ _ _ HSTA.out.d) ?_
      rintro e w9 ⟨rfl, hb9⟩
      refine ⟨_, rfl, ?_⟩
      have HP9 := Lib.hid (HSTA.out.next hb9)
      clear hb9
      go_wp2_with fail
      go_roundw
      case rel => exact ⟨q + 1, by have := HQ.out; omega, by have := HQ.out; omega, by go_num, _, HP9.out⟩
      case measure => have := HQ.out; simp [intOf]; omega
end Go.Proofs.Ytemkjgohpihigaa
