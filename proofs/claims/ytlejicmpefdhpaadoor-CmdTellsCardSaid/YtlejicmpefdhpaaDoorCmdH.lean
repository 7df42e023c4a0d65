/- The document's answers of layer 22 (berthingref22): Right, Put, at any twelve numbers. No condition but the numbers' bounds. -/
import Derived.Test.YtlejicmpefdhpaaDoorCmdG
namespace Go.Proofs.YtlejicmpefdhpaaDoor
set_option linter.unusedVariables false
open Go.ChangeShapes Go.WideShapes Go.ChangeAt Go.RowKit
attribute [local go_sem ↓] Go.wp_at_zero Go.wp_at_succ comesTo_value_eq comesTo_skip_eq comesTo_enter_eq Rl.comesToR_value_eq Rl.comesToR_skip_eq Rl.comesToR_enter_eq

theorem right_may {xs : List Int} {n : Nat} (hk : kindB xs = true) (hn : xs.getD 0 0 = (n : Int)) : rightL xs = true ↔ ∀ i, i < 11 → mayB n i (xs.getD (i + 1) 0) = true := by
  have hkn : kN xs = n := by unfold kN; rw [hn]; rfl
  unfold rightL
  rw [hk, hkn, hn, Bool.true_and, List.all_eq_true]
  constructor
  · intro h i hi
    unfold mayB
    by_cases hc : i + 1 ∈ cntN n
    · rw [if_pos hc]; exact h _ hc
    · rw [if_neg hc]
  · intro h f hf
    have hb := cntN_in n f hf
    have := h (f - 1) (by omega)
    unfold mayB at this
    rw [show f - 1 + 1 = f by omega, if_pos hf] at this
    exact this
set_option maxRecDepth 100000 in
set_option maxHeartbeats 400000 in
theorem rright_any {xs : List Int} (h : xs.length = 12) (w : World) : Calls Tryd.prog 13 #[.agg (numC xs).toArray] w fun e w' => e = .returned (.bool (rightL xs)) ∧ Below w.heap.size w w' := by
  have hmx : Tryd.prog.follows .mixedOrders = true := by kernel_rfl
  have hk0 : (numC xs).toArray[0]? = some (.int .i64 (xs.getD 0 0)) := by have := numC_at (xs := xs) (i := 0) (by omega); simpa using this
  have HMA := Lib.hid (fun (i : Nat) (hi : i < 12) => show (numC xs).toArray[i]? = some (.int .i64 (xs.getD i 0)) by have := numC_at (xs := xs) (i := i) (by omega); simpa using this)
  have hcl : kindB xs = true ∨ kindB xs = false := by cases kindB xs; exact .inr rfl; exact .inl rfl
  generalize numC xs = l at *
  go_enter Tryd.func13, Tryd.ntmps13
  go_upto_region 1 with fail
  have hN := World.alloc_heap_new w (.cells l.toArray 27)
  have HB := Lib.hid (below_alloc (Below.refl _ w) (.cells l.toArray 27))
  generalize w.alloc (.cells l.toArray 27) = U at *
  have c0 := cell_of_block (o := 0) hN hk0
  have HN := Lib.hid hN
  clear hN hk0
  rcases hcl with hk | hk
  · obtain ⟨n, hn, hkn, hn1, hn2⟩ := kindB_yes hk
    have HRM := Lib.hid (right_may hk hn)
    have HN0 := Lib.hid hn
    rw [hn] at c0
    have KF := Lib.hid (rfields_at n ⟨hn1, hn2⟩ U)
    have hie := fldS_ne n
    have HIX := Lib.hid (fun j hj W => fld_index n j hj W)
    have HSZ := Lib.hid (fldS_size n)
    clear hk hn hkn
    generalize fldS n = S at *
    go_wp2_with fail
    ((with_reducible refine KF.out.mono ?_))
    rintro e w1 ⟨rfl, rfl⟩
    go_wp2_with fail
    go_loopw [4] (fun i wr => ∃ j : Nat, j ≤ 11 ∧ i = .int .i64 j ∧ (∀ m, m < j → mayB n m (xs.getD (m + 1) 0) = true) ∧ Below U.heap.size U wr) (fun i _ => 11 - (intOf i).toNat)
    case atStart => exact ⟨0, Nat.zero_le _, rfl, (fun m hm => by omega), Below.refl _ _⟩
    case round =>
      obtain ⟨j, hj, rfl, hall, hb⟩ := hrel
      have HA := Lib.hid hall
      have HBR := Lib.hid hb
      have HF := Lib.hid (below_next HB.out hb)
      have hnr := (hb.block _ (Array.getElem?_eq_some_iff.1 HN.out).1).trans HN.out
      have HNR := Lib.hid hnr
      clear hall hb hnr c0
      by_cases hlt : j < 11
      · have hd : decide (j < S.size) = true := by rw [HSZ.out]; exact decide_eq_true (by omega)
        have HC0 := Lib.hid (fun (W : World) (h : Below wr.heap.size wr W) => cell_of_block (o := 0) ((h.block _ (Array.getElem?_eq_some_iff.1 HNR.out).1).trans HNR.out) (HN0.out ▸ HMA.out 0 (by decide)))
        have HCJ := Lib.hid (fun (W : World) (h : Below wr.heap.size wr W) => cell_of_block (o := 1 + j) ((h.block _ (Array.getElem?_eq_some_iff.1 HNR.out).1).trans HNR.out) (by rw [show 1 + j = j + 1 by omega]; exact HMA.out (j + 1) (by omega)))
        have KM := Lib.hid (fun W => rmay_any n j hlt (xs.getD (j + 1) 0) W)
        have HSTEP := Lib.hid (show mayB n j (xs.getD (j + 1) 0) = true → ∀ m, m < j + 1 → mayB n m (xs.getD (m + 1) 0) = true from fun h m hm => by
          rcases Nat.lt_or_ge m j with h1 | h1
          · exact HA.out m h1
          · obtain rfl : m = j := by omega
            exact h)
        have HNO := Lib.hid (show mayB n j (xs.getD (j + 1) 0) = false → rightL xs = false from fun h => by
          cases hr : rightL xs with
          | false => rfl
          | true => rw [HRM.out.1 hr j hlt] at h; cases h)
        have HIJ := Lib.hid (fun W => HIX.out j hlt W)
        generalize xs.getD (j + 1) 0 = v at *
        generalize fldF n j = fc at *
        have hji : (j : Int) < 11 := by omega
        cases hm : mayB n j v with
        | true =>
          rw [hm] at KM
          have HS1 := Lib.hid (HSTEP.out hm)
          clear hm
          go_wp2_with fail
          refine Rl.wp_region_rel (fun a b => Below a.heap.size a b) wr (fun a b c h h' => below_next h h') (fun a => Below.refl _ _) hmx (by kernel_rfl) (Below.refl _ _).drew ?_
          (refine Rl.textR_run ?_ (fun ρ => ?_) (fun ρ W hS hd => ?_) ?_; rotate_left; (focus go_simp); (focus (obtain ⟨hc, hf⟩ := bcell hS; go_simp; first | exact ⟨rfl, Below.refl _ _⟩ | (refine ⟨?_, Below.refl _ _⟩; rfl))); (try go_simp))
          (refine Rl.textR_run ?_ (fun ρ => ?_) (fun ρ W hS hd => ?_) ?_; rotate_left; (focus go_simp); (focus (have hfact := HC0.out W hS; go_simp; first | exact ⟨rfl, Below.refl _ _⟩ | (refine ⟨?_, Below.refl _ _⟩; rfl))); (try go_simp))
          iterate 2 (refine Rl.textR_run ?_ (fun ρ => ?_) (fun ρ W hS hd => ?_) ?_; rotate_left; (focus go_simp); (focus (obtain ⟨hc, hf⟩ := bcell hS; go_simp; first | exact ⟨rfl, Below.refl _ _⟩ | (refine ⟨?_, Below.refl _ _⟩; rfl))); (try go_simp))
          (refine Rl.textR_run ?_ (fun ρ => ?_) (fun ρ W hS hd => ?_) ?_; rotate_left; (focus go_simp); (focus (have hfact := HIJ.out W; go_simp; first | exact ⟨rfl, Below.refl _ _⟩ | (refine ⟨?_, Below.refl _ _⟩; rfl))); (try go_simp))
          iterate 3 (refine Rl.textR_run ?_ (fun ρ => ?_) (fun ρ W hS hd => ?_) ?_; rotate_left; (focus go_simp); (focus (obtain ⟨hc, hf⟩ := bcell hS; go_simp; first | exact ⟨rfl, Below.refl _ _⟩ | (refine ⟨?_, Below.refl _ _⟩; rfl))); (try go_simp))
          (refine Rl.textR_run ?_ (fun ρ => ?_) (fun ρ W hS hd => ?_) ?_; rotate_left; (focus go_simp); (focus (have hfact := HCJ.out W hS; go_simp; first | exact ⟨rfl, Below.refl _ _⟩ | (refine ⟨?_, Below.refl _ _⟩; rfl))); (try go_simp))
          (refine Rl.textR_run ?_ (fun ρ => ?_) (fun ρ W hS hd => ?_) ?_; rotate_left; (focus go_simp); (focus (obtain ⟨hc, hf⟩ := bcell hS; go_simp; refine (KM.out W).mono ?_; rintro e w1 ⟨rfl, rfl⟩; refine ⟨_, rfl, ?_, Below.refl _ _⟩; rfl)); (try go_simp))
          (refine Rl.textR_run ?_ (fun ρ => ?_) (fun ρ W hS hd => ?_) ?_; rotate_left; (focus go_simp); (focus (obtain ⟨hc, hf⟩ := bcell hS; go_simp; first | exact ⟨rfl, Below.refl _ _⟩ | (refine ⟨?_, Below.refl _ _⟩; rfl))); (try go_simp))
          refine Rl.textR_nil ?_
          intro ρ w2 hg hk
          have HG := Lib.hid (below_next HBR.out hg)
          clear hg hk
          dsimp only
          clear ρ
          go_wp2_with fail
          go_roundw
          case rel => exact ⟨j + 1, by omega, by go_num, HS1.out, HG.out⟩
          case measure => simp [intOf]; omega
        | false =>
          rw [hm] at KM
          have HS1 := Lib.hid (HNO.out hm)
          clear hm
          go_wp2_with fail
          refine Rl.wp_region_rel (fun a b => Below a.heap.size a b) wr (fun a b c h h' => below_next h h') (fun a => Below.refl _ _) hmx (by kernel_rfl) (Below.refl _ _).drew ?_
          (refine Rl.textR_run ?_ (fun ρ => ?_) (fun ρ W hS hd => ?_) ?_; rotate_left; (focus go_simp); (focus (obtain ⟨hc, hf⟩ := bcell hS; go_simp; first | exact ⟨rfl, Below.refl _ _⟩ | (refine ⟨?_, Below.refl _ _⟩; rfl))); (try go_simp))
          (refine Rl.textR_run ?_ (fun ρ => ?_) (fun ρ W hS hd => ?_) ?_; rotate_left; (focus go_simp); (focus (have hfact := HC0.out W hS; go_simp; first | exact ⟨rfl, Below.refl _ _⟩ | (refine ⟨?_, Below.refl _ _⟩; rfl))); (try go_simp))
          iterate 2 (refine Rl.textR_run ?_ (fun ρ => ?_) (fun ρ W hS hd => ?_) ?_; rotate_left; (focus go_simp); (focus (obtain ⟨hc, hf⟩ := bcell hS; go_simp; first | exact ⟨rfl, Below.refl _ _⟩ | (refine ⟨?_, Below.refl _ _⟩; rfl))); (try go_simp))
          (refine Rl.textR_run ?_ (fun ρ => ?_) (fun ρ W hS hd => ?_) ?_; rotate_left; (focus go_simp); (focus (have hfact := HIJ.out W; go_simp; first | exact ⟨rfl, Below.refl _ _⟩ | (refine ⟨?_, Below.refl _ _⟩; rfl))); (try go_simp))
          iterate 3 (refine Rl.textR_run ?_ (fun ρ => ?_) (fun ρ W hS hd => ?_) ?_; rotate_left; (focus go_simp); (focus (obtain ⟨hc, hf⟩ := bcell hS; go_simp; first | exact ⟨rfl, Below.refl _ _⟩ | (refine ⟨?_, Below.refl _ _⟩; rfl))); (try go_simp))
          (refine Rl.textR_run ?_ (fun ρ => ?_) (fun ρ W hS hd => ?_) ?_; rotate_left; (focus go_simp); (focus (have hfact := HCJ.out W hS; go_simp; first | exact ⟨rfl, Below.refl _ _⟩ | (refine ⟨?_, Below.refl _ _⟩; rfl))); (try go_simp))
          (refine Rl.textR_run ?_ (fun ρ => ?_) (fun ρ W hS hd => ?_) ?_; rotate_left; (focus go_simp); (focus (obtain ⟨hc, hf⟩ := bcell hS; go_simp; refine (KM.out W).mono ?_; rintro e w1 ⟨rfl, rfl⟩; refine ⟨_, rfl, ?_, Below.refl _ _⟩; rfl)); (try go_simp))
          (refine Rl.textR_run ?_ (fun ρ => ?_) (fun ρ W hS hd => ?_) ?_; rotate_left; (focus go_simp); (focus (obtain ⟨hc, hf⟩ := bcell hS; go_simp; first | exact ⟨rfl, Below.refl _ _⟩ | (refine ⟨?_, Below.refl _ _⟩; rfl))); (try go_simp))
          refine Rl.textR_nil ?_
          intro ρ w2 hg hk
          have HG := Lib.hid (below_next HF.out hg)
          clear hg hk
          dsimp only
          clear ρ
          go_wp2_with fail
          go_ret
          exact ⟨by rw [HS1.out]; rfl, HG.out⟩
      · have hd : decide (j < S.size) = false := by rw [HSZ.out]; exact decide_eq_false (by omega)
        have HT := Lib.hid (HRM.out.2 fun i hi => HA.out i (by omega))
        go_wp2
        go_ret
        exact ⟨by rw [HT.out]; rfl, HF.out⟩
  · have KF := Lib.hid (rfields_no _ (kindB_no hk) U)
    have HRES := Lib.hid (show rightL xs = false by unfold rightL; rw [hk, Bool.false_and])
    clear hk
    generalize xs.getD 0 0 = k at *
    go_wp2_with fail
    ((with_reducible refine KF.out.mono ?_))
    rintro e w1 ⟨rfl, rfl⟩
    go_wp2_with fail
    go_loopw [4] (fun i wr => i = .int .i64 0 ∧ wr = U) (fun i _ => 0)
    case atStart => exact ⟨rfl, rfl⟩
    case round =>
      obtain ⟨rfl, rfl⟩ := hrel
      go_wp2_with fail
      go_ret
      exact ⟨by rw [HRES.out]; rfl, HB.out⟩
set_option maxRecDepth 100000 in
set_option maxHeartbeats 400000 in
theorem rput_any {xs : List Int} (h : xs.length = 12) (hin : ∀ x ∈ xs, -9223372036854775808 ≤ x ∧ x ≤ 9223372036854775807) (w : World) : Calls Tryd.prog 15 #[.agg (numC xs).toArray] w fun e w' => e = .returned (.string (strOfNums (putC xs))) ∧ Below w.heap.size w w' := by
  have KC := Lib.hid (fun W => rclean_any h W)
  have HL := Lib.hid (show (numC xs).length = 12 by rw [numC_len, h])
  have hzl := cleanL_len xs
  have hzin : ∀ x ∈ cleanL xs, -9223372036854775808 ≤ x ∧ x ≤ 9223372036854775807 := by
    intro x hx
    unfold cleanL at hx
    split at hx
    · unfold partL at hx
      obtain ⟨i, _, rfl⟩ := List.mem_map.1 hx
      have h0 := getD_inb hin 0
      have hi := getD_inb hin i
      split
      · exact h0
      · split
        · exact hi
        · decide
    · rw [(List.mem_replicate.1 hx).2]; decide
  have HPC := Lib.hid (show putC xs = (cleanL xs).flatMap putI from rfl)
  have HMA := Lib.hid (fun (i : Nat) (hi : i < 12) => show (numC (cleanL xs)).toArray[i]? = some (.int .i64 ((cleanL xs).getD i 0)) by have := numC_at (xs := cleanL xs) (i := i) (by rw [hzl]; exact hi); simpa using this)
  have HLZ := Lib.hid (show (numC (cleanL xs)).length = 12 by rw [numC_len, hzl])
  have HON := Lib.hid (numC_one (cleanL xs))
  generalize hl : numC xs = l at *
  generalize numC (cleanL xs) = m at *
  generalize cleanL xs = zs at *
  clear hl
  have HZL := Lib.hid hzl
  have HZI := Lib.hid hzin
  clear hzl hzin
  go_enter Tryd.func15, Tryd.ntmps15
  go_upto_region 1 with fail
  have hN := World.alloc_heap_new w (.cells l.toArray 27)
  have HB := Lib.hid (below_alloc (Below.refl _ w) (.cells l.toArray 27))
  generalize w.alloc (.cells l.toArray 27) = U at *
  have HN := Lib.hid hN
  clear hN
  refine wp_region_lit ?_
  refine wpList_load_all rfl 27 _ rfl w.heap.size l _ (by go_simp) HN.out Tryd.underlying27 rfl (by rw [HL.out]; kernel_rfl) ?_
  refine wpList_enter rfl (by go_simp) (KC.out U) ?_
  rintro e w2 ⟨rfl, hb2⟩
  refine ⟨_, rfl, ?_⟩
  have HN2 := Lib.hid ((hb2.block _ (Array.getElem?_eq_some_iff.1 HN.out).1).trans HN.out)
  have HB2 := Lib.hid (below_next HB.out hb2)
  clear hb2
  refine wpList_store_all rfl 27 _ _ rfl w.heap.size (T := 27) m (by go_simp) (by go_simp) HN2.out (by rw [HLZ.out]; simpa using HL.out.symm) (by rw [HLZ.out]; kernel_rfl) HON.out ?_
  intro w3 hw3
  have HN3 := Lib.hid hw3.there
  have HB3 := Lib.hid (hw3.below HB2.out (Nat.le_refl _))
  have c0 := cell_of_block (o := 0) hw3.there (HMA.out 0 (by decide))
  clear hw3
  have K0 := rputint_any [] (by decide) (HZI.out _ (getD_mem12 (zs := zs) (j := 0) (by rw [HZL.out]; decide))) w3
  rw [show strOfNums [] = ⟨#[]⟩ from rfl, List.nil_append] at K0
  have K0 := Lib.hid K0
  have HT1 := Lib.hid (show (zs.take 1).flatMap putI = putI (zs.getD 0 0) by
    have hz := HZL.out
    rcases zs with _ | ⟨z, zs⟩
    · cases hz
    · simp)
  generalize zs.getD 0 0 = z0 at *
  go_wp2_with fail
  ((with_reducible refine K0.out.mono ?_))
  rintro e w4 ⟨rfl, hb4⟩
  have HB4 := Lib.hid hb4
  clear hb4 c0
  go_wp2_with fail
  go_loopw [3, 4] (fun s i wr => ∃ j : Nat, j ≤ 11 ∧ i = .int .i64 j ∧ s = .string (strOfNums ((zs.take (j + 1)).flatMap putI)) ∧ Below w3.heap.size w3 wr) (fun _ i _ => 11 - (intOf i).toNat)
  case atStart => exact ⟨0, Nat.zero_le _, rfl, by rw [HT1.out], HB4.out⟩
  case round =>
    obtain ⟨j, hj, rfl, rfl, hb⟩ := hrel
    have HBR := Lib.hid hb
    have hnr := (hb.block _ (Array.getElem?_eq_some_iff.1 HN3.out).1).trans HN3.out
    clear hb
    by_cases hlt : j < 11
    · have hd : decide ((j : Int) < 11) = true := decide_eq_true (by omega)
      have hjz : j + 1 < zs.length := by rw [HZL.out]; omega
      have HTK := Lib.hid (show (zs.take (j + 1 + 1)).flatMap putI = (zs.take (j + 1)).flatMap putI ++ putI (zs.getD (j + 1) 0) by
        rw [List.take_add_one, List.flatMap_append]; simp [List.getD, hjz])
      have hlen : ((zs.take (j + 1)).flatMap putI).length ≤ 1099511627776 := by
        have := flat_len (zs.take (j + 1)) (fun x hx => HZI.out x (List.mem_of_mem_take hx))
        have h2 : (zs.take (j + 1)).length ≤ 12 := by simp; omega
        omega
      have KP := Lib.hid (rputint_any ((zs.take (j + 1)).flatMap putI) hlen (HZI.out _ (getD_mem12 hjz)) wr)
      have hcj : wr.cell? ⟨w.heap.size, 1 + j, none⟩ = some (.int .i64 (zs.getD (j + 1) 0)) := cell_of_block hnr (by rw [show 1 + j = j + 1 by omega]; exact HMA.out (j + 1) (by omega))
      clear hnr hjz hlen
      generalize zs.getD (j + 1) 0 = v at *
      rw [← HTK.out] at KP
      generalize strOfNums ((zs.take (j + 1)).flatMap putI) = s0 at *
      go_wp2_with fail
      ((with_reducible refine KP.out.mono ?_))
      rintro e w5 ⟨rfl, hb5⟩
      have HB5 := Lib.hid (below_next HBR.out hb5)
      clear hb5 hcj
      go_wp2_with fail
      go_roundw
      case rel => exact ⟨j + 1, by omega, by go_num, rfl, HB5.out⟩
      case measure => simp [intOf]; omega
    · have hd : decide ((j : Int) < 11) = false := decide_eq_false (by omega)
      have HE := Lib.hid (show (zs.take (j + 1)).flatMap putI = putC xs by rw [List.take_of_length_le (by rw [HZL.out]; omega), HPC.out])
      have HBE := Lib.hid (HB3.out.trans (HBR.out.mono HB3.out.size))
      clear hnr
      rw [HE.out]
      go_wp2_with fail
      go_ret
      exact ⟨rfl, HBE.out⟩
end Go.Proofs.YtlejicmpefdhpaaDoor
