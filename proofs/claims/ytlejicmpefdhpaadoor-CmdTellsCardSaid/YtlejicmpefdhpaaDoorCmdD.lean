/- A command read from bytes (layer 22): Read walked. Its condition: errors.errorType reads as the program's text lays it. -/
import Derived.Test.YtlejicmpefdhpaaDoorCmdE
import Derived.Test.YtlejicmpefdhpaaDoorRelL
namespace Go.Proofs.YtlejicmpefdhpaaDoor
set_option linter.unusedVariables false
open Go.ChangeShapes Go.WideShapes Go.ChangeAt Go.RowKit
attribute [local go_sem ↓] Go.wp_at_zero Go.wp_at_succ comesTo_value_eq comesTo_skip_eq comesTo_enter_eq Rl.comesToR_value_eq Rl.comesToR_skip_eq Rl.comesToR_enter_eq

/-- numbers that are read one behind the other, whatever is wrong -/
def readA : Nat → CS → CS × List Int
  | 0, st => (st, [])
  | k + 1, st => ((readA k (intF st).1).1, (intF st).2 :: (readA k (intF st).1).2)
theorem readA_succ (k : Nat) (st : CS) : readA (k + 1) st = ((readA k (intF st).1).1, (intF st).2 :: (readA k (intF st).1).2) := rfl
theorem intF_off {st : CS} (h : st.bad ≠ 0) : intF st = (st, 0) := by unfold intF; rw [if_neg h]
theorem readA_bad {st : CS} (h : st.bad ≠ 0) : ∀ k, readA k st = (st, List.replicate k 0)
  | 0 => rfl
  | k + 1 => by rw [readA_succ, intF_off h, readA_bad h k]; rfl
theorem readA_eq : ∀ (k : Nat) (st : CS), readA k st = ((readN k st).1, (readN k st).2 ++ List.replicate (k - (readN k st).2.length) 0)
  | 0, st => rfl
  | k + 1, st => by
    by_cases h : st.bad = 0
    · rw [readA_succ, readN_succ, if_pos h, readA_eq k]
      simp
    · rw [readA_bad h, readN_bad h]; rfl
theorem ysC_eq (bs : List Int) : readA 12 ⟨bs, 0⟩ = ((readN 12 ⟨bs, 0⟩).1, ysC bs) := readA_eq 12 _
theorem readA_len : ∀ (k : Nat) (st : CS), (readA k st).2.length = k
  | 0, _ => rfl
  | k + 1, st => by rw [readA_succ]; simp [readA_len k]
/-- what is told: a command's numbers (none: zeros), and the error -/
def gotC (bs : List Int) : List Int := if readB bs = true then ysC bs else List.replicate 12 0
def codeC (bs : List Int) : Int := if readB bs = true then 0 else 11
theorem gotC_no {bs : List Int} (h : readB bs = false) : gotC bs = List.replicate 12 0 := by unfold gotC; rw [h, if_neg (by decide)]
theorem gotC_yes {bs : List Int} (h : readB bs = true) : gotC bs = ysC bs := by unfold gotC; rw [h, if_pos rfl]
theorem codeC_no {bs : List Int} (h : readB bs = false) : codeC bs = 11 := by unfold codeC; rw [h, if_neg (by decide)]
theorem codeC_yes {bs : List Int} (h : readB bs = true) : codeC bs = 0 := by unfold codeC; rw [h, if_pos rfl]
set_option maxRecDepth 100000 in
set_option maxHeartbeats 1000000 in
theorem read_c {v : Value} {bs : List Int} (w : World) (ht : TxtAt w v bs) (hl : bs.length ≤ 1099511627775) (hE : ErrAt w) :
    Calls Tryd.prog 17 #[v] w fun e w' => e = .returned (.tuple #[.agg (cmdC (gotC bs)).toArray, .int .i64 (codeC bs)]) ∧ Below w.heap.size w w' := by
  have hmx : Tryd.prog.follows .mixedOrders = true := by kernel_rfl
  have hA0 := below_alloc (Below.refl _ w) (.cells #[.int .i64 0, .int .i64 0, .int .i64 0, .int .i64 0, .int .i64 0, .int .i64 0, .int .i64 0, .int .i64 0, .int .i64 0, .int .i64 0, .int .i64 0, .bool false] 24)
  have hby : ∀ x ∈ bs, 0 ≤ x ∧ x ≤ 255 := by
    intro x hx
    rcases ht with ⟨b, o, c, _, _, hr⟩ | ⟨rfl, _⟩
    · obtain ⟨k, hk, rfl⟩ := List.mem_iff_getElem.1 hx
      have h1 := hr.lo k hk
      have h2 := hr.hi k hk
      simp [List.getD, List.getElem?_eq_getElem hk] at h1 h2
      exact ⟨h1, h2⟩
    · cases hx
  have HBY := Lib.hid hby
  go_enter Tryd.func17, Tryd.ntmps17
  go_upto_region 1 with fail
  have hR0 := World.alloc_heap_new w (.cells #[.int .i64 0, .int .i64 0, .int .i64 0, .int .i64 0, .int .i64 0, .int .i64 0, .int .i64 0, .int .i64 0, .int .i64 0, .int .i64 0, .int .i64 0, .bool false] 24)
  have hsU : (w.alloc (.cells #[.int .i64 0, .int .i64 0, .int .i64 0, .int .i64 0, .int .i64 0, .int .i64 0, .int .i64 0, .int .i64 0, .int .i64 0, .int .i64 0, .int .i64 0, .bool false] 24)).heap.size = w.heap.size + 1 := by simp
  generalize w.alloc (.cells #[.int .i64 0, .int .i64 0, .int .i64 0, .int .i64 0, .int .i64 0, .int .i64 0, .int .i64 0, .int .i64 0, .int .i64 0, .int .i64 0, .int .i64 0, .bool false] 24) = U at *
  have KR := Lib.hid (read_cur (ht.below hA0) hl)
  have HSU := Lib.hid hsU
  have HA0 := Lib.hid hA0
  have HR0 := Lib.hid hR0
  have HE := Lib.hid hE
  clear ht hl hby hA0 hsU hR0 hE
  go_wp2_with fail
  ((with_reducible refine KR.out.mono ?_))
  rintro e w1 ⟨C, rfl, hc, hb⟩
  have HB1 := Lib.hid (below_next HA0.out hb)
  have HR1 := Lib.hid ((hb.block w.heap.size (by have := HSU.out; omega)).trans HR0.out)
  have HS1 := Lib.hid (show w.heap.size + 1 ≤ w1.heap.size by have := hb.size; have := HSU.out; omega)
  have HC1 := Lib.hid hc.tight
  clear hb hc KR HA0 HR0
  go_upto_region 3 with fail
  have hA2 := below_alloc (Below.refl _ w1) (.cells #[.int .i64 0, .int .i64 0, .int .i64 0, .int .i64 0, .int .i64 0, .int .i64 0, .int .i64 0, .int .i64 0, .int .i64 0, .int .i64 0, .int .i64 0, .int .i64 0] 55)
  have hN2 := World.alloc_heap_new w1 (.cells #[.int .i64 0, .int .i64 0, .int .i64 0, .int .i64 0, .int .i64 0, .int .i64 0, .int .i64 0, .int .i64 0, .int .i64 0, .int .i64 0, .int .i64 0, .int .i64 0] 55)
  generalize w1.alloc (.cells #[.int .i64 0, .int .i64 0, .int .i64 0, .int .i64 0, .int .i64 0, .int .i64 0, .int .i64 0, .int .i64 0, .int .i64 0, .int .i64 0, .int .i64 0, .int .i64 0] 55) = w2 at *
  have HC2 := Lib.hid (HC1.out.below hA2)
  have HB2 := Lib.hid (below_next HB1.out hA2)
  have HR2 := Lib.hid ((hA2.block w.heap.size (by have := HS1.out; omega)).trans HR1.out)
  have HN2 := Lib.hid hN2
  clear hA2 hN2 HC1 HB1 HR1
  generalize w1.heap.size = q at *
  have HQ := Lib.hid (show w.heap.size + 1 ≤ q from HS1.out)
  have HU := Lib.hid (show U.heap.size = w.heap.size + 1 from HSU.out)
  clear HS1 HSU
  go_wp2_with fail
  go_loopw [10] (fun i wr => ∃ (j : Nat) (st : CS) (acc : List Int), j ≤ 12 ∧ i = .int .i64 j ∧ acc.length = j ∧ readA 12 ⟨bs, 0⟩ = ((readA (12 - j) st).1, acc ++ (readA (12 - j) st).2) ∧ Cur wr C (fun b => U.heap.size ≤ b ∧ b < q) st ∧ wr.heap[q]? = some (.cells (numC (acc ++ List.replicate (12 - j) 0)).toArray 55 (0, 0)) ∧ Below w.heap.size w wr ∧ wr.heap[w.heap.size]? = some (.cells #[.int .i64 0, .int .i64 0, .int .i64 0, .int .i64 0, .int .i64 0, .int .i64 0, .int .i64 0, .int .i64 0, .int .i64 0, .int .i64 0, .int .i64 0, .bool false] 24 (0, 0))) (fun i _ => 12 - (intOf i).toNat)
  case atStart => exact ⟨0, ⟨bs, 0⟩, [], Nat.zero_le _, rfl, rfl, rfl, HC2.out, HN2.out, HB2.out, HR2.out⟩
  case round =>
    obtain ⟨j, st, acc, hj, rfl, hal, hrd, hc, hq, hb, hr⟩ := hrel
    have HAL := Lib.hid hal
    have HRD := Lib.hid hrd
    have HC := Lib.hid hc
    have HQJ := Lib.hid hq
    have HB := Lib.hid hb
    have HR := Lib.hid hr
    clear hal hrd hc hq hb hr
    by_cases hlt : j < 12
    · have hd : decide ((j : Int) < 12) = true := decide_eq_true (by omega)
      have KI := Lib.hid (int_cur HC.out)
      go_wp2_with fail
      ((with_reducible refine KI.out.mono ?_))
      rintro e w4 ⟨rfl, hc4, hf4⟩
      have hqC : q ≠ C := by have := HC.out.mem.2; omega
      have hrC : w.heap.size ≠ C := by have := HC.out.mem.1; have := HU.out; omega
      have hql : q < wr.heap.size := (Array.getElem?_eq_some_iff.1 HQJ.out).1
      have hq4 := (hf4.block q hql hqC).trans HQJ.out
      have hr4 := (hf4.block w.heap.size (by have := HQ.out; omega) hrC).trans HR.out
      have hb4 := HB.out.trans (hf4.below HB.out.size fun b hb => by subst hb; have := HC.out.mem.1; have := HU.out; omega)
      have HW := Lib.hid ((wrote_refl hq4).set j (.int .i64 (intF st).2))
      have ec := cell_of_block (o := j) (v := .int .i64 ((acc ++ List.replicate (12 - j) 0).getD j 0)) hq4 (by
        have := numC_at (xs := acc ++ List.replicate (12 - j) 0) (i := j) (by simp [HAL.out]; omega)
        simpa using this)
      have ef := free_of_block j hq4
      have HC4 := Lib.hid hc4
      have HB4 := Lib.hid hb4
      have HR4 := Lib.hid hr4
      have HST := Lib.hid (show acc ++ List.replicate (12 - j) 0 = acc ++ 0 :: List.replicate (12 - (j + 1)) 0 by rw [show 12 - j = (12 - (j + 1)) + 1 by omega, List.replicate_succ])
      clear hc4 hf4 hqC hrC hql hq4 hr4 hb4 KI
      generalize hx : (intF st).2 = x at *
      have HX := Lib.hid hx
      generalize (acc ++ List.replicate (12 - j) 0).getD j 0 = x0 at *
      clear hx
      have hj12 : j < 12 := hlt
      go_wp2_with fail
      go_roundw
      case rel =>
        refine ⟨j + 1, (intF st).1, acc ++ [x], by omega, by go_num, by simp [HAL.out], ?_, ?_, ?_, HW.out.below HB4.out (by have := HQ.out; omega), (HW.out.rest _ (by have := HQ.out; omega)).trans HR4.out⟩
        · rw [HRD.out, show 12 - j = (12 - (j + 1)) + 1 by omega, readA_succ, HX.out]
          simp
        · exact Fr.cur (G := fun b => b = q) HC4.out ((Fr.refl (fun b => b = q) w4).set (show (fun b => b = q) q from rfl) _ _) (fun b hb _ he => by have := hb.2; omega)
        · have := HW.out.there
          rw [numC_arr_set, HST.out, List.set_append_right _ _ (by rw [HAL.out]; exact Nat.le_refl _), HAL.out, Nat.sub_self, List.set_cons_zero] at this
          rw [List.append_assoc]
          exact this
      case measure => simp [intOf]; omega
    · have hd : decide ((j : Int) < 12) = false := decide_eq_false (by omega)
      have hy := HRD.out
      rw [show 12 - j = 0 by omega, ysC_eq] at hy
      have hys : acc = ysC bs := by have := congrArg Prod.snd hy; simpa [readA] using this.symm
      have hst : st = (readN 12 ⟨bs, 0⟩).1 := by have := congrArg Prod.fst hy; simpa [readA] using this.symm
      have hqe := HQJ.out
      rw [show 12 - j = 0 by omega, List.replicate_zero, List.append_nil] at hqe
      have HQE := Lib.hid hqe
      have hyl : acc.length = 12 := by rw [hys]; exact ysC_len bs
      have hyin : ∀ x ∈ acc, -9223372036854775808 ≤ x ∧ x ≤ 9223372036854775807 := by rw [hys]; exact ysC_in HBY.out
      have hnz := nzC_cmd hyl hyin
      have hrb : readB bs = ((endF st == 0) && rightL (nzC acc) && decide (cleanL (nzC acc) = acc)) := by rw [hys, hst]; rfl
      have HRB := Lib.hid hrb
      have HYS := Lib.hid hys
      have HYL := Lib.hid hyl
      have KO := Lib.hid (of_c hyl wr)
      have KRI := Lib.hid (fun W => right_c hnz W)
      have KCL := Lib.hid (fun W => clean_c hnz W)
      have KLA := Lib.hid (fun W => laid_c (cleanL_cmd hnz) W)
      have HNE := Lib.hid (fun W => eqin12 (cleanL_len (nzC acc)) hyl W)
      rw [cmdC_nz hyl] at KRI KCL
      have HL1 := Lib.hid (numC_len acc)
      have HL2 := Lib.hid (cmdC_len hyl)
      have HL3 := Lib.hid (cmdC_one acc)
      have KE := Lib.hid (fun (W : World) (h : Below wr.heap.size wr W) => end_cur (HC.out.below h) ((HE.out.below HB.out).below h))
      clear hy hys hst hqe hyl hyin hnz hrb HQJ HRD
      go_upto_region 8 with fail
      refine wp_region_lit ?_
      refine wpList_load_all rfl 55 _ rfl q (numC acc) _ (by go_simp) HQE.out Tryd.underlying55 rfl (by rw [HL1.out, HYL.out]; kernel_rfl) ?_
      refine wpList_enter rfl (by go_simp) KO.out ?_
      rintro e w5 ⟨rfl, hb5⟩
      refine ⟨_, rfl, ?_⟩
      refine wpList_yield (w' := w5.alloc (.cells #[.int .i64 0, .int .i64 0, .int .i64 0, .int .i64 0, .int .i64 0, .int .i64 0, .int .i64 0, .int .i64 0, .int .i64 0, .int .i64 0, .int .i64 0, .bool false] 24)) (v := .pointer (some ⟨w5.heap.size, 0, none⟩)) rfl (by go_simp) ?_
      refine wpList_store_all rfl 24 _ _ rfl w5.heap.size (cs := #[.int .i64 0, .int .i64 0, .int .i64 0, .int .i64 0, .int .i64 0, .int .i64 0, .int .i64 0, .int .i64 0, .int .i64 0, .int .i64 0, .int .i64 0, .bool false]) (T := 24) (cmdC acc) (by go_simp) (by go_simp) (World.alloc_heap_new _ _) (by rw [HL2.out]; rfl) (by rw [HL2.out]; kernel_rfl) HL3.out ?_
      intro w6 hw6
      have hb6 := hw6.below (below_alloc (Below.refl _ w5) _) (Nat.le_refl _)
      have hb56 := below_next hb5 hb6
      have HB56 := Lib.hid hb56
      have HB6 := Lib.hid (below_next HB.out hb56)
      have hrl : w.heap.size < wr.heap.size := (Array.getElem?_eq_some_iff.1 HR.out).1
      have hql : q < wr.heap.size := (Array.getElem?_eq_some_iff.1 HQE.out).1
      have HR6 := Lib.hid ((hb56.block _ hrl).trans HR.out)
      have HQ6 := Lib.hid ((hb56.block _ hql).trans HQE.out)
      have HP6 := Lib.hid hw6.there
      have HLT := Lib.hid (show w.heap.size < w6.heap.size by have := hb56.size; omega)
      have hi24 : (Tryd.prog.info? 24).map (·.size) = some (cmdC acc).length := by rw [HL2.out]; kernel_rfl
      have hi55 : (Tryd.prog.info? 55).map (·.size) = some (numC acc).length := by rw [HL1.out, HYL.out]; kernel_rfl
      have HI24 := Lib.hid hi24
      have HI55 := Lib.hid hi55
      have HLD := Lib.hid (fun (W : World) (h : Below w6.heap.size w6 W) => (h.block _ (Array.getElem?_eq_some_iff.1 HP6.out).1).trans HP6.out)
      have HLQ := Lib.hid (fun (W : World) (h : Below w6.heap.size w6 W) => (h.block _ (Array.getElem?_eq_some_iff.1 HQ6.out).1).trans HQ6.out)
      clear hw6 hb6 hb56 hb5 hrl hql hi24 hi55
      generalize w5.heap.size = p at *
      generalize hcz : cmdC acc = z at *
      generalize hnz : numC acc = m at *
      generalize hend : endF st = en at *
      clear hnz hend
      have HCZ := Lib.hid hcz
      clear hcz
      by_cases hq0 : en = 0
      · subst hq0
        cases hri : rightL (nzC acc) with
        | false =>
          rw [hri] at KRI
          have HRF := Lib.hid (show readB bs = false by rw [HRB.out, hri]; rfl)
          clear hri
          go_upto_region 9 with fail
          refine Rl.wp_region_rel (fun a b => Below a.heap.size a b) w6 (fun a b c h h' => below_next h h') (fun a => Below.refl _ _) hmx (by kernel_rfl) (Below.refl _ _).drew ?_
          (refine Rl.textR_run ?_ (fun ρ => ?_) (fun ρ W hS hd => ?_) ?_; rotate_left; (focus go_simp); (focus (obtain ⟨hc, hf⟩ := bcell hS; go_simp; first | exact ⟨rfl, Below.refl _ _⟩ | (refine ⟨?_, Below.refl _ _⟩; rfl))); (try go_simp))
          (refine Rl.textR_run ?_ (fun ρ => ?_) (fun ρ W hS hd => ?_) ?_; rotate_left; (focus go_simp); (focus (obtain ⟨hc, hf⟩ := bcell hS; go_simp; refine (KE.out W (below_next HB56.out hS)).mono ?_; rintro e w1 ⟨rfl, hb⟩; refine ⟨_, rfl, ?_, hb⟩; rfl)); (try go_simp))
          iterate 2 (refine Rl.textR_run ?_ (fun ρ => ?_) (fun ρ W hS hd => ?_) ?_; rotate_left; (focus go_simp); (focus (obtain ⟨hc, hf⟩ := bcell hS; go_simp; first | exact ⟨rfl, Below.refl _ _⟩ | (refine ⟨?_, Below.refl _ _⟩; rfl))); (try go_simp))
          refine Rl.textR_run (.agg z.toArray) (fun ρ => ?_) (fun ρ W hS hd => ?_) ?_
          · go_simp
          · exact Rl.comesToR_load 24 _ rfl p (by go_simp) _ _ (HLD.out W hS) Tryd.underlying24 rfl HI24.out ⟨rfl, Below.refl _ _⟩
          (try go_simp)
          (refine Rl.textR_run ?_ (fun ρ => ?_) (fun ρ W hS hd => ?_) ?_; rotate_left; (focus go_simp); (focus (obtain ⟨hc, hf⟩ := bcell hS; go_simp; refine (KRI.out W).mono ?_; rintro e w1 ⟨rfl, hb⟩; refine ⟨_, rfl, ?_, hb⟩; rfl)); (try go_simp))
          iterate 3 (refine Rl.textR_run ?_ (fun ρ => ?_) (fun ρ W hS hd => ?_) ?_; rotate_left; (focus go_simp); (focus (obtain ⟨hc, hf⟩ := bcell hS; go_simp; first | exact ⟨rfl, Below.refl _ _⟩ | (refine ⟨?_, Below.refl _ _⟩; rfl))); (try go_simp))
          iterate 5 (refine Rl.textR_skip (fun ρ => ?_) ?_; (focus (first | rfl | (go_simp; done) | (go_simp; rfl))); (try go_simp))
          (refine Rl.textR_run ?_ (fun ρ => ?_) (fun ρ W hS hd => ?_) ?_; rotate_left; (focus go_simp); (focus (obtain ⟨hc, hf⟩ := bcell hS; go_simp; first | exact ⟨rfl, Below.refl _ _⟩ | (refine ⟨?_, Below.refl _ _⟩; rfl))); (try go_simp))
          refine Rl.textR_nil ?_
          intro ρ w7 hg hk
          have HZ7 := Lib.hid ((hg.block _ HLT.out).trans HR6.out)
          have HB7 := Lib.hid (below_next HB6.out hg)
          have HLT7 := Lib.hid (show w.heap.size < w7.heap.size by have := hg.size; have := HLT.out; omega)
          clear hg hk HLD HLQ
          dsimp only
          go_upto_region 10 with fail
          refine wp_region_lit ?_
          refine wpList_yield (w' := w7) (v := .agg (cmdC (List.replicate 12 0)).toArray) rfl (by go_simp; rfl) ?_
          refine wpList_store_all rfl 24 _ _ rfl w.heap.size (T := 24) (cmdC (List.replicate 12 0)) (by go_simp) (by go_simp) HZ7.out rfl (by kernel_rfl) rfl ?_
          intro w8 hw8
          have HW8 := Lib.hid hw8.there
          have HB8 := Lib.hid (hw8.below HB7.out (Nat.le_refl _))
          clear hw8
          go_wp2_with fail
          exact bodyPost_ret (results_all2 (cmdC (List.replicate 12 0)) _ Tryd.results17 (by go_simp) HW8.out Tryd.underlying24 rfl (by kernel_rfl)) rfl ⟨by rw [gotC_no HRF.out, codeC_no HRF.out]; rfl, HB8.out⟩
        | true =>
          rw [hri] at KRI
          generalize hcn : cleanL (nzC acc) = cn at *
          cases hcmp : (cn == acc) with
          | false =>
            have HRF := Lib.hid (show readB bs = false by rw [HRB.out, hri, decide_eq_false (by simpa using hcmp)]; rfl)
            rw [hcmp] at HNE
            clear hri hcmp
            generalize cmdC cn = zc at *
            generalize numC cn = mc at *
            clear hcn
            go_upto_region 9 with fail
            refine Rl.wp_region_rel (fun a b => Below a.heap.size a b) w6 (fun a b c h h' => below_next h h') (fun a => Below.refl _ _) hmx (by kernel_rfl) (Below.refl _ _).drew ?_
            (refine Rl.textR_run ?_ (fun ρ => ?_) (fun ρ W hS hd => ?_) ?_; rotate_left; (focus go_simp); (focus (obtain ⟨hc, hf⟩ := bcell hS; go_simp; first | exact ⟨rfl, Below.refl _ _⟩ | (refine ⟨?_, Below.refl _ _⟩; rfl))); (try go_simp))
            (refine Rl.textR_run ?_ (fun ρ => ?_) (fun ρ W hS hd => ?_) ?_; rotate_left; (focus go_simp); (focus (obtain ⟨hc, hf⟩ := bcell hS; go_simp; refine (KE.out W (below_next HB56.out hS)).mono ?_; rintro e w1 ⟨rfl, hb⟩; refine ⟨_, rfl, ?_, hb⟩; rfl)); (try go_simp))
            iterate 2 (refine Rl.textR_run ?_ (fun ρ => ?_) (fun ρ W hS hd => ?_) ?_; rotate_left; (focus go_simp); (focus (obtain ⟨hc, hf⟩ := bcell hS; go_simp; first | exact ⟨rfl, Below.refl _ _⟩ | (refine ⟨?_, Below.refl _ _⟩; rfl))); (try go_simp))
            refine Rl.textR_run (.agg z.toArray) (fun ρ => ?_) (fun ρ W hS hd => ?_) ?_
            · go_simp
            · exact Rl.comesToR_load 24 _ rfl p (by go_simp) _ _ (HLD.out W hS) Tryd.underlying24 rfl HI24.out ⟨rfl, Below.refl _ _⟩
            (try go_simp)
            (refine Rl.textR_run ?_ (fun ρ => ?_) (fun ρ W hS hd => ?_) ?_; rotate_left; (focus go_simp); (focus (obtain ⟨hc, hf⟩ := bcell hS; go_simp; refine (KRI.out W).mono ?_; rintro e w1 ⟨rfl, hb⟩; refine ⟨_, rfl, ?_, hb⟩; rfl)); (try go_simp))
            iterate 3 (refine Rl.textR_run ?_ (fun ρ => ?_) (fun ρ W hS hd => ?_) ?_; rotate_left; (focus go_simp); (focus (obtain ⟨hc, hf⟩ := bcell hS; go_simp; first | exact ⟨rfl, Below.refl _ _⟩ | (refine ⟨?_, Below.refl _ _⟩; rfl))); (try go_simp))
            refine Rl.textR_run (.agg z.toArray) (fun ρ => ?_) (fun ρ W hS hd => ?_) ?_
            · go_simp
            · exact Rl.comesToR_load 24 _ rfl p (by go_simp) _ _ (HLD.out W hS) Tryd.underlying24 rfl HI24.out ⟨rfl, Below.refl _ _⟩
            (try go_simp)
            (refine Rl.textR_run ?_ (fun ρ => ?_) (fun ρ W hS hd => ?_) ?_; rotate_left; (focus go_simp); (focus (obtain ⟨hc, hf⟩ := bcell hS; go_simp; refine (KCL.out W).mono ?_; rintro e w1 ⟨rfl, hb⟩; refine ⟨_, rfl, ?_, hb⟩; rfl)); (try go_simp))
            (refine Rl.textR_run ?_ (fun ρ => ?_) (fun ρ W hS hd => ?_) ?_; rotate_left; (focus go_simp); (focus (obtain ⟨hc, hf⟩ := bcell hS; go_simp; refine (KLA.out W).mono ?_; rintro e w1 ⟨rfl, hb⟩; refine ⟨_, rfl, ?_, hb⟩; rfl)); (try go_simp))
            refine Rl.textR_run (.agg m.toArray) (fun ρ => ?_) (fun ρ W hS hd => ?_) ?_
            · go_simp
            · exact Rl.comesToR_load 55 _ rfl q (by go_simp) _ _ (HLQ.out W hS) Tryd.underlying55 rfl HI55.out ⟨rfl, Below.refl _ _⟩
            (try go_simp)
            (refine Rl.textR_run ?_ (fun ρ => ?_) (fun ρ W hS hd => ?_) ?_; rotate_left; (focus go_simp); (focus (have hfact := HNE.out W; go_simp; first | exact ⟨rfl, Below.refl _ _⟩ | (refine ⟨?_, Below.refl _ _⟩; rfl))); (try go_simp))
            (refine Rl.textR_run ?_ (fun ρ => ?_) (fun ρ W hS hd => ?_) ?_; rotate_left; (focus go_simp); (focus (obtain ⟨hc, hf⟩ := bcell hS; go_simp; first | exact ⟨rfl, Below.refl _ _⟩ | (refine ⟨?_, Below.refl _ _⟩; rfl))); (try go_simp))
            refine Rl.textR_nil ?_
            intro ρ w7 hg hk
            have HZ7 := Lib.hid ((hg.block _ HLT.out).trans HR6.out)
            have HB7 := Lib.hid (below_next HB6.out hg)
            have HLT7 := Lib.hid (show w.heap.size < w7.heap.size by have := hg.size; have := HLT.out; omega)
            clear hg hk HLD HLQ
            dsimp only
            go_upto_region 10 with fail
            refine wp_region_lit ?_
            refine wpList_yield (w' := w7) (v := .agg (cmdC (List.replicate 12 0)).toArray) rfl (by go_simp; rfl) ?_
            refine wpList_store_all rfl 24 _ _ rfl w.heap.size (T := 24) (cmdC (List.replicate 12 0)) (by go_simp) (by go_simp) HZ7.out rfl (by kernel_rfl) rfl ?_
            intro w8 hw8
            have HW8 := Lib.hid hw8.there
            have HB8 := Lib.hid (hw8.below HB7.out (Nat.le_refl _))
            clear hw8
            go_wp2_with fail
            exact bodyPost_ret (results_all2 (cmdC (List.replicate 12 0)) _ Tryd.results17 (by go_simp) HW8.out Tryd.underlying24 rfl (by kernel_rfl)) rfl ⟨by rw [gotC_no HRF.out, codeC_no HRF.out]; rfl, HB8.out⟩
          | true =>
            have HRT := Lib.hid (show readB bs = true by rw [HRB.out, hri, decide_eq_true (by simpa using hcmp)]; rfl)
            rw [hcmp] at HNE
            clear hri hcmp
            generalize cmdC cn = zc at *
            generalize numC cn = mc at *
            clear hcn
            go_upto_region 9 with fail
            refine Rl.wp_region_rel (fun a b => Below a.heap.size a b) w6 (fun a b c h h' => below_next h h') (fun a => Below.refl _ _) hmx (by kernel_rfl) (Below.refl _ _).drew ?_
            (refine Rl.textR_run ?_ (fun ρ => ?_) (fun ρ W hS hd => ?_) ?_; rotate_left; (focus go_simp); (focus (obtain ⟨hc, hf⟩ := bcell hS; go_simp; first | exact ⟨rfl, Below.refl _ _⟩ | (refine ⟨?_, Below.refl _ _⟩; rfl))); (try go_simp))
            (refine Rl.textR_run ?_ (fun ρ => ?_) (fun ρ W hS hd => ?_) ?_; rotate_left; (focus go_simp); (focus (obtain ⟨hc, hf⟩ := bcell hS; go_simp; refine (KE.out W (below_next HB56.out hS)).mono ?_; rintro e w1 ⟨rfl, hb⟩; refine ⟨_, rfl, ?_, hb⟩; rfl)); (try go_simp))
            iterate 2 (refine Rl.textR_run ?_ (fun ρ => ?_) (fun ρ W hS hd => ?_) ?_; rotate_left; (focus go_simp); (focus (obtain ⟨hc, hf⟩ := bcell hS; go_simp; first | exact ⟨rfl, Below.refl _ _⟩ | (refine ⟨?_, Below.refl _ _⟩; rfl))); (try go_simp))
            refine Rl.textR_run (.agg z.toArray) (fun ρ => ?_) (fun ρ W hS hd => ?_) ?_
            · go_simp
            · exact Rl.comesToR_load 24 _ rfl p (by go_simp) _ _ (HLD.out W hS) Tryd.underlying24 rfl HI24.out ⟨rfl, Below.refl _ _⟩
            (try go_simp)
            (refine Rl.textR_run ?_ (fun ρ => ?_) (fun ρ W hS hd => ?_) ?_; rotate_left; (focus go_simp); (focus (obtain ⟨hc, hf⟩ := bcell hS; go_simp; refine (KRI.out W).mono ?_; rintro e w1 ⟨rfl, hb⟩; refine ⟨_, rfl, ?_, hb⟩; rfl)); (try go_simp))
            iterate 3 (refine Rl.textR_run ?_ (fun ρ => ?_) (fun ρ W hS hd => ?_) ?_; rotate_left; (focus go_simp); (focus (obtain ⟨hc, hf⟩ := bcell hS; go_simp; first | exact ⟨rfl, Below.refl _ _⟩ | (refine ⟨?_, Below.refl _ _⟩; rfl))); (try go_simp))
            refine Rl.textR_run (.agg z.toArray) (fun ρ => ?_) (fun ρ W hS hd => ?_) ?_
            · go_simp
            · exact Rl.comesToR_load 24 _ rfl p (by go_simp) _ _ (HLD.out W hS) Tryd.underlying24 rfl HI24.out ⟨rfl, Below.refl _ _⟩
            (try go_simp)
            (refine Rl.textR_run ?_ (fun ρ => ?_) (fun ρ W hS hd => ?_) ?_; rotate_left; (focus go_simp); (focus (obtain ⟨hc, hf⟩ := bcell hS; go_simp; refine (KCL.out W).mono ?_; rintro e w1 ⟨rfl, hb⟩; refine ⟨_, rfl, ?_, hb⟩; rfl)); (try go_simp))
            (refine Rl.textR_run ?_ (fun ρ => ?_) (fun ρ W hS hd => ?_) ?_; rotate_left; (focus go_simp); (focus (obtain ⟨hc, hf⟩ := bcell hS; go_simp; refine (KLA.out W).mono ?_; rintro e w1 ⟨rfl, hb⟩; refine ⟨_, rfl, ?_, hb⟩; rfl)); (try go_simp))
            refine Rl.textR_run (.agg m.toArray) (fun ρ => ?_) (fun ρ W hS hd => ?_) ?_
            · go_simp
            · exact Rl.comesToR_load 55 _ rfl q (by go_simp) _ _ (HLQ.out W hS) Tryd.underlying55 rfl HI55.out ⟨rfl, Below.refl _ _⟩
            (try go_simp)
            (refine Rl.textR_run ?_ (fun ρ => ?_) (fun ρ W hS hd => ?_) ?_; rotate_left; (focus go_simp); (focus (have hfact := HNE.out W; go_simp; first | exact ⟨rfl, Below.refl _ _⟩ | (refine ⟨?_, Below.refl _ _⟩; rfl))); (try go_simp))
            (refine Rl.textR_run ?_ (fun ρ => ?_) (fun ρ W hS hd => ?_) ?_; rotate_left; (focus go_simp); (focus (obtain ⟨hc, hf⟩ := bcell hS; go_simp; first | exact ⟨rfl, Below.refl _ _⟩ | (refine ⟨?_, Below.refl _ _⟩; rfl))); (try go_simp))
            refine Rl.textR_nil ?_
            intro ρ w7 hg hk
            have HP7 := Lib.hid ((hg.block _ (Array.getElem?_eq_some_iff.1 HP6.out).1).trans HP6.out)
            have HZ7 := Lib.hid ((hg.block _ HLT.out).trans HR6.out)
            have HB7 := Lib.hid (below_next HB6.out hg)
            clear hg hk HLD HLQ
            dsimp only
            go_upto_region 11 with fail
            refine wp_region_lit ?_
            refine wpList_load_all rfl 24 _ rfl p z _ (by go_simp) HP7.out Tryd.underlying24 rfl (by rw [HL2.out]; kernel_rfl) ?_
            refine wpList_store_all rfl 24 _ _ rfl w.heap.size (T := 24) z (by go_simp) (by go_simp) HZ7.out (by rw [HL2.out]; rfl) (by rw [HL2.out]; kernel_rfl) HL3.out ?_
            intro w8 hw8
            have HW8 := Lib.hid hw8.there
            have HB8 := Lib.hid (hw8.below HB7.out (Nat.le_refl _))
            clear hw8
            go_wp2_with fail
            exact bodyPost_ret (results_all2 z _ Tryd.results17 (by go_simp) HW8.out Tryd.underlying24 rfl (by rw [HL2.out]; kernel_rfl)) rfl ⟨by rw [gotC_yes HRT.out, codeC_yes HRT.out, ← HYS.out, HCZ.out]; rfl, HB8.out⟩
      · have hqb : (en == 0) = false := by rw [beq_eq_false_iff_ne]; exact hq0
        have HRF := Lib.hid (show readB bs = false by rw [HRB.out, hqb]; rfl)
        go_upto_region 9 with fail
        refine Rl.wp_region_rel (fun a b => Below a.heap.size a b) w6 (fun a b c h h' => below_next h h') (fun a => Below.refl _ _) hmx (by kernel_rfl) (Below.refl _ _).drew ?_
        (refine Rl.textR_run ?_ (fun ρ => ?_) (fun ρ W hS hd => ?_) ?_; rotate_left; (focus go_simp); (focus (obtain ⟨hc, hf⟩ := bcell hS; go_simp; first | exact ⟨rfl, Below.refl _ _⟩ | (refine ⟨?_, Below.refl _ _⟩; rfl))); (try go_simp))
        (refine Rl.textR_run ?_ (fun ρ => ?_) (fun ρ W hS hd => ?_) ?_; rotate_left; (focus go_simp); (focus (obtain ⟨hc, hf⟩ := bcell hS; go_simp; refine (KE.out W (below_next HB56.out hS)).mono ?_; rintro e w1 ⟨rfl, hb⟩; refine ⟨_, rfl, ?_, hb⟩; rfl)); (try go_simp))
        iterate 2 (refine Rl.textR_run ?_ (fun ρ => ?_) (fun ρ W hS hd => ?_) ?_; rotate_left; (focus go_simp); (focus (obtain ⟨hc, hf⟩ := bcell hS; go_simp; first | exact ⟨rfl, Below.refl _ _⟩ | (refine ⟨?_, Below.refl _ _⟩; rfl))); (try go_simp))
        iterate 3 (refine Rl.textR_skip (fun ρ => ?_) ?_; (focus (first | rfl | (go_simp; done) | (go_simp; rfl))); (try go_simp))
        iterate 2 (refine Rl.textR_run ?_ (fun ρ => ?_) (fun ρ W hS hd => ?_) ?_; rotate_left; (focus go_simp); (focus (obtain ⟨hc, hf⟩ := bcell hS; go_simp; first | exact ⟨rfl, Below.refl _ _⟩ | (refine ⟨?_, Below.refl _ _⟩; rfl))); (try go_simp))
        iterate 5 (refine Rl.textR_skip (fun ρ => ?_) ?_; (focus (first | rfl | (go_simp; done) | (go_simp; rfl))); (try go_simp))
        (refine Rl.textR_run ?_ (fun ρ => ?_) (fun ρ W hS hd => ?_) ?_; rotate_left; (focus go_simp); (focus (obtain ⟨hc, hf⟩ := bcell hS; go_simp; first | exact ⟨rfl, Below.refl _ _⟩ | (refine ⟨?_, Below.refl _ _⟩; rfl))); (try go_simp))
        refine Rl.textR_nil ?_
        intro ρ w7 hg hk
        have HZ7 := Lib.hid ((hg.block _ HLT.out).trans HR6.out)
        have HB7 := Lib.hid (below_next HB6.out hg)
        have HLT7 := Lib.hid (show w.heap.size < w7.heap.size by have := hg.size; have := HLT.out; omega)
        clear hg hk HLD HLQ
        dsimp only
        go_upto_region 10 with fail
        refine wp_region_lit ?_
        refine wpList_yield (w' := w7) (v := .agg (cmdC (List.replicate 12 0)).toArray) rfl (by go_simp; rfl) ?_
        refine wpList_store_all rfl 24 _ _ rfl w.heap.size (T := 24) (cmdC (List.replicate 12 0)) (by go_simp) (by go_simp) HZ7.out rfl (by kernel_rfl) rfl ?_
        intro w8 hw8
        have HW8 := Lib.hid hw8.there
        have HB8 := Lib.hid (hw8.below HB7.out (Nat.le_refl _))
        clear hw8
        go_wp2_with fail
        exact bodyPost_ret (results_all2 (cmdC (List.replicate 12 0)) _ Tryd.results17 (by go_simp) HW8.out Tryd.underlying24 rfl (by kernel_rfl)) rfl ⟨by rw [gotC_no HRF.out, codeC_no HRF.out]; rfl, HB8.out⟩
end Go.Proofs.YtlejicmpefdhpaaDoor
