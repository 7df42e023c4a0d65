/- Laws that belong together: The document's Read (berthingref22), at any bytes. No condition but their number.; Steps of a script, plainly: what counts, what may be, their bytes, how they are read (layer 28). No condition.; A step's Right and Clean (layer 28). Condition: its numbers fit.; What is read of steps may be (layer 28, plainly). No condition.; The document's Right and Clean of a step; what a step is to the document (layer 28). Condition: the numbers fit. -/
import Derived.Test.YtdfkfcpkejjlnaaDoorMaf
import Derived.Test.YtdfkfcpkejjlnaaDoorMCodRefE
import Derived.Test.YtdfkfcpkejjlnaaDoorMae
import Derived.Test.YtdfkfcpkejjlnaaDoorMCodS
import Derived.Test.YtdfkfcpkejjlnaaDoorMab
import Derived.Test.YtdfkfcpkejjlnaaDoorMad
namespace Go.Proofs.YtdfkfcpkejjlnaaDoor
set_option linter.unusedVariables false
open Go.ChangeShapes Go.WideShapes Go.ChangeAt Go.RowKit
attribute [local go_sem ↓] Go.wp_at_zero Go.wp_at_succ comesTo_value_eq comesTo_skip_eq comesTo_enter_eq Rl.comesToR_value_eq Rl.comesToR_skip_eq Rl.comesToR_enter_eq

theorem eqin27 {a b : List Int} (ha : a.length = 12) (hb : b.length = 12) (w : World) : (Op.equalIn 10000 32 (.agg (numC a).toArray) (.agg (numC b).toArray)).run Tryd.prog w = .ok (a == b) w := by
  have hS : Tryd.prog.underlying 32 = some (.struct (Tryd.prog.fieldsOf 32)) := by kernel_rfl
  have hp : Tryd.prog.stoodInHeld 32 = false := by kernel_rfl
  refine (run_equalIn_struct w 9999 _ _ _ hS hp).trans ?_
  have hz : (sizeOf 30).run Tryd.prog w = .ok 11 w := by kernel_rfl
  have ht : List.take 11 (numC a).tail = numC a.tail ∧ List.take 11 (numC b).tail = numC b.tail := by
    obtain ⟨x0, x1, x2, x3, x4, x5, x6, x7, x8, x9, x10, x11, rfl⟩ := twelve ha
    obtain ⟨y0, y1, y2, y3, y4, y5, y6, y7, y8, y9, y10, y11, rfl⟩ := twelve hb
    exact ⟨rfl, rfl⟩
  have h0a : (numC a).toArray[0]? = some (.int .i64 (a.getD 0 0)) := by have := numC_at (xs := a) (i := 0) (by omega); simpa using this
  have h0b : (numC b).toArray[0]? = some (.int .i64 (b.getD 0 0)) := by have := numC_at (xs := b) (i := 0) (by omega); simpa using this
  have hq : (a == b) = ((a.getD 0 0 == b.getD 0 0) && (a.tail == b.tail)) := by
    rcases a with _ | ⟨x, a⟩
    · cases ha
    · rcases b with _ | ⟨y, b⟩
      · cases hb
      · simp [List.cons_beq_cons]
  have hal : a.tail.length = 11 := by simp [ha]
  have hbl : b.tail.length = 11 := by simp [hb]
  simp only [Program.fieldsOf, Tryd.underlying32]
  rw [run_eqFields_all w (fun f => if f.offset = 0 then (a.getD 0 0 == b.getD 0 0) else (a.tail == b.tail))]
  · rw [hq]
    simp
  · intro f hf
    simp only [List.mem_cons, List.not_mem_nil, or_false] at hf
    rcases hf with rfl | rfl
    · refine ⟨by simp, .int .i64 (a.getD 0 0), .int .i64 (b.getD 0 0), ?_, ?_, ?_⟩
      · simp only [part, isAgg, Sem.run_bind, run_underlying Tryd.underlying3, Result.andThen_ok, h0a]
        simp
      · simp only [part, isAgg, Sem.run_bind, run_underlying Tryd.underlying3, Result.andThen_ok, h0b]
        simp
      · exact run_equalIn_int w 9998 _ _ _ _ _ Tryd.underlying3
    · refine ⟨by simp, .agg (numC a.tail).toArray, .agg (numC b.tail).toArray, ?_, ?_, ?_⟩
      · simp only [part, isAgg, Sem.run_bind, run_underlying Tryd.underlying30, Result.andThen_ok, hz]
        simp
        exact ht.1
      · simp only [part, isAgg, Sem.run_bind, run_underlying Tryd.underlying30, Result.andThen_ok, hz]
        simp
        exact ht.2
      · unfold numC
        exact run_equalIn_ints w 9997 30 2 11 .i64 .i64 Tryd.underlying30 Tryd.underlying2 sizeI64 a.tail b.tail hal hbl
/-- a kind that is none counts as 0 -/
def fixK (ys : List Int) : List Int := if kindB ys = true then ys else ys.set 0 0
theorem fixK_len {ys : List Int} (h : ys.length = 12) : (fixK ys).length = 12 := by unfold fixK; split <;> simp [h]
theorem kindB_get {a b : List Int} (h : a.getD 0 0 = b.getD 0 0) : kindB a = kindB b := by unfold kindB; rw [h]
theorem right_no {a : List Int} (h : kindB a = false) : rightL a = false := by unfold rightL; rw [h, Bool.false_and]
theorem read_ref {bs : List Int} (hb : ∀ x ∈ bs, 0 ≤ x ∧ x ≤ 255) : readB bs = ((endF (readN 12 ⟨bs, 0⟩).1 == 0) && rightL (fixK (ysC bs)) && (cleanL (fixK (ysC bs)) == fixK (ysC bs))) ∧ (readB bs = true → fixK (ysC bs) = ysC bs) := by
  have hl := ysC_len bs
  have hi := ysC_in hb
  have hrd : readB bs = ((endF (readN 12 ⟨bs, 0⟩).1 == 0) && rightL (nzC (ysC bs)) && decide (cleanL (nzC (ysC bs)) = ysC bs)) := rfl
  generalize ysC bs = ys at *
  have hcz := nzC_cmd hl hi
  have h0 : (nzC ys).getD 0 0 = ys.getD 0 0 := by
    obtain ⟨x0, x1, x2, x3, x4, x5, x6, x7, x8, x9, x10, x11, rfl⟩ := twelve hl
    rfl
  cases hk : kindB ys with
  | false =>
    have hn : rightL (nzC ys) = false := right_no (by rw [kindB_get h0, hk])
    have hf : rightL (fixK ys) = false := by
      refine right_no ?_
      unfold fixK
      rw [hk, if_neg (by decide)]
      obtain ⟨x0, x1, x2, x3, x4, x5, x6, x7, x8, x9, x10, x11, rfl⟩ := twelve hl
      rfl
    rw [hrd, hn, hf, Bool.and_false]
    exact ⟨rfl, fun h => by cases h⟩
  | true =>
    have hf : fixK ys = ys := by unfold fixK; rw [hk, if_pos rfl]
    refine ⟨?_, fun _ => hf⟩
    rw [hf, hrd]
    have : (rightL (nzC ys) && decide (cleanL (nzC ys) = ys)) = (rightL ys && (cleanL ys == ys)) := by
      rw [Bool.eq_iff_iff, Bool.and_eq_true, Bool.and_eq_true, decide_eq_true_eq, beq_iff_eq]
      constructor
      · rintro ⟨h1, h2⟩
        have hc : Cmd12 ys := by rw [← h2]; exact cleanL_cmd hcz
        have hn := nzC_same hl hc.last
        rw [hn] at h1 h2
        exact ⟨h1, h2⟩
      · rintro ⟨h1, h2⟩
        have hlast : ys.getD 11 0 = 0 ∨ ys.getD 11 0 = 1 := by
          have hg := clean_get hk (i := 11) (by decide)
          rw [h2, if_neg (by decide)] at hg
          by_cases hc : 11 ∈ cntN (kN ys)
          · unfold rightL at h1
            rw [Bool.and_eq_true, List.all_eq_true] at h1
            have := h1.2 11 hc
            rw [Bool.and_eq_true, decide_eq_true_eq, decide_eq_true_eq] at this
            have hb11 : bndF (ys.getD 0 0) 11 = (0, 1) := rfl
            rw [hb11] at this
            simp only at this
            omega
          · rw [if_neg hc] at hg
            exact .inl hg
        rw [nzC_same hl hlast]
        exact ⟨h1, h2⟩
    rw [Bool.and_assoc, Bool.and_assoc, this]
theorem readA_next (k : Nat) (st : CS) : readA (k + 1) st = ((readA k (intF st).1).1, (intF st).2 :: (readA k (intF st).1).2) := rfl
def rcC (st : CS) : List Value := [.string (strOfNums st.xs), .int .i64 st.bad]
set_option maxRecDepth 100000 in
set_option maxHeartbeats 2000000 in
theorem rread_any (bs : List Int) (hx : ∀ x ∈ bs, 0 ≤ x ∧ x ≤ 255) (hl : bs.length ≤ 1099511627776) (w : World) :
    Calls Tryd.prog 38 #[.string (strOfNums bs)] w fun e w' => e = .returned (.tuple #[.agg (numC (gotC bs)).toArray, .int .i64 (codeC bs)]) ∧ Below w.heap.size w w' := by
  have hmx : Tryd.prog.follows .mixedOrders = true := by kernel_rfl
  have K0 := Lib.hid (fun W => rint_any ⟨bs, 0⟩ hx hl W)
  have HRR := Lib.hid (read_ref hx)
  have HYL := Lib.hid (ysC_len bs)
  have hye := ysC_eq bs
  rw [readA_next 11] at hye
  have HYE := Lib.hid hye
  have hsuf := intF_suffix ⟨bs, 0⟩
  have HSUF := Lib.hid hsuf
  have HX := Lib.hid hx
  have HL := Lib.hid hl
  have HRC := Lib.hid (fun st => show RC st = .agg (rcC st).toArray from rfl)
  have hi27 : ∀ {l : List Value}, l.length = 12 → (Tryd.prog.info? 32).map (·.size) = some l.length := fun h => by rw [h]; kernel_rfl
  have hi70 : (Tryd.prog.info? 71).map (·.size) = some 2 := by kernel_rfl
  have HI27 := Lib.hid (fun (l : List Value) (h : l.length = 12) => hi27 h)
  have HI70 := Lib.hid hi70
  clear hye hsuf hx hl hi27 hi70
  generalize hst1 : (intF ⟨bs, 0⟩).1 = st1 at *
  generalize hv0 : (intF ⟨bs, 0⟩).2 = v0 at *
  have HS0 := Lib.hid (show RC ⟨bs, 0⟩ = .agg #[.string (strOfNums bs), .int .i64 0] from rfl)
  rw [HS0.out] at K0
  generalize strOfNums bs = S at *
  clear hst1 hv0
  go_enter Tryd.func38, Tryd.ntmps38
  go_upto_region 1 with fail
  have hA0 := below_alloc (Below.refl _ w) (.cells #[.int .i64 0, .int .i64 0, .int .i64 0, .int .i64 0, .int .i64 0, .int .i64 0, .int .i64 0, .int .i64 0, .int .i64 0, .int .i64 0, .int .i64 0, .int .i64 0] 32)
  have hR0 := World.alloc_heap_new w (.cells #[.int .i64 0, .int .i64 0, .int .i64 0, .int .i64 0, .int .i64 0, .int .i64 0, .int .i64 0, .int .i64 0, .int .i64 0, .int .i64 0, .int .i64 0, .int .i64 0] 32)
  have hs0 : (w.alloc (.cells #[.int .i64 0, .int .i64 0, .int .i64 0, .int .i64 0, .int .i64 0, .int .i64 0, .int .i64 0, .int .i64 0, .int .i64 0, .int .i64 0, .int .i64 0, .int .i64 0] 32)).heap.size = w.heap.size + 1 := by simp
  generalize w.alloc (.cells #[.int .i64 0, .int .i64 0, .int .i64 0, .int .i64 0, .int .i64 0, .int .i64 0, .int .i64 0, .int .i64 0, .int .i64 0, .int .i64 0, .int .i64 0, .int .i64 0] 32) = U at *
  have HA0 := Lib.hid hA0
  have HR0 := Lib.hid hR0
  have HSU := Lib.hid hs0
  clear hA0 hR0 hs0
  refine wp_region_lit ?_
  refine wpList_yield (w' := U) (v := .string S) rfl (by go_simp) ?_
  refine wpList_yield (w' := U) (v := .agg #[.string S, .int .i64 0]) rfl (by go_simp) ?_
  refine wpList_enter rfl (by go_simp) (K0.out U) ?_
  rintro e w1 ⟨rfl, hb1⟩
  refine ⟨_, rfl, ?_⟩
  rw [HRC.out st1]
  refine wpList_yield (w' := w1) (v := .tuple #[.agg (rcC st1).toArray, .int .i64 v0]) rfl (by go_simp) ?_
  refine wpList_yield (w' := w1) (v := .agg (rcC st1).toArray) rfl (by go_simp) ?_
  refine wpList_yield (w' := w1) (v := .int .i64 v0) rfl (by go_simp) ?_
  refine wpList_yield (w' := w1.alloc (.cells #[.string ⟨#[]⟩, .int .i64 0] 71)) (v := .pointer (some ⟨w1.heap.size, 0, none⟩)) rfl (by go_simp) ?_
  refine wpList_store_all rfl 71 _ _ rfl w1.heap.size (cs := #[.string ⟨#[]⟩, .int .i64 0]) (T := 71) (rcC st1) (by go_simp) (by go_simp) (World.alloc_heap_new _ _) rfl HI70.out rfl ?_
  intro w2 hw2
  have hb2 := below_next hb1 (hw2.below (below_alloc (Below.refl _ w1) _) (Nat.le_refl _))
  have HB2 := Lib.hid (below_next HA0.out hb2)
  have HR2 := Lib.hid ((hb2.block w.heap.size (by have := HSU.out; omega)).trans HR0.out)
  have HC2 := Lib.hid hw2.there
  have HQ := Lib.hid (show w.heap.size + 1 ≤ w1.heap.size by have := hb1.size; have := HSU.out; omega)
  have HS2 := Lib.hid (show w2.heap.size = w1.heap.size + 1 by rw [hw2.size]; simp)
  clear hw2 hb1 hb2
  generalize w1.heap.size = q at *
  go_upto_region 2 with fail
  refine wp_region_lit ?_
  refine wpList_yield (w' := w2) (v := .agg (numC (List.replicate 12 0)).toArray) rfl (by go_simp; rfl) ?_
  refine wpList_yield (w' := w2.alloc (.cells #[.int .i64 0, .int .i64 0, .int .i64 0, .int .i64 0, .int .i64 0, .int .i64 0, .int .i64 0, .int .i64 0, .int .i64 0, .int .i64 0, .int .i64 0, .int .i64 0] 32)) (v := .pointer (some ⟨w2.heap.size, 0, none⟩)) rfl (by go_simp) ?_
  refine wpList_store_all rfl 32 _ _ rfl w2.heap.size (cs := #[.int .i64 0, .int .i64 0, .int .i64 0, .int .i64 0, .int .i64 0, .int .i64 0, .int .i64 0, .int .i64 0, .int .i64 0, .int .i64 0, .int .i64 0, .int .i64 0]) (T := 32) (numC (List.replicate 12 0)) (by go_simp) (by go_simp) (World.alloc_heap_new _ _) rfl (HI27.out _ rfl) rfl ?_
  intro w3 hw3
  have hb3 := hw3.below (below_alloc (Below.refl _ w2) _) (Nat.le_refl _)
  have HB3 := Lib.hid (below_next HB2.out hb3)
  have HR3 := Lib.hid ((hb3.block w.heap.size (by have := HS2.out; have := HQ.out; omega)).trans HR2.out)
  have HC3 := Lib.hid ((hb3.block q (by have := HS2.out; omega)).trans HC2.out)
  have hX3 := hw3.there
  rw [HS2.out] at hX3
  have HX3 := Lib.hid hX3
  rw [show w2.heap.size = q + 1 from HS2.out]
  clear hw3 hb3 hX3
  have hcut : ∃ k0 : Int, (k0 :: (readA 11 st1).2) = fixK (ysC bs) ∧ (v0 = k0 ∧ 1 ≤ v0 ∧ v0 ≤ 12 ∨ k0 = 0 ∧ ¬ (1 ≤ v0 ∧ v0 ≤ 12)) := by
    have hy : ysC bs = v0 :: (readA 11 st1).2 := (congrArg Prod.snd HYE.out).symm
    by_cases hk : 1 ≤ v0 ∧ v0 ≤ 12
    · refine ⟨v0, ?_, .inl ⟨rfl, hk.1, hk.2⟩⟩
      have : kindB (ysC bs) = true := by rw [hy]; unfold kindB; rw [show (v0 :: (readA 11 st1).2).getD 0 0 = v0 from rfl, decide_eq_true hk.1, decide_eq_true hk.2]; rfl
      unfold fixK
      rw [this, if_pos rfl, hy]
    · refine ⟨0, ?_, .inr ⟨rfl, hk⟩⟩
      have : kindB (ysC bs) = false := by
        rw [hy]; unfold kindB; rw [show (v0 :: (readA 11 st1).2).getD 0 0 = v0 from rfl, ← Bool.decide_and, decide_eq_false hk]
      unfold fixK
      rw [this, if_neg (by decide), hy]
      rfl
  obtain ⟨k0, hfk, hk0⟩ := hcut
  have HFK := Lib.hid hfk
  have HK0 := Lib.hid hk0
  have HW3 := Lib.hid ((wrote_refl HX3.out).set 0 (.int .i64 v0))
  have d0 := cell_of_block (o := 0) (v := .int .i64 0) HX3.out rfl
  have e0 := free_of_block 0 HX3.out
  clear hfk hk0
  go_upto_region 3 with fail
  go_simp
  go_cut [20] (fun s wx => ∃ B : Bool, s = .bool B ∧ (B = true ↔ (1 ≤ v0 ∧ v0 ≤ 12)) ∧ wx = w3)
  case first =>
    go_wp2_with fail
    all_goals go_meet
    all_goals (refine ⟨_, rfl, ?_, rfl⟩; simp; try omega)
  case rest =>
  obtain ⟨B0, rfl, hB0, rfl⟩ := hcut
  rename_i wx
  have HB0 := Lib.hid hB0
  clear hB0
  go_upto_if 20 with fail
  go_cut [] (fun wy => Below w.heap.size w wy ∧ wy.heap[w.heap.size]? = some (.cells #[.int .i64 0, .int .i64 0, .int .i64 0, .int .i64 0, .int .i64 0, .int .i64 0, .int .i64 0, .int .i64 0, .int .i64 0, .int .i64 0, .int .i64 0, .int .i64 0] 32 (0, 0)) ∧ wy.heap[q]? = some (.cells (rcC st1).toArray 71 (0, 0)) ∧ wy.heap[q + 1]? = some (.cells (numC (k0 :: List.replicate 11 0)).toArray 32 (0, 0)))
  case first =>
    cases B0 with
    | true =>
      have hk : v0 = k0 := by
        rcases HK0.out with h | h
        · exact h.1
        · exact absurd (HB0.out.1 rfl) h.2
      subst hk
      go_wp2_with fail
      go_meet
      refine ⟨HW3.out.below HB3.out (by have := HQ.out; omega), (HW3.out.rest _ (by have := HQ.out; omega)).trans HR3.out, (HW3.out.rest _ (by omega)).trans HC3.out, ?_⟩
      exact HW3.out.there
    | false =>
      have hk : k0 = 0 := by
        rcases HK0.out with h | h
        · have := HB0.out.2 h.2; cases this
        · exact h.1
      subst hk
      go_wp2_with fail
      go_meet
      exact ⟨HB3.out, HR3.out, HC3.out, HX3.out⟩
  case rest =>
  rename_i wy
  obtain ⟨hb4, hr4, hc4, hx4⟩ := hcut
  have HB4 := Lib.hid hb4
  have HR4 := Lib.hid hr4
  have HC4 := Lib.hid hc4
  have HX4 := Lib.hid hx4
  clear hb4 hr4 hc4 hx4 d0 e0 HW3 HB0 HK0 HX3
  go_wp2_with fail
  go_loopw [7] (fun i wr => ∃ (j : Nat) (st : CS) (acc : List Int), j ≤ 11 ∧ i = .int .i64 j ∧ acc.length = j ∧ readA 11 st1 = ((readA (11 - j) st).1, acc ++ (readA (11 - j) st).2) ∧ st.xs <:+ bs ∧ wr.heap[q]? = some (.cells (rcC st).toArray 71 (0, 0)) ∧ wr.heap[q + 1]? = some (.cells (numC (k0 :: (acc ++ List.replicate (11 - j) 0))).toArray 32 (0, 0)) ∧ Below w.heap.size w wr ∧ wr.heap[w.heap.size]? = some (.cells #[.int .i64 0, .int .i64 0, .int .i64 0, .int .i64 0, .int .i64 0, .int .i64 0, .int .i64 0, .int .i64 0, .int .i64 0, .int .i64 0, .int .i64 0, .int .i64 0] 32 (0, 0))) (fun i _ => 11 - (intOf i).toNat)
  case atStart => exact ⟨0, st1, [], Nat.zero_le _, rfl, rfl, rfl, HSUF.out, HC4.out, HX4.out, HB4.out, HR4.out⟩
  case round =>
    obtain ⟨j, st, acc, hj, rfl, hal, hrd, hsf, hc, hxx, hb, hr⟩ := hrel
    have HAL := Lib.hid hal
    have HRD := Lib.hid hrd
    have HSF := Lib.hid hsf
    have HC := Lib.hid hc
    have HXX := Lib.hid hxx
    have HB := Lib.hid hb
    have HR := Lib.hid hr
    clear hal hrd hsf hc hxx hb hr
    by_cases hlt : j < 11
    · have hd : decide ((j : Int) < 11) = true := decide_eq_true (by omega)
      have K := rint_any st (mem_suffix HSF.out HX.out) (Nat.le_trans HSF.out.length_le HL.out) wr
      rw [HRC.out st, HRC.out (intF st).1] at K
      have K := Lib.hid K
      have HST := Lib.hid (intF_suffix st)
      generalize hs2 : (intF st).1 = st2 at *
      generalize hx2 : (intF st).2 = x at *
      have HS2' := Lib.hid hs2
      have HX2' := Lib.hid hx2
      clear hs2 hx2
      go_upto_region 8 with fail
      refine wp_region_lit ?_
      refine wpList_yield (w' := wr) (v := .int .i64 (j : Int)) rfl (by go_simp) ?_
      refine wpList_load_all rfl 71 _ rfl q (rcC st) _ (by go_simp) HC.out Tryd.underlying71 rfl HI70.out ?_
      refine wpList_enter rfl (by go_simp) K.out ?_
      rintro e w5 ⟨rfl, hb5⟩
      refine ⟨_, rfl, ?_⟩
      have hq5 := (hb5.block q (Array.getElem?_eq_some_iff.1 HC.out).1).trans HC.out
      have hx5 := (hb5.block (q + 1) (Array.getElem?_eq_some_iff.1 HXX.out).1).trans HXX.out
      have hr5 := (hb5.block w.heap.size (Array.getElem?_eq_some_iff.1 HR.out).1).trans HR.out
      have hB5 := below_next HB.out hb5
      refine wpList_yield (w' := w5) (v := .tuple #[.agg (rcC st2).toArray, .int .i64 x]) rfl (by go_simp) ?_
      refine wpList_yield (w' := w5) (v := .agg (rcC st2).toArray) rfl (by go_simp) ?_
      refine wpList_yield (w' := w5) (v := .int .i64 x) rfl (by go_simp) ?_
      refine wpList_store_all rfl 71 _ _ rfl q (T := 71) (rcC st2) (by go_simp) (by go_simp) hq5 rfl HI70.out rfl ?_
      intro w6 hw6
      have hx6 := (hw6.rest (q + 1) (by omega)).trans hx5
      have HR6 := Lib.hid ((hw6.rest w.heap.size (by have := HQ.out; omega)).trans hr5)
      have HB6 := Lib.hid (hw6.below hB5 (by have := HQ.out; omega))
      have HC6 := Lib.hid hw6.there
      have HW := Lib.hid ((wrote_refl hx6).set (1 + j) (.int .i64 x))
      have hlen12 : (k0 :: (acc ++ List.replicate (11 - j) 0)).length = 12 := by simp [HAL.out]; omega
      have ec := cell_of_block (o := 1 + j) (v := .int .i64 ((k0 :: (acc ++ List.replicate (11 - j) 0)).getD (1 + j) 0)) hx6 (by
        have := numC_at (xs := k0 :: (acc ++ List.replicate (11 - j) 0)) (i := 1 + j) (by rw [hlen12]; omega)
        simpa using this)
      have ef := free_of_block (1 + j) hx6
      have HSTT := Lib.hid (show k0 :: (acc ++ List.replicate (11 - j) 0) = (k0 :: acc) ++ 0 :: List.replicate (11 - (j + 1)) 0 by rw [show 11 - j = (11 - (j + 1)) + 1 by omega, List.replicate_succ]; rfl)
      clear hw6 hx6 hq5 hx5 hr5 hB5 hb5 K hlen12
      generalize (k0 :: (acc ++ List.replicate (11 - j) 0)).getD (1 + j) 0 = x0 at *
      go_wp2_with fail
      go_roundw
      case rel =>
        refine ⟨j + 1, st2, acc ++ [x], by omega, by go_num, by simp [HAL.out], ?_, HST.out.trans HSF.out, (HW.out.rest _ (by omega)).trans HC6.out, ?_, HW.out.below HB6.out (by have := HQ.out; omega), (HW.out.rest _ (by have := HQ.out; omega)).trans HR6.out⟩
        · rw [HRD.out, show 11 - j = (11 - (j + 1)) + 1 by omega, readA_next, HS2'.out, HX2'.out]
          simp
        · have := HW.out.there
          rw [numC_arr_set, HSTT.out, List.set_append_right _ _ (by simp [HAL.out]; omega), show 1 + j - (k0 :: acc).length = 0 by simp [HAL.out]; omega, List.set_cons_zero] at this
          rw [List.append_assoc]
          exact this
      case measure => simp [intOf]; omega
    · have hd : decide ((j : Int) < 11) = false := decide_eq_false (by omega)
      have hj0 : 11 - j = 0 := by omega
      have hy := HRD.out
      rw [hj0, show readA 0 st = (st, []) from rfl, List.append_nil] at hy
      have hst : st = (readN 12 ⟨bs, 0⟩).1 := by
        have := congrArg Prod.fst HYE.out
        rw [hy] at this
        exact this
      have hxl := HXX.out
      rw [hj0, List.replicate_zero, List.append_nil] at hxl
      have hfx : k0 :: acc = fixK (ysC bs) := by rw [← HFK.out, hy]
      have hfl := fixK_len HYL.out
      rw [hfx] at hxl
      have hrr := HRR.out.1
      rw [← hst] at hrr
      have HRR1 := Lib.hid hrr
      have HFX := Lib.hid (fun h => HRR.out.2 h)
      have HXL := Lib.hid hxl
      have KE := rend_any st
      have KE := Lib.hid KE
      have KRI := Lib.hid (fun W => rright_any hfl W)
      have KCL := Lib.hid (fun W => rclean_any hfl W)
      have HNE := Lib.hid (fun W => eqin27 (cleanL_len (fixK (ysC bs))) hfl W)
      have HL1 := Lib.hid (show (numC (fixK (ysC bs))).length = 12 by rw [numC_len, hfl])
      have HO1 := Lib.hid (numC_one (fixK (ysC bs)))
      have HLD := Lib.hid (fun (W : World) (h : Below wr.heap.size wr W) => (h.block _ (Array.getElem?_eq_some_iff.1 HXL.out).1).trans HXL.out)
      have HLC := Lib.hid (fun (W : World) (h : Below wr.heap.size wr W) => (h.block _ (Array.getElem?_eq_some_iff.1 HC.out).1).trans HC.out)
      have HI1 := Lib.hid (HI27.out _ HL1.out)
      have HLW := Lib.hid (show w.heap.size < wr.heap.size from (Array.getElem?_eq_some_iff.1 HR.out).1)
      clear hy hst hxl hfx hfl hrr
      generalize hen : endF st = en at *
      generalize hzz : numC (fixK (ysC bs)) = z at *
      have HZZ := Lib.hid hzz
      generalize hmc : numC (cleanL (fixK (ysC bs))) = mc at *
      clear hen hzz hmc
      have HRCS := Lib.hid (show (.agg #[.string (strOfNums st.xs), .int .i64 st.bad] : Value) = .agg (rcC st).toArray from rfl)
      rw [HRCS.out] at KE
      have HRCL := Lib.hid (show (rcC st).length = 2 from rfl)
      generalize rcC st = rc at *
      have HI70R := Lib.hid (show (Tryd.prog.info? 71).map (·.size) = some rc.length by rw [HRCL.out]; exact HI70.out)
      by_cases hq0 : en = 0
      · subst hq0
        cases hri : rightL (fixK (ysC bs)) with
        | false =>
          rw [hri] at KRI
          have HRF := Lib.hid (show readB bs = false by rw [HRR1.out, hri]; rfl)
          clear hri
          go_upto_region 9 with fail
          refine Rl.wp_region_rel (fun a b => Below a.heap.size a b) wr (fun a b c h h' => below_next h h') (fun a => Below.refl _ _) hmx (by kernel_rfl) (Below.refl _ _).drew ?_
          refine Rl.textR_run (.agg rc.toArray) (fun ρ => ?_) (fun ρ W hS hd => ?_) ?_
          · go_simp
          · exact Rl.comesToR_load 71 _ rfl q (by go_simp) _ _ (HLC.out W hS) Tryd.underlying71 rfl HI70R.out ⟨rfl, Below.refl _ _⟩
          (try go_simp)
          (refine Rl.textR_run ?_ (fun ρ => ?_) (fun ρ W hS hd => ?_) ?_; rotate_left; (focus go_simp); (focus (obtain ⟨hc, hf⟩ := bcell hS; go_simp; refine (KE.out W).mono ?_; rintro e w1 ⟨rfl, hb⟩; refine ⟨_, rfl, ?_, hb⟩; rfl)); (try go_simp))
          iterate 2 (refine Rl.textR_run ?_ (fun ρ => ?_) (fun ρ W hS hd => ?_) ?_; rotate_left; (focus go_simp); (focus (obtain ⟨hc, hf⟩ := bcell hS; go_simp; first | exact ⟨rfl, Below.refl _ _⟩ | (refine ⟨?_, Below.refl _ _⟩; rfl))); (try go_simp))
          refine Rl.textR_run (.agg z.toArray) (fun ρ => ?_) (fun ρ W hS hd => ?_) ?_
          · go_simp
          · exact Rl.comesToR_load 32 _ rfl (q + 1) (by go_simp) _ _ (HLD.out W hS) Tryd.underlying32 rfl HI1.out ⟨rfl, Below.refl _ _⟩
          (try go_simp)
          (refine Rl.textR_run ?_ (fun ρ => ?_) (fun ρ W hS hd => ?_) ?_; rotate_left; (focus go_simp); (focus (obtain ⟨hc, hf⟩ := bcell hS; go_simp; refine (KRI.out W).mono ?_; rintro e w1 ⟨rfl, hb⟩; refine ⟨_, rfl, ?_, hb⟩; rfl)); (try go_simp))
          iterate 3 (refine Rl.textR_run ?_ (fun ρ => ?_) (fun ρ W hS hd => ?_) ?_; rotate_left; (focus go_simp); (focus (obtain ⟨hc, hf⟩ := bcell hS; go_simp; first | exact ⟨rfl, Below.refl _ _⟩ | (refine ⟨?_, Below.refl _ _⟩; rfl))); (try go_simp))
          iterate 4 (refine Rl.textR_skip (fun ρ => ?_) ?_; (focus (first | rfl | (go_simp; done) | (go_simp; rfl))); (try go_simp))
          (refine Rl.textR_run ?_ (fun ρ => ?_) (fun ρ W hS hd => ?_) ?_; rotate_left; (focus go_simp); (focus (obtain ⟨hc, hf⟩ := bcell hS; go_simp; first | exact ⟨rfl, Below.refl _ _⟩ | (refine ⟨?_, Below.refl _ _⟩; rfl))); (try go_simp))
          refine Rl.textR_nil ?_
          intro ρ w7 hg hk
          have HZ7 := Lib.hid ((hg.block _ HLW.out).trans HR.out)
          have HB7 := Lib.hid (below_next HB.out hg)
          clear hg hk HLD HLC
          dsimp only
          clear ρ
          go_upto_region 10 with fail
          refine wp_region_lit ?_
          refine wpList_yield (w' := w7) (v := .agg (numC (List.replicate 12 0)).toArray) rfl (by go_simp; rfl) ?_
          refine wpList_store_all rfl 32 _ _ rfl w.heap.size (T := 32) (numC (List.replicate 12 0)) (by go_simp) (by go_simp) HZ7.out rfl (by kernel_rfl) rfl ?_
          intro w8 hw8
          have HW8 := Lib.hid hw8.there
          have HB8 := Lib.hid (hw8.below HB7.out (Nat.le_refl _))
          clear hw8
          go_wp2_with fail
          exact bodyPost_ret (results_all2 (numC (List.replicate 12 0)) _ Tryd.results38 (by go_simp) HW8.out Tryd.underlying32 rfl (by kernel_rfl)) rfl ⟨by rw [gotC_no HRF.out, codeC_no HRF.out]; rfl, HB8.out⟩
        | true =>
          rw [hri] at KRI
          cases hcmp : (cleanL (fixK (ysC bs)) == fixK (ysC bs)) with
          | false =>
            have HRF := Lib.hid (show readB bs = false by rw [HRR1.out, hri, hcmp]; rfl)
            rw [hcmp] at HNE
            clear hri hcmp
            go_upto_region 9 with fail
            refine Rl.wp_region_rel (fun a b => Below a.heap.size a b) wr (fun a b c h h' => below_next h h') (fun a => Below.refl _ _) hmx (by kernel_rfl) (Below.refl _ _).drew ?_
            refine Rl.textR_run (.agg rc.toArray) (fun ρ => ?_) (fun ρ W hS hd => ?_) ?_
            · go_simp
            · exact Rl.comesToR_load 71 _ rfl q (by go_simp) _ _ (HLC.out W hS) Tryd.underlying71 rfl HI70R.out ⟨rfl, Below.refl _ _⟩
            (try go_simp)
            (refine Rl.textR_run ?_ (fun ρ => ?_) (fun ρ W hS hd => ?_) ?_; rotate_left; (focus go_simp); (focus (obtain ⟨hc, hf⟩ := bcell hS; go_simp; refine (KE.out W).mono ?_; rintro e w1 ⟨rfl, hb⟩; refine ⟨_, rfl, ?_, hb⟩; rfl)); (try go_simp))
            iterate 2 (refine Rl.textR_run ?_ (fun ρ => ?_) (fun ρ W hS hd => ?_) ?_; rotate_left; (focus go_simp); (focus (obtain ⟨hc, hf⟩ := bcell hS; go_simp; first | exact ⟨rfl, Below.refl _ _⟩ | (refine ⟨?_, Below.refl _ _⟩; rfl))); (try go_simp))
            refine Rl.textR_run (.agg z.toArray) (fun ρ => ?_) (fun ρ W hS hd => ?_) ?_
            · go_simp
            · exact Rl.comesToR_load 32 _ rfl (q + 1) (by go_simp) _ _ (HLD.out W hS) Tryd.underlying32 rfl HI1.out ⟨rfl, Below.refl _ _⟩
            (try go_simp)
            (refine Rl.textR_run ?_ (fun ρ => ?_) (fun ρ W hS hd => ?_) ?_; rotate_left; (focus go_simp); (focus (obtain ⟨hc, hf⟩ := bcell hS; go_simp; refine (KRI.out W).mono ?_; rintro e w1 ⟨rfl, hb⟩; refine ⟨_, rfl, ?_, hb⟩; rfl)); (try go_simp))
            iterate 3 (refine Rl.textR_run ?_ (fun ρ => ?_) (fun ρ W hS hd => ?_) ?_; rotate_left; (focus go_simp); (focus (obtain ⟨hc, hf⟩ := bcell hS; go_simp; first | exact ⟨rfl, Below.refl _ _⟩ | (refine ⟨?_, Below.refl _ _⟩; rfl))); (try go_simp))
            refine Rl.textR_run (.agg z.toArray) (fun ρ => ?_) (fun ρ W hS hd => ?_) ?_
            · go_simp
            · exact Rl.comesToR_load 32 _ rfl (q + 1) (by go_simp) _ _ (HLD.out W hS) Tryd.underlying32 rfl HI1.out ⟨rfl, Below.refl _ _⟩
            (try go_simp)
            (refine Rl.textR_run ?_ (fun ρ => ?_) (fun ρ W hS hd => ?_) ?_; rotate_left; (focus go_simp); (focus (obtain ⟨hc, hf⟩ := bcell hS; go_simp; refine (KCL.out W).mono ?_; rintro e w1 ⟨rfl, hb⟩; refine ⟨_, rfl, ?_, hb⟩; rfl)); (try go_simp))
            refine Rl.textR_run (.agg z.toArray) (fun ρ => ?_) (fun ρ W hS hd => ?_) ?_
            · go_simp
            · exact Rl.comesToR_load 32 _ rfl (q + 1) (by go_simp) _ _ (HLD.out W hS) Tryd.underlying32 rfl HI1.out ⟨rfl, Below.refl _ _⟩
            (try go_simp)
            refine Rl.textR_run (.bool (!false)) (fun ρ => ?_) (fun ρ W hS hd => ?_) ?_
            · go_simp
            · exact Rl.comesToR_neq 32 _ _ _ rfl _ _ (by go_simp) (by go_simp) (by kernel_rfl) (HNE.out W) ⟨rfl, Below.refl _ _⟩
            (try go_simp)
            (refine Rl.textR_run ?_ (fun ρ => ?_) (fun ρ W hS hd => ?_) ?_; rotate_left; (focus go_simp); (focus (obtain ⟨hc, hf⟩ := bcell hS; go_simp; first | exact ⟨rfl, Below.refl _ _⟩ | (refine ⟨?_, Below.refl _ _⟩; rfl))); (try go_simp))
            refine Rl.textR_nil ?_
            intro ρ w7 hg hk
            have HZ7 := Lib.hid ((hg.block _ HLW.out).trans HR.out)
            have HB7 := Lib.hid (below_next HB.out hg)
            clear hg hk HLD HLC
            dsimp only
            clear ρ
            go_upto_region 10 with fail
            refine wp_region_lit ?_
            refine wpList_yield (w' := w7) (v := .agg (numC (List.replicate 12 0)).toArray) rfl (by go_simp; rfl) ?_
            refine wpList_store_all rfl 32 _ _ rfl w.heap.size (T := 32) (numC (List.replicate 12 0)) (by go_simp) (by go_simp) HZ7.out rfl (by kernel_rfl) rfl ?_
            intro w8 hw8
            have HW8 := Lib.hid hw8.there
            have HB8 := Lib.hid (hw8.below HB7.out (Nat.le_refl _))
            clear hw8
            go_wp2_with fail
            exact bodyPost_ret (results_all2 (numC (List.replicate 12 0)) _ Tryd.results38 (by go_simp) HW8.out Tryd.underlying32 rfl (by kernel_rfl)) rfl ⟨by rw [gotC_no HRF.out, codeC_no HRF.out]; rfl, HB8.out⟩
          | true =>
            have HRT := Lib.hid (show readB bs = true by rw [HRR1.out, hri, hcmp]; rfl)
            rw [hcmp] at HNE
            clear hri hcmp
            go_upto_region 9 with fail
            refine Rl.wp_region_rel (fun a b => Below a.heap.size a b) wr (fun a b c h h' => below_next h h') (fun a => Below.refl _ _) hmx (by kernel_rfl) (Below.refl _ _).drew ?_
            refine Rl.textR_run (.agg rc.toArray) (fun ρ => ?_) (fun ρ W hS hd => ?_) ?_
            · go_simp
            · exact Rl.comesToR_load 71 _ rfl q (by go_simp) _ _ (HLC.out W hS) Tryd.underlying71 rfl HI70R.out ⟨rfl, Below.refl _ _⟩
            (try go_simp)
            (refine Rl.textR_run ?_ (fun ρ => ?_) (fun ρ W hS hd => ?_) ?_; rotate_left; (focus go_simp); (focus (obtain ⟨hc, hf⟩ := bcell hS; go_simp; refine (KE.out W).mono ?_; rintro e w1 ⟨rfl, hb⟩; refine ⟨_, rfl, ?_, hb⟩; rfl)); (try go_simp))
            iterate 2 (refine Rl.textR_run ?_ (fun ρ => ?_) (fun ρ W hS hd => ?_) ?_; rotate_left; (focus go_simp); (focus (obtain ⟨hc, hf⟩ := bcell hS; go_simp; first | exact ⟨rfl, Below.refl _ _⟩ | (refine ⟨?_, Below.refl _ _⟩; rfl))); (try go_simp))
            refine Rl.textR_run (.agg z.toArray) (fun ρ => ?_) (fun ρ W hS hd => ?_) ?_
            · go_simp
            · exact Rl.comesToR_load 32 _ rfl (q + 1) (by go_simp) _ _ (HLD.out W hS) Tryd.underlying32 rfl HI1.out ⟨rfl, Below.refl _ _⟩
            (try go_simp)
            (refine Rl.textR_run ?_ (fun ρ => ?_) (fun ρ W hS hd => ?_) ?_; rotate_left; (focus go_simp); (focus (obtain ⟨hc, hf⟩ := bcell hS; go_simp; refine (KRI.out W).mono ?_; rintro e w1 ⟨rfl, hb⟩; refine ⟨_, rfl, ?_, hb⟩; rfl)); (try go_simp))
            iterate 3 (refine Rl.textR_run ?_ (fun ρ => ?_) (fun ρ W hS hd => ?_) ?_; rotate_left; (focus go_simp); (focus (obtain ⟨hc, hf⟩ := bcell hS; go_simp; first | exact ⟨rfl, Below.refl _ _⟩ | (refine ⟨?_, Below.refl _ _⟩; rfl))); (try go_simp))
            refine Rl.textR_run (.agg z.toArray) (fun ρ => ?_) (fun ρ W hS hd => ?_) ?_
            · go_simp
            · exact Rl.comesToR_load 32 _ rfl (q + 1) (by go_simp) _ _ (HLD.out W hS) Tryd.underlying32 rfl HI1.out ⟨rfl, Below.refl _ _⟩
            (try go_simp)
            (refine Rl.textR_run ?_ (fun ρ => ?_) (fun ρ W hS hd => ?_) ?_; rotate_left; (focus go_simp); (focus (obtain ⟨hc, hf⟩ := bcell hS; go_simp; refine (KCL.out W).mono ?_; rintro e w1 ⟨rfl, hb⟩; refine ⟨_, rfl, ?_, hb⟩; rfl)); (try go_simp))
            refine Rl.textR_run (.agg z.toArray) (fun ρ => ?_) (fun ρ W hS hd => ?_) ?_
            · go_simp
            · exact Rl.comesToR_load 32 _ rfl (q + 1) (by go_simp) _ _ (HLD.out W hS) Tryd.underlying32 rfl HI1.out ⟨rfl, Below.refl _ _⟩
            (try go_simp)
            refine Rl.textR_run (.bool (!true)) (fun ρ => ?_) (fun ρ W hS hd => ?_) ?_
            · go_simp
            · exact Rl.comesToR_neq 32 _ _ _ rfl _ _ (by go_simp) (by go_simp) (by kernel_rfl) (HNE.out W) ⟨rfl, Below.refl _ _⟩
            (try go_simp)
            (refine Rl.textR_run ?_ (fun ρ => ?_) (fun ρ W hS hd => ?_) ?_; rotate_left; (focus go_simp); (focus (obtain ⟨hc, hf⟩ := bcell hS; go_simp; first | exact ⟨rfl, Below.refl _ _⟩ | (refine ⟨?_, Below.refl _ _⟩; rfl))); (try go_simp))
            refine Rl.textR_nil ?_
            intro ρ w7 hg hk
            have HP7 := Lib.hid (HLD.out w7 hg)
            have HZ7 := Lib.hid ((hg.block _ HLW.out).trans HR.out)
            have HB7 := Lib.hid (below_next HB.out hg)
            clear hg hk HLD HLC
            dsimp only
            clear ρ
            go_upto_region 11 with fail
            refine wp_region_lit ?_
            refine wpList_load_all rfl 32 _ rfl (q + 1) z _ (by go_simp) HP7.out Tryd.underlying32 rfl HI1.out ?_
            refine wpList_store_all rfl 32 _ _ rfl w.heap.size (T := 32) z (by go_simp) (by go_simp) HZ7.out (by rw [HL1.out]; rfl) HI1.out HO1.out ?_
            intro w8 hw8
            have HW8 := Lib.hid hw8.there
            have HB8 := Lib.hid (hw8.below HB7.out (Nat.le_refl _))
            clear hw8
            go_wp2_with fail
            exact bodyPost_ret (results_all2 z _ Tryd.results38 (by go_simp) HW8.out Tryd.underlying32 rfl HI1.out) rfl ⟨by rw [gotC_yes HRT.out, codeC_yes HRT.out, ← HFX.out HRT.out, HZZ.out]; rfl, HB8.out⟩
      · have hqb : (en == 0) = false := by rw [beq_eq_false_iff_ne]; exact hq0
        have HRF := Lib.hid (show readB bs = false by rw [HRR1.out, hqb]; rfl)
        go_upto_region 9 with fail
        refine Rl.wp_region_rel (fun a b => Below a.heap.size a b) wr (fun a b c h h' => below_next h h') (fun a => Below.refl _ _) hmx (by kernel_rfl) (Below.refl _ _).drew ?_
        refine Rl.textR_run (.agg rc.toArray) (fun ρ => ?_) (fun ρ W hS hd => ?_) ?_
        · go_simp
        · exact Rl.comesToR_load 71 _ rfl q (by go_simp) _ _ (HLC.out W hS) Tryd.underlying71 rfl HI70R.out ⟨rfl, Below.refl _ _⟩
        (try go_simp)
        (refine Rl.textR_run ?_ (fun ρ => ?_) (fun ρ W hS hd => ?_) ?_; rotate_left; (focus go_simp); (focus (obtain ⟨hc, hf⟩ := bcell hS; go_simp; refine (KE.out W).mono ?_; rintro e w1 ⟨rfl, hb⟩; refine ⟨_, rfl, ?_, hb⟩; rfl)); (try go_simp))
        iterate 2 (refine Rl.textR_run ?_ (fun ρ => ?_) (fun ρ W hS hd => ?_) ?_; rotate_left; (focus go_simp); (focus (obtain ⟨hc, hf⟩ := bcell hS; go_simp; first | exact ⟨rfl, Below.refl _ _⟩ | (refine ⟨?_, Below.refl _ _⟩; rfl))); (try go_simp))
        iterate 3 (refine Rl.textR_skip (fun ρ => ?_) ?_; (focus (first | rfl | (go_simp; done) | (go_simp; rfl))); (try go_simp))
        iterate 2 (refine Rl.textR_run ?_ (fun ρ => ?_) (fun ρ W hS hd => ?_) ?_; rotate_left; (focus go_simp); (focus (obtain ⟨hc, hf⟩ := bcell hS; go_simp; first | exact ⟨rfl, Below.refl _ _⟩ | (refine ⟨?_, Below.refl _ _⟩; rfl))); (try go_simp))
        iterate 4 (refine Rl.textR_skip (fun ρ => ?_) ?_; (focus (first | rfl | (go_simp; done) | (go_simp; rfl))); (try go_simp))
        (refine Rl.textR_run ?_ (fun ρ => ?_) (fun ρ W hS hd => ?_) ?_; rotate_left; (focus go_simp); (focus (obtain ⟨hc, hf⟩ := bcell hS; go_simp; first | exact ⟨rfl, Below.refl _ _⟩ | (refine ⟨?_, Below.refl _ _⟩; rfl))); (try go_simp))
        refine Rl.textR_nil ?_
        intro ρ w7 hg hk
        have HZ7 := Lib.hid ((hg.block _ HLW.out).trans HR.out)
        have HB7 := Lib.hid (below_next HB.out hg)
        clear hg hk HLD HLC
        dsimp only
        clear ρ
        go_upto_region 10 with fail
        refine wp_region_lit ?_
        refine wpList_yield (w' := w7) (v := .agg (numC (List.replicate 12 0)).toArray) rfl (by go_simp; rfl) ?_
        refine wpList_store_all rfl 32 _ _ rfl w.heap.size (T := 32) (numC (List.replicate 12 0)) (by go_simp) (by go_simp) HZ7.out rfl (by kernel_rfl) rfl ?_
        intro w8 hw8
        have HW8 := Lib.hid hw8.there
        have HB8 := Lib.hid (hw8.below HB7.out (Nat.le_refl _))
        clear hw8
        go_wp2_with fail
        exact bodyPost_ret (results_all2 (numC (List.replicate 12 0)) _ Tryd.results38 (by go_simp) HW8.out Tryd.underlying32 rfl (by kernel_rfl)) rfl ⟨by rw [gotC_no HRF.out, codeC_no HRF.out]; rfl, HB8.out⟩
end Go.Proofs.YtdfkfcpkejjlnaaDoor
namespace Go.Proofs.YtdfkfcpkejjlnaaDoor
set_option linter.unusedVariables false
open Go.RowKit Cs

/-- a step: its kind, its command's numbers, its line, its number, what is kept -/
structure SV where
  k : Int
  x : List Int
  s : ByteArray
  n : Int
  q : List Int
/-- the document's -/
structure DV where
  k : Int
  x : List Int
  s : ByteArray
  q : List Int
def i64S (x : Int) : Prop := -9223372036854775808 ≤ x ∧ x ≤ 9223372036854775807
structure GoodS (v : SV) : Prop where
  x : Cmd12 v.x
  q : v.q.length = 4
  k64 : i64S v.k
  n64 : i64S v.n
  q64 : ∀ y ∈ v.q, i64S y
def z12 : List Int := List.replicate 12 0
def z4 : List Int := [0, 0, 0, 0]
def eS : ByteArray := ⟨#[]⟩
def sC (v : SV) : List Value := .int .i64 v.k :: cmdC v.x ++ [.string v.s, .int .i64 v.n] ++ v.q.map (.int .i64)
def dC (d : DV) : List Value := .int .i64 d.k :: numC d.x ++ [.string d.s] ++ d.q.map (.int .i64)
def ownS (v : SV) : DV := ⟨v.k, v.x, v.s, if v.k = 3 then v.q else [v.n, 0, 0, 0]⟩
def rightK (k : Int) (x : List Int) (s : ByteArray) : Bool := if k = 0 then rightL x else if k = 1 then decide (s.size ≤ 264) else decide (0 ≤ k ∧ k ≤ 5)
abbrev rightS (v : SV) : Bool := rightK v.k v.x v.s
def cleanS (v : SV) : SV :=
  if v.k = 0 then ⟨0, cleanL v.x, eS, 0, z4⟩
  else if v.k = 1 then ⟨1, z12, v.s, 0, z4⟩
  else if v.k = 2 then ⟨2, z12, eS, v.n, z4⟩
  else if v.k = 3 then ⟨3, z12, eS, 0, v.q⟩
  else if v.k = 4 ∨ v.k = 5 then ⟨v.k, z12, eS, 0, z4⟩
  else ⟨0, z12, eS, 0, z4⟩
def cleanD (d : DV) : DV :=
  if d.k = 0 then ⟨0, cleanL d.x, eS, z4⟩
  else if d.k = 1 then ⟨1, z12, d.s, z4⟩
  else if d.k = 2 then ⟨2, z12, eS, [d.q.getD 0 0, 0, 0, 0]⟩
  else if d.k = 3 then ⟨3, z12, eS, d.q⟩
  else if d.k = 4 ∨ d.k = 5 then ⟨d.k, z12, eS, z4⟩
  else ⟨0, z12, eS, z4⟩
theorem own_clean (v : SV) : cleanD (ownS v) = ownS (cleanS v) := by
  unfold cleanD cleanS ownS
  dsimp only
  by_cases h0 : v.k = 0
  · simp [h0, z4]
  · by_cases h1 : v.k = 1
    · simp [h1, z4]
    · by_cases h2 : v.k = 2
      · simp [h2, z4]
      · by_cases h3 : v.k = 3
        · simp [h3]
        · by_cases h4 : v.k = 4
          · simp [h4, z4]
          · by_cases h5 : v.k = 5
            · simp [h5, z4]
            · simp [h0, h1, h2, h3, h4, h5, z4]
theorem cmd_z12 : Cmd12 z12 := ⟨rfl, .inl rfl, fun x hx => by rw [List.eq_of_mem_replicate hx]; omega⟩
theorem good_clean {v : SV} (h : GoodS v) : GoodS (cleanS v) := by
  have hz : ∀ y ∈ z4, i64S y := fun y hy => by simp [z4] at hy; subst hy; unfold i64S; omega
  have i0 : i64S 0 := by unfold i64S; omega
  unfold cleanS
  split
  · exact ⟨cleanL_cmd h.x, rfl, i0, i0, hz⟩
  · split
    · exact ⟨cmd_z12, rfl, by unfold i64S; dsimp only; omega, i0, hz⟩
    · split
      · exact ⟨cmd_z12, rfl, by unfold i64S; dsimp only; omega, h.n64, hz⟩
      · split
        · exact ⟨cmd_z12, h.q, by unfold i64S; dsimp only; omega, i0, h.q64⟩
        · split
          · exact ⟨cmd_z12, rfl, h.k64, i0, hz⟩
          · exact ⟨cmd_z12, rfl, i0, i0, hz⟩
theorem clean_z12 : cleanL z12 = z12 := by decide +kernel
theorem cleanS_twice (v : SV) : cleanS (cleanS v) = cleanS v := by
  unfold cleanS
  by_cases h0 : v.k = 0
  · simp [h0, clean_clean]
  · by_cases h1 : v.k = 1
    · simp [h1]
    · by_cases h2 : v.k = 2
      · simp [h2]
      · by_cases h3 : v.k = 3
        · simp [h3]
        · by_cases h4 : v.k = 4
          · simp [h4]
          · by_cases h5 : v.k = 5
            · simp [h5]
            · simp [h0, h1, h2, h3, h4, h5, clean_z12]
theorem right_kind {v : SV} (h : rightS v = true) : 0 ≤ v.k ∧ v.k ≤ 5 := by
  unfold rightS rightK at h
  split at h
  · omega
  · split at h
    · omega
    · exact of_decide_eq_true h
theorem right_cleanS {v : SV} (h : rightS v = true) : rightS (cleanS v) = true := by
  have hk := right_kind h
  unfold rightS rightK at *
  unfold cleanS
  by_cases h0 : v.k = 0
  · simp [h0, right_clean] at h ⊢; exact h
  · by_cases h1 : v.k = 1
    · simp [h1] at h ⊢; exact h
    · by_cases h2 : v.k = 2
      · simp [h2]
      · by_cases h3 : v.k = 3
        · simp [h3]
        · by_cases h4 : v.k = 4
          · simp [h4]
          · have h5 : v.k = 5 := by omega
            simp [h5]
/-- a step's bytes -/
def bytesS (v : SV) : List Int := putI v.k ++ (if v.k = 0 then putTx (putC v.x) else if v.k = 1 then putTx (bytesOf v.s) else if v.k = 2 then putI v.n else if v.k = 3 then v.q.flatMap putI else [])
def putS (L : List SV) : List Int := L.flatMap fun v => if rightS v then bytesS v else []
theorem putC_clean (x : List Int) : putC (cleanL x) = putC x := by unfold putC; rw [clean_clean]
theorem bytes_clean {v : SV} (h : rightS v = true) : bytesS (cleanS v) = bytesS v := by
  have hk := right_kind h
  unfold bytesS cleanS
  by_cases h0 : v.k = 0
  · simp [h0, putC_clean]
  · by_cases h1 : v.k = 1
    · simp [h1]
    · by_cases h2 : v.k = 2
      · simp [h2]
      · by_cases h3 : v.k = 3
        · simp [h3]
        · by_cases h4 : v.k = 4
          · simp [h4]
          · have h5 : v.k = 5 := by omega
            simp [h5]
theorem flat_le : ∀ q : List Int, (∀ y ∈ q, i64S y) → (q.flatMap putI).length ≤ 10 * q.length
  | [], _ => by simp
  | y :: q, h => by
    have h1 := flat_le q fun z hz => h z (List.mem_cons_of_mem _ hz)
    have h2 := putI_len (h y List.mem_cons_self)
    simp only [List.flatMap_cons, List.length_append, List.length_cons]
    omega
theorem putTx_len (b : List Int) (h : b.length ≤ 1000000) : (putTx b).length ≤ b.length + 10 := by
  have := putI_len (v := (b.length : Int)) (by omega)
  unfold putTx
  rw [List.length_append]
  omega
theorem bytes_len {v : SV} (h : GoodS v) (hr : rightS v = true) : (bytesS v).length ≤ 300 := by
  have hk := putI_len h.k64
  have hr2 := hr
  unfold rightS rightK at hr2
  unfold bytesS
  rw [List.length_append]
  by_cases h0 : v.k = 0
  · have := putTx_len (putC v.x) (by have := putC_le h.x; omega)
    have h3 := putC_le h.x
    rw [if_pos h0]; omega
  · by_cases h1 : v.k = 1
    · rw [if_neg h0, if_pos h1] at hr2
      have h2 := of_decide_eq_true hr2
      have h3 : (bytesOf v.s).length = v.s.size := bytesOf_length v.s
      have := putTx_len (bytesOf v.s) (by omega)
      rw [if_neg h0, if_pos h1]; omega
    · by_cases h2 : v.k = 2
      · have := putI_len h.n64
        rw [if_neg h0, if_neg h1, if_pos h2]; omega
      · by_cases h3 : v.k = 3
        · have := flat_le v.q h.q64
          have h4 := h.q
          rw [if_neg h0, if_neg h1, if_neg h2, if_pos h3]; omega
        · rw [if_neg h0, if_neg h1, if_neg h2, if_neg h3]
          simp only [List.length_nil]
          omega
theorem putS_len : ∀ L : List SV, (∀ v ∈ L, GoodS v) → (putS L).length ≤ 300 * L.length
  | [], _ => by simp [putS]
  | v :: L, h => by
    have h1 := putS_len L fun z hz => h z (List.mem_cons_of_mem _ hz)
    have hv := h v List.mem_cons_self
    unfold putS at *
    simp only [List.flatMap_cons, List.length_append, List.length_cons]
    split
    · rename_i hr
      have := bytes_len hv hr
      omega
    · simp only [List.length_nil]; omega
/-- how one is read -/
def stepV (s2 : CS) (v : SV) : Option (CS × SV) := if s2.bad = 0 ∧ rightS v = true then some (s2, v) else none
def stepF (st : CS) : Option (CS × SV) :=
  if (smallF st 5).2 = 0 then
    if readB (textF (smallF st 5).1).2 = true then stepV (textF (smallF st 5).1).1 ⟨0, gotC (textF (smallF st 5).1).2, eS, 0, z4⟩ else none
  else if (smallF st 5).2 = 1 then stepV (textF (smallF st 5).1).1 ⟨1, z12, strOfNums (textF (smallF st 5).1).2, 0, z4⟩
  else if (smallF st 5).2 = 2 then stepV (intF (smallF st 5).1).1 ⟨2, z12, eS, (intF (smallF st 5).1).2, z4⟩
  else if (smallF st 5).2 = 3 then stepV (readA 4 (smallF st 5).1).1 ⟨3, z12, eS, 0, (readA 4 (smallF st 5).1).2⟩
  else stepV (smallF st 5).1 ⟨(smallF st 5).2, z12, eS, 0, z4⟩
def rdS : Nat → CS → List SV → List SV × Int
  | 0, _, L => (L, 0)
  | n + 1, st, L => if st.xs = [] then (L, 0) else match stepF st with
    | none => (L, 11)
    | some (s', v) => rdS n s' (L ++ [v])
def readS (bs : List Int) : List SV × Int := if 65536 < bs.length then ([], 3) else rdS (bs.length + 1) ⟨bs, 0⟩ []
theorem smallF_sh {st : CS} (hb : By st) {most : Int} (h0 : (smallF st most).1.bad = 0) : st.bad = 0 ∧ By (smallF st most).1 ∧ (smallF st most).1.xs.length < st.xs.length := by
  obtain ⟨⟨ys, b⟩, v, e⟩ : ∃ s v, smallF st most = (s, v) := ⟨_, _, rfl⟩
  rw [e] at h0 ⊢
  dsimp only at h0
  subst h0
  obtain ⟨h1, h2, h3⟩ := smallF_bk hb e
  refine ⟨h1, h3, ?_⟩
  rw [h2, List.length_append]
  have := putI_pos v
  dsimp only
  omega
theorem intF_sh {st : CS} (hb : By st) (h0 : (intF st).1.bad = 0) : st.bad = 0 ∧ By (intF st).1 ∧ (intF st).1.xs.length < st.xs.length := by
  obtain ⟨⟨ys, b⟩, v, e⟩ : ∃ s v, intF st = (s, v) := ⟨_, _, rfl⟩
  rw [e] at h0 ⊢
  dsimp only at h0
  subst h0
  obtain ⟨h1, h2, h3⟩ := intF_bk hb e
  refine ⟨h1, h3, ?_⟩
  rw [h2, List.length_append]
  have := putI_pos v
  dsimp only
  omega
theorem textF_sh {st : CS} (hb : By st) (h0 : (textF st).1.bad = 0) : st.bad = 0 ∧ By (textF st).1 ∧ (textF st).1.xs.length < st.xs.length := by
  have hsm := smallF_sh (most := 65536) hb
  unfold textF at *
  split at h0
  · exfalso
    unfold failF at h0
    split at h0
    · exact absurd h0 (by decide)
    · rename_i hne; exact hne h0
  · rename_i hc
    rw [if_neg hc]
    obtain ⟨h1, h2, h3⟩ := hsm h0
    refine ⟨h1, fun x hx => h2 x (List.mem_of_mem_drop hx), ?_⟩
    dsimp only
    rw [List.length_drop]
    omega
theorem textF_mem {st : CS} (hb : By st) : ∀ x ∈ (textF st).2, 0 ≤ x ∧ x ≤ 255 := by
  unfold textF
  split
  · intro x hx; cases hx
  · intro x hx
    exact smallF_by hb 65536 x (List.mem_of_mem_take hx)
theorem textF_by {st : CS} (hb : By st) : By (textF st).1 := by
  unfold textF
  split
  · exact failF_by (smallF_by hb _) _
  · exact fun x hx => smallF_by hb 65536 x (List.mem_of_mem_drop hx)
theorem readA_sh : ∀ (k : Nat) {st : CS}, By st → (readA k st).1.bad = 0 → st.bad = 0 ∧ By (readA k st).1 ∧ (readA k st).1.xs.length ≤ st.xs.length
  | 0, st, hb, h0 => ⟨h0, hb, Nat.le_refl _⟩
  | k + 1, st, hb, h0 => by
    rw [readA_succ] at h0 ⊢
    dsimp only at h0 ⊢
    obtain ⟨h1, h2, h3⟩ := readA_sh k (intF_by hb) h0
    obtain ⟨h4, _, h5⟩ := intF_sh hb h1
    exact ⟨h4, h2, by omega⟩
theorem stepV_some {s2 s' : CS} {v v' : SV} (h : stepV s2 v = some (s', v')) : s' = s2 ∧ v' = v ∧ s2.bad = 0 ∧ rightS v = true := by
  unfold stepV at h
  split at h
  · rename_i hc
    injection h with h
    injection h with h1 h2
    exact ⟨h1.symm, h2.symm, hc.1, hc.2⟩
  · cases h
theorem stepF_lt {st s' : CS} {v : SV} (hb : By st) (h : stepF st = some (s', v)) : s'.bad = 0 ∧ By s' ∧ s'.xs.length < st.xs.length := by
  have hs := smallF_by hb 5
  unfold stepF at h
  split at h
  · split at h
    · obtain ⟨rfl, _, h0, _⟩ := stepV_some h
      obtain ⟨a, b, c⟩ := textF_sh hs h0
      obtain ⟨_, _, f⟩ := smallF_sh hb a
      exact ⟨h0, b, by omega⟩
    · cases h
  · split at h
    · obtain ⟨rfl, _, h0, _⟩ := stepV_some h
      obtain ⟨a, b, c⟩ := textF_sh hs h0
      obtain ⟨_, _, f⟩ := smallF_sh hb a
      exact ⟨h0, b, by omega⟩
    · split at h
      · obtain ⟨rfl, _, h0, _⟩ := stepV_some h
        obtain ⟨a, b, c⟩ := intF_sh hs h0
        obtain ⟨_, _, f⟩ := smallF_sh hb a
        exact ⟨h0, b, by omega⟩
      · split at h
        · obtain ⟨rfl, _, h0, _⟩ := stepV_some h
          obtain ⟨a, b, c⟩ := readA_sh 4 hs h0
          obtain ⟨_, _, f⟩ := smallF_sh hb a
          exact ⟨h0, b, by omega⟩
        · obtain ⟨rfl, _, h0, _⟩ := stepV_some h
          obtain ⟨_, b, f⟩ := smallF_sh hb h0
          exact ⟨h0, b, f⟩
end Go.Proofs.YtdfkfcpkejjlnaaDoor
namespace Go.Proofs.YtdfkfcpkejjlnaaDoor
set_option linter.unusedVariables false
open Go.ChangeShapes Go.WideShapes Go.ChangeAt Go.RowKit Cs
attribute [local go_sem ↓] Go.wp_at_zero Go.wp_at_succ comesTo_value_eq comesTo_skip_eq comesTo_enter_eq

theorem four {q : List Int} (h : q.length = 4) : ∃ a b c d, q = [a, b, c, d] := by
  rcases q with _ | ⟨a, _ | ⟨b, _ | ⟨c, _ | ⟨d, _ | ⟨e, q⟩⟩⟩⟩⟩ <;> simp at h
  exact ⟨a, b, c, d, rfl⟩
/-- a step's cells, written out -/
theorem good_open {v : SV} (h : GoodS v) : ∃ k x0 x1 x2 x3 x4 x5 x6 x7 x8 x9 x10 x11 s n a b c d, v = ⟨k, [x0, x1, x2, x3, x4, x5, x6, x7, x8, x9, x10, x11], s, n, [a, b, c, d]⟩ := by
  obtain ⟨k, x, s, n, q⟩ := v
  obtain ⟨x0, x1, x2, x3, x4, x5, x6, x7, x8, x9, x10, x11, rfl⟩ := twelve h.x.len
  obtain ⟨a, b, c, d, rfl⟩ := four h.q
  exact ⟨k, x0, x1, x2, x3, x4, x5, x6, x7, x8, x9, x10, x11, s, n, a, b, c, d, rfl⟩
set_option maxRecDepth 100000 in
set_option maxHeartbeats 2000000 in
theorem right_s {v : SV} (h : GoodS v) (w : World) : Calls Tryd.prog 7 #[.agg (sC v).toArray] w fun e w' => e = .returned (.bool (rightS v)) ∧ Below w.heap.size w w' := by
  have hx := h.x
  obtain ⟨k, x0, x1, x2, x3, x4, x5, x6, x7, x8, x9, x10, x11, s, n, a, b, c, d, rfl⟩ := good_open h
  have KR := Lib.hid (fun W => right_c hx W)
  have HRK := Lib.hid (show rightS ⟨k, [x0, x1, x2, x3, x4, x5, x6, x7, x8, x9, x10, x11], s, n, [a, b, c, d]⟩ = if k = 0 then rightL [x0, x1, x2, x3, x4, x5, x6, x7, x8, x9, x10, x11] else if k = 1 then decide (s.size ≤ 264) else decide (0 ≤ k ∧ k ≤ 5) from rfl)
  generalize rightS ⟨k, [x0, x1, x2, x3, x4, x5, x6, x7, x8, x9, x10, x11], s, n, [a, b, c, d]⟩ = r at *
  generalize rightL [x0, x1, x2, x3, x4, x5, x6, x7, x8, x9, x10, x11] = rl at *
  obtain ⟨hb, hhb⟩ : ∃ hb, hb = (x11 == 1) := ⟨_, rfl⟩
  have KR2 := Lib.hid (show ∀ W, Calls Tryd.prog 17 #[.agg #[.int .i64 x0, .int .i64 x1, .int .i64 x2, .int .i64 x3, .int .i64 x4, .int .i64 x5, .int .i64 x6, .int .i64 x7, .int .i64 x8, .int .i64 x9, .int .i64 x10, .bool hb]] W fun e w' => e = .returned (.bool rl) ∧ Below W.heap.size W w' from by rw [hhb]; exact KR.out)
  show Calls Tryd.prog 7 #[.agg #[.int .i64 k, .int .i64 x0, .int .i64 x1, .int .i64 x2, .int .i64 x3, .int .i64 x4, .int .i64 x5, .int .i64 x6, .int .i64 x7, .int .i64 x8, .int .i64 x9, .int .i64 x10, .bool (x11 == 1), .string s, .int .i64 n, .int .i64 a, .int .i64 b, .int .i64 c, .int .i64 d]] w _
  rw [← hhb]
  clear h hx KR hhb
  have HB1 := Lib.hid (below_alloc (Below.refl _ w) (.cells #[.int .i64 k, .int .i64 x0, .int .i64 x1, .int .i64 x2, .int .i64 x3, .int .i64 x4, .int .i64 x5, .int .i64 x6, .int .i64 x7, .int .i64 x8, .int .i64 x9, .int .i64 x10, .bool hb, .string s, .int .i64 n, .int .i64 a, .int .i64 b, .int .i64 c, .int .i64 d] 29))
  have HN1 := Lib.hid (World.alloc_heap_new w (.cells #[.int .i64 k, .int .i64 x0, .int .i64 x1, .int .i64 x2, .int .i64 x3, .int .i64 x4, .int .i64 x5, .int .i64 x6, .int .i64 x7, .int .i64 x8, .int .i64 x9, .int .i64 x10, .bool hb, .string s, .int .i64 n, .int .i64 a, .int .i64 b, .int .i64 c, .int .i64 d] 29))
  go_enter Tryd.func7, Tryd.ntmps7
  go_upto_region 1 with fail
  generalize w.alloc (.cells #[.int .i64 k, .int .i64 x0, .int .i64 x1, .int .i64 x2, .int .i64 x3, .int .i64 x4, .int .i64 x5, .int .i64 x6, .int .i64 x7, .int .i64 x8, .int .i64 x9, .int .i64 x10, .bool hb, .string s, .int .i64 n, .int .i64 a, .int .i64 b, .int .i64 c, .int .i64 d] 29) = W1 at *
  obtain ⟨p, hp⟩ : ∃ p, p = w.heap.size := ⟨_, rfl⟩
  rw [← hp] at HN1 ⊢
  clear hp
  have c0 : W1.cell? ⟨p, 0, none⟩ = some (.int .i64 k) := cell_of_block (o := 0) HN1.out rfl
  have c1 : W1.cell? ⟨p, 1, none⟩ = some (.int .i64 x0) := cell_of_block (o := 1) HN1.out rfl
  have c2 : W1.cell? ⟨p, 2, none⟩ = some (.int .i64 x1) := cell_of_block (o := 2) HN1.out rfl
  have c3 : W1.cell? ⟨p, 3, none⟩ = some (.int .i64 x2) := cell_of_block (o := 3) HN1.out rfl
  have c4 : W1.cell? ⟨p, 4, none⟩ = some (.int .i64 x3) := cell_of_block (o := 4) HN1.out rfl
  have c5 : W1.cell? ⟨p, 5, none⟩ = some (.int .i64 x4) := cell_of_block (o := 5) HN1.out rfl
  have c6 : W1.cell? ⟨p, 6, none⟩ = some (.int .i64 x5) := cell_of_block (o := 6) HN1.out rfl
  have c7 : W1.cell? ⟨p, 7, none⟩ = some (.int .i64 x6) := cell_of_block (o := 7) HN1.out rfl
  have c8 : W1.cell? ⟨p, 8, none⟩ = some (.int .i64 x7) := cell_of_block (o := 8) HN1.out rfl
  have c9 : W1.cell? ⟨p, 9, none⟩ = some (.int .i64 x8) := cell_of_block (o := 9) HN1.out rfl
  have c10 : W1.cell? ⟨p, 10, none⟩ = some (.int .i64 x9) := cell_of_block (o := 10) HN1.out rfl
  have c11 : W1.cell? ⟨p, 11, none⟩ = some (.int .i64 x10) := cell_of_block (o := 11) HN1.out rfl
  have c12 : W1.cell? ⟨p, 12, none⟩ = some (.bool hb) := cell_of_block (o := 12) HN1.out rfl
  have c13 : W1.cell? ⟨p, 13, none⟩ = some (.string s) := cell_of_block (o := 13) HN1.out rfl
  have c14 : W1.cell? ⟨p, 14, none⟩ = some (.int .i64 n) := cell_of_block (o := 14) HN1.out rfl
  have c15 : W1.cell? ⟨p, 15, none⟩ = some (.int .i64 a) := cell_of_block (o := 15) HN1.out rfl
  have c16 : W1.cell? ⟨p, 16, none⟩ = some (.int .i64 b) := cell_of_block (o := 16) HN1.out rfl
  have c17 : W1.cell? ⟨p, 17, none⟩ = some (.int .i64 c) := cell_of_block (o := 17) HN1.out rfl
  have c18 : W1.cell? ⟨p, 18, none⟩ = some (.int .i64 d) := cell_of_block (o := 18) HN1.out rfl
  by_cases h0 : k = 0
  · subst h0
    have HR := Lib.hid (show r = rl from by rw [HRK.out, if_pos rfl])
    clear HRK
    go_wp2_with fail
    refine (KR2.out W1).mono ?_
    rintro e w2 ⟨rfl, hb2⟩
    have HB2 := Lib.hid (below_next HB1.out hb2)
    clear hb2
    go_wp2_with fail
    go_ret
    rw [HR.out]
    exact ⟨rfl, HB2.out⟩
  · have e0 : (k == 0) = false := by simpa using h0
    by_cases h1 : k = 1
    · subst h1
      have HR := Lib.hid (show r = decide (s.size ≤ 264) from by rw [HRK.out, if_neg (by decide), if_pos rfl])
      clear HRK h0 e0
      go_wp2_with fail
      go_ret
      rw [HR.out]
      exact ⟨by first | rfl | (simp; done) | (simp; omega), HB1.out⟩
    · have e1 : (k == 1) = false := by simpa using h1
      have HR := Lib.hid (show r = decide (0 ≤ k ∧ k ≤ 5) from by rw [HRK.out, if_neg h0, if_neg h1])
      clear HRK h0 h1
      by_cases h2 : 0 ≤ k
      · have d2 : decide (0 ≤ k) = true := decide_eq_true h2
        go_wp2_with fail
        go_ret
        rw [HR.out]
        exact ⟨by simp [h2], HB1.out⟩
      · have d2 : decide (0 ≤ k) = false := decide_eq_false h2
        have d3 : decide (0 ≤ k ∧ k ≤ 5) = false := decide_eq_false (by omega)
        rw [d3] at HR
        clear d3
        go_wp2_with fail
        go_ret
        rw [HR.out]
        exact ⟨rfl, HB1.out⟩
set_option maxRecDepth 100000 in
set_option maxHeartbeats 4000000 in
theorem clean_s {v : SV} (h : GoodS v) (w : World) : Calls Tryd.prog 9 #[.agg (sC v).toArray] w fun e w' => e = .returned (.agg (sC (cleanS v)).toArray) ∧ Below w.heap.size w w' := by
  have hx := h.x
  have hy := cleanL_cmd h.x
  obtain ⟨k, x0, x1, x2, x3, x4, x5, x6, x7, x8, x9, x10, x11, s, n, a, b, c, d, rfl⟩ := good_open h
  have kr := fun W => clean_c hx W
  obtain ⟨R, hR⟩ : ∃ R, R = sC (cleanS ⟨k, [x0, x1, x2, x3, x4, x5, x6, x7, x8, x9, x10, x11], s, n, [a, b, c, d]⟩) := ⟨_, rfl⟩
  rw [← hR]
  have HRE := Lib.hid hR
  clear hR
  unfold cleanS at HRE
  dsimp only at HRE hy
  generalize cleanL [x0, x1, x2, x3, x4, x5, x6, x7, x8, x9, x10, x11] = y at *
  obtain ⟨y0, y1, y2, y3, y4, y5, y6, y7, y8, y9, y10, y11, rfl⟩ := twelve hy.len
  obtain ⟨hb, hhb⟩ : ∃ hb, hb = (x11 == 1) := ⟨_, rfl⟩
  have KR2 := Lib.hid (show ∀ W, Calls Tryd.prog 19 #[.agg #[.int .i64 x0, .int .i64 x1, .int .i64 x2, .int .i64 x3, .int .i64 x4, .int .i64 x5, .int .i64 x6, .int .i64 x7, .int .i64 x8, .int .i64 x9, .int .i64 x10, .bool hb]] W fun e w' => e = .returned (.agg #[.int .i64 y0, .int .i64 y1, .int .i64 y2, .int .i64 y3, .int .i64 y4, .int .i64 y5, .int .i64 y6, .int .i64 y7, .int .i64 y8, .int .i64 y9, .int .i64 y10, .bool (y11 == 1)]) ∧ Below W.heap.size W w' from by rw [hhb]; exact kr)
  show Calls Tryd.prog 9 #[.agg #[.int .i64 k, .int .i64 x0, .int .i64 x1, .int .i64 x2, .int .i64 x3, .int .i64 x4, .int .i64 x5, .int .i64 x6, .int .i64 x7, .int .i64 x8, .int .i64 x9, .int .i64 x10, .bool (x11 == 1), .string s, .int .i64 n, .int .i64 a, .int .i64 b, .int .i64 c, .int .i64 d]] w _
  rw [← hhb]
  clear h hx hy kr hhb
  have HB0 := Lib.hid (below_alloc (Below.refl _ w) (.cells #[.int .i64 k, .int .i64 x0, .int .i64 x1, .int .i64 x2, .int .i64 x3, .int .i64 x4, .int .i64 x5, .int .i64 x6, .int .i64 x7, .int .i64 x8, .int .i64 x9, .int .i64 x10, .bool hb, .string s, .int .i64 n, .int .i64 a, .int .i64 b, .int .i64 c, .int .i64 d] 29))
  have HN0 := Lib.hid (World.alloc_heap_new w (.cells #[.int .i64 k, .int .i64 x0, .int .i64 x1, .int .i64 x2, .int .i64 x3, .int .i64 x4, .int .i64 x5, .int .i64 x6, .int .i64 x7, .int .i64 x8, .int .i64 x9, .int .i64 x10, .bool hb, .string s, .int .i64 n, .int .i64 a, .int .i64 b, .int .i64 c, .int .i64 d] 29))
  have HS0 := Lib.hid (show (w.alloc (.cells #[.int .i64 k, .int .i64 x0, .int .i64 x1, .int .i64 x2, .int .i64 x3, .int .i64 x4, .int .i64 x5, .int .i64 x6, .int .i64 x7, .int .i64 x8, .int .i64 x9, .int .i64 x10, .bool hb, .string s, .int .i64 n, .int .i64 a, .int .i64 b, .int .i64 c, .int .i64 d] 29)).heap.size = w.heap.size + 1 from by simp)
  generalize hW0 : w.alloc (.cells #[.int .i64 k, .int .i64 x0, .int .i64 x1, .int .i64 x2, .int .i64 x3, .int .i64 x4, .int .i64 x5, .int .i64 x6, .int .i64 x7, .int .i64 x8, .int .i64 x9, .int .i64 x10, .bool hb, .string s, .int .i64 n, .int .i64 a, .int .i64 b, .int .i64 c, .int .i64 d] 29) = W0 at *
  have HB1 := Lib.hid (below_next HB0.out (below_alloc (Below.refl _ W0) (.cells #[.int .i64 0, .int .i64 0, .int .i64 0, .int .i64 0, .int .i64 0, .int .i64 0, .int .i64 0, .int .i64 0, .int .i64 0, .int .i64 0, .int .i64 0, .int .i64 0, .bool false, .string ⟨#[]⟩, .int .i64 0, .int .i64 0, .int .i64 0, .int .i64 0, .int .i64 0] 29)))
  have HN1 := Lib.hid (((below_alloc (Below.refl _ W0) (.cells #[.int .i64 0, .int .i64 0, .int .i64 0, .int .i64 0, .int .i64 0, .int .i64 0, .int .i64 0, .int .i64 0, .int .i64 0, .int .i64 0, .int .i64 0, .int .i64 0, .bool false, .string ⟨#[]⟩, .int .i64 0, .int .i64 0, .int .i64 0, .int .i64 0, .int .i64 0] 29)).block w.heap.size (by rw [HS0.out]; omega)).trans HN0.out)
  have HZ1 := Lib.hid (show (W0.alloc (.cells #[.int .i64 0, .int .i64 0, .int .i64 0, .int .i64 0, .int .i64 0, .int .i64 0, .int .i64 0, .int .i64 0, .int .i64 0, .int .i64 0, .int .i64 0, .int .i64 0, .bool false, .string ⟨#[]⟩, .int .i64 0, .int .i64 0, .int .i64 0, .int .i64 0, .int .i64 0] 29)).heap[w.heap.size + 1]? = some (.cells #[.int .i64 0, .int .i64 0, .int .i64 0, .int .i64 0, .int .i64 0, .int .i64 0, .int .i64 0, .int .i64 0, .int .i64 0, .int .i64 0, .int .i64 0, .int .i64 0, .bool false, .string ⟨#[]⟩, .int .i64 0, .int .i64 0, .int .i64 0, .int .i64 0, .int .i64 0] 29 (0, 0)) from by rw [← HS0.out]; exact World.alloc_heap_new W0 (.cells #[.int .i64 0, .int .i64 0, .int .i64 0, .int .i64 0, .int .i64 0, .int .i64 0, .int .i64 0, .int .i64 0, .int .i64 0, .int .i64 0, .int .i64 0, .int .i64 0, .bool false, .string ⟨#[]⟩, .int .i64 0, .int .i64 0, .int .i64 0, .int .i64 0, .int .i64 0] 29))
  subst hW0
  go_enter Tryd.func9, Tryd.ntmps9
  go_upto_region 1 with fail
  generalize (w.alloc (.cells #[.int .i64 k, .int .i64 x0, .int .i64 x1, .int .i64 x2, .int .i64 x3, .int .i64 x4, .int .i64 x5, .int .i64 x6, .int .i64 x7, .int .i64 x8, .int .i64 x9, .int .i64 x10, .bool hb, .string s, .int .i64 n, .int .i64 a, .int .i64 b, .int .i64 c, .int .i64 d] 29)).alloc (.cells #[.int .i64 0, .int .i64 0, .int .i64 0, .int .i64 0, .int .i64 0, .int .i64 0, .int .i64 0, .int .i64 0, .int .i64 0, .int .i64 0, .int .i64 0, .int .i64 0, .bool false, .string ⟨#[]⟩, .int .i64 0, .int .i64 0, .int .i64 0, .int .i64 0, .int .i64 0] 29) = W1 at *
  obtain ⟨p, hp⟩ : ∃ p, p = w.heap.size := ⟨_, rfl⟩
  have HPW := Lib.hid hp
  rw [← hp] at HN1 HZ1 ⊢
  clear hp HB0 HN0 HS0
  have c0 : W1.cell? ⟨p, 0, none⟩ = some (.int .i64 k) := cell_of_block (o := 0) HN1.out rfl
  have c1 : W1.cell? ⟨p, 1, none⟩ = some (.int .i64 x0) := cell_of_block (o := 1) HN1.out rfl
  have c2 : W1.cell? ⟨p, 2, none⟩ = some (.int .i64 x1) := cell_of_block (o := 2) HN1.out rfl
  have c3 : W1.cell? ⟨p, 3, none⟩ = some (.int .i64 x2) := cell_of_block (o := 3) HN1.out rfl
  have c4 : W1.cell? ⟨p, 4, none⟩ = some (.int .i64 x3) := cell_of_block (o := 4) HN1.out rfl
  have c5 : W1.cell? ⟨p, 5, none⟩ = some (.int .i64 x4) := cell_of_block (o := 5) HN1.out rfl
  have c6 : W1.cell? ⟨p, 6, none⟩ = some (.int .i64 x5) := cell_of_block (o := 6) HN1.out rfl
  have c7 : W1.cell? ⟨p, 7, none⟩ = some (.int .i64 x6) := cell_of_block (o := 7) HN1.out rfl
  have c8 : W1.cell? ⟨p, 8, none⟩ = some (.int .i64 x7) := cell_of_block (o := 8) HN1.out rfl
  have c9 : W1.cell? ⟨p, 9, none⟩ = some (.int .i64 x8) := cell_of_block (o := 9) HN1.out rfl
  have c10 : W1.cell? ⟨p, 10, none⟩ = some (.int .i64 x9) := cell_of_block (o := 10) HN1.out rfl
  have c11 : W1.cell? ⟨p, 11, none⟩ = some (.int .i64 x10) := cell_of_block (o := 11) HN1.out rfl
  have c12 : W1.cell? ⟨p, 12, none⟩ = some (.bool hb) := cell_of_block (o := 12) HN1.out rfl
  have c13 : W1.cell? ⟨p, 13, none⟩ = some (.string s) := cell_of_block (o := 13) HN1.out rfl
  have c14 : W1.cell? ⟨p, 14, none⟩ = some (.int .i64 n) := cell_of_block (o := 14) HN1.out rfl
  have c15 : W1.cell? ⟨p, 15, none⟩ = some (.int .i64 a) := cell_of_block (o := 15) HN1.out rfl
  have c16 : W1.cell? ⟨p, 16, none⟩ = some (.int .i64 b) := cell_of_block (o := 16) HN1.out rfl
  have c17 : W1.cell? ⟨p, 17, none⟩ = some (.int .i64 c) := cell_of_block (o := 17) HN1.out rfl
  have c18 : W1.cell? ⟨p, 18, none⟩ = some (.int .i64 d) := cell_of_block (o := 18) HN1.out rfl
  by_cases h0 : k = 0
  · subst h0
    have HRR := Lib.hid (show R = [.int .i64 0, .int .i64 y0, .int .i64 y1, .int .i64 y2, .int .i64 y3, .int .i64 y4, .int .i64 y5, .int .i64 y6, .int .i64 y7, .int .i64 y8, .int .i64 y9, .int .i64 y10, .bool (y11 == 1), .string ⟨#[]⟩, .int .i64 0, .int .i64 0, .int .i64 0, .int .i64 0, .int .i64 0] from by rw [HRE.out, if_pos rfl]; rfl)
    clear HRE
    go_wp2_with fail
    refine (KR2.out W1).mono ?_
    rintro e w2 ⟨rfl, hb2⟩
    have HB2 := Lib.hid (below_next HB1.out hb2)
    have HZ2 := Lib.hid ((hb2.block (p + 1) (Array.getElem?_eq_some_iff.1 HZ1.out).1).trans HZ1.out)
    clear hb2 HN1 HZ1 HB1 c0 c1 c2 c3 c4 c5 c6 c7 c8 c9 c10 c11 c12 c13 c14 c15 c16 c17 c18
    go_wp2_with (refine wpList_store_all rfl 29 _ _ rfl (p + 1) (T := 29) [.int .i64 0, .int .i64 y0, .int .i64 y1, .int .i64 y2, .int .i64 y3, .int .i64 y4, .int .i64 y5, .int .i64 y6, .int .i64 y7, .int .i64 y8, .int .i64 y9, .int .i64 y10, .bool (y11 == 1), .string ⟨#[]⟩, .int .i64 0, .int .i64 0, .int .i64 0, .int .i64 0, .int .i64 0] (by first | (go_simp; done) | (go_simp; rfl)) (by first | (go_simp; done) | (go_simp; rfl)) HZ2.out rfl (by kernel_rfl) rfl ?_; intro V hV; have HV := Lib.hid hV; have HB4 := Lib.hid (hV.below HB2.out (by have := HPW.out; omega)); clear hV)
    exact bodyPost_ret (results_all [.int .i64 0, .int .i64 y0, .int .i64 y1, .int .i64 y2, .int .i64 y3, .int .i64 y4, .int .i64 y5, .int .i64 y6, .int .i64 y7, .int .i64 y8, .int .i64 y9, .int .i64 y10, .bool (y11 == 1), .string ⟨#[]⟩, .int .i64 0, .int .i64 0, .int .i64 0, .int .i64 0, .int .i64 0] _ Tryd.results9 (by go_simp) HV.out.there Tryd.underlying29 rfl (by kernel_rfl)) rfl ⟨by rw [HRR.out], HB4.out⟩
  · have e0 : (k == 0) = false := by simpa using h0
    by_cases h1 : k = 1
    · subst h1
      have HRR := Lib.hid (show R = [.int .i64 1, .int .i64 0, .int .i64 0, .int .i64 0, .int .i64 0, .int .i64 0, .int .i64 0, .int .i64 0, .int .i64 0, .int .i64 0, .int .i64 0, .int .i64 0, .bool false, .string s, .int .i64 0, .int .i64 0, .int .i64 0, .int .i64 0, .int .i64 0] from by rw [HRE.out, if_neg (by decide), if_pos rfl]; rfl)
      clear HRE e0
      go_wp2_with (refine wpList_store_all rfl 29 _ _ rfl (p + 1) (T := 29) [.int .i64 1, .int .i64 0, .int .i64 0, .int .i64 0, .int .i64 0, .int .i64 0, .int .i64 0, .int .i64 0, .int .i64 0, .int .i64 0, .int .i64 0, .int .i64 0, .bool false, .string s, .int .i64 0, .int .i64 0, .int .i64 0, .int .i64 0, .int .i64 0] (by first | (go_simp; done) | (go_simp; rfl)) (by first | (go_simp; done) | (go_simp; rfl)) HZ1.out rfl (by kernel_rfl) rfl ?_; intro V hV; have HV := Lib.hid hV; have HB4 := Lib.hid (hV.below HB1.out (by have := HPW.out; omega)); clear hV)
      exact bodyPost_ret (results_all [.int .i64 1, .int .i64 0, .int .i64 0, .int .i64 0, .int .i64 0, .int .i64 0, .int .i64 0, .int .i64 0, .int .i64 0, .int .i64 0, .int .i64 0, .int .i64 0, .bool false, .string s, .int .i64 0, .int .i64 0, .int .i64 0, .int .i64 0, .int .i64 0] _ Tryd.results9 (by go_simp) HV.out.there Tryd.underlying29 rfl (by kernel_rfl)) rfl ⟨by rw [HRR.out], HB4.out⟩
    · have e1 : (k == 1) = false := by simpa using h1
      by_cases h2 : k = 2
      · subst h2
        have HRR := Lib.hid (show R = [.int .i64 2, .int .i64 0, .int .i64 0, .int .i64 0, .int .i64 0, .int .i64 0, .int .i64 0, .int .i64 0, .int .i64 0, .int .i64 0, .int .i64 0, .int .i64 0, .bool false, .string ⟨#[]⟩, .int .i64 n, .int .i64 0, .int .i64 0, .int .i64 0, .int .i64 0] from by rw [HRE.out, if_neg (by decide), if_neg (by decide), if_pos rfl]; rfl)
        clear HRE e0 e1
        go_wp2_with (refine wpList_store_all rfl 29 _ _ rfl (p + 1) (T := 29) [.int .i64 2, .int .i64 0, .int .i64 0, .int .i64 0, .int .i64 0, .int .i64 0, .int .i64 0, .int .i64 0, .int .i64 0, .int .i64 0, .int .i64 0, .int .i64 0, .bool false, .string ⟨#[]⟩, .int .i64 n, .int .i64 0, .int .i64 0, .int .i64 0, .int .i64 0] (by first | (go_simp; done) | (go_simp; rfl)) (by first | (go_simp; done) | (go_simp; rfl)) HZ1.out rfl (by kernel_rfl) rfl ?_; intro V hV; have HV := Lib.hid hV; have HB4 := Lib.hid (hV.below HB1.out (by have := HPW.out; omega)); clear hV)
        exact bodyPost_ret (results_all [.int .i64 2, .int .i64 0, .int .i64 0, .int .i64 0, .int .i64 0, .int .i64 0, .int .i64 0, .int .i64 0, .int .i64 0, .int .i64 0, .int .i64 0, .int .i64 0, .bool false, .string ⟨#[]⟩, .int .i64 n, .int .i64 0, .int .i64 0, .int .i64 0, .int .i64 0] _ Tryd.results9 (by go_simp) HV.out.there Tryd.underlying29 rfl (by kernel_rfl)) rfl ⟨by rw [HRR.out], HB4.out⟩
      · have e2 : (k == 2) = false := by simpa using h2
        by_cases h3 : k = 3
        · subst h3
          have HRR := Lib.hid (show R = [.int .i64 3, .int .i64 0, .int .i64 0, .int .i64 0, .int .i64 0, .int .i64 0, .int .i64 0, .int .i64 0, .int .i64 0, .int .i64 0, .int .i64 0, .int .i64 0, .bool false, .string ⟨#[]⟩, .int .i64 0, .int .i64 a, .int .i64 b, .int .i64 c, .int .i64 d] from by rw [HRE.out, if_neg (by decide), if_neg (by decide), if_neg (by decide), if_pos rfl]; rfl)
          clear HRE e0 e1 e2
          go_wp2_with (refine wpList_store_all rfl 29 _ _ rfl (p + 1) (T := 29) [.int .i64 3, .int .i64 0, .int .i64 0, .int .i64 0, .int .i64 0, .int .i64 0, .int .i64 0, .int .i64 0, .int .i64 0, .int .i64 0, .int .i64 0, .int .i64 0, .bool false, .string ⟨#[]⟩, .int .i64 0, .int .i64 a, .int .i64 b, .int .i64 c, .int .i64 d] (by first | (go_simp; done) | (go_simp; rfl)) (by first | (go_simp; done) | (go_simp; rfl)) HZ1.out rfl (by kernel_rfl) rfl ?_; intro V hV; have HV := Lib.hid hV; have HB4 := Lib.hid (hV.below HB1.out (by have := HPW.out; omega)); clear hV)
          exact bodyPost_ret (results_all [.int .i64 3, .int .i64 0, .int .i64 0, .int .i64 0, .int .i64 0, .int .i64 0, .int .i64 0, .int .i64 0, .int .i64 0, .int .i64 0, .int .i64 0, .int .i64 0, .bool false, .string ⟨#[]⟩, .int .i64 0, .int .i64 a, .int .i64 b, .int .i64 c, .int .i64 d] _ Tryd.results9 (by go_simp) HV.out.there Tryd.underlying29 rfl (by kernel_rfl)) rfl ⟨by rw [HRR.out], HB4.out⟩
        · have e3 : (k == 3) = false := by simpa using h3
          by_cases h4 : k = 4
          · subst h4
            have HRR := Lib.hid (show R = [.int .i64 4, .int .i64 0, .int .i64 0, .int .i64 0, .int .i64 0, .int .i64 0, .int .i64 0, .int .i64 0, .int .i64 0, .int .i64 0, .int .i64 0, .int .i64 0, .bool false, .string ⟨#[]⟩, .int .i64 0, .int .i64 0, .int .i64 0, .int .i64 0, .int .i64 0] from by rw [HRE.out, if_neg (by decide), if_neg (by decide), if_neg (by decide), if_neg (by decide), if_pos (.inl rfl)]; rfl)
            clear HRE e0 e1 e2 e3
            go_wp2_with (refine wpList_store_all rfl 29 _ _ rfl (p + 1) (T := 29) [.int .i64 4, .int .i64 0, .int .i64 0, .int .i64 0, .int .i64 0, .int .i64 0, .int .i64 0, .int .i64 0, .int .i64 0, .int .i64 0, .int .i64 0, .int .i64 0, .bool false, .string ⟨#[]⟩, .int .i64 0, .int .i64 0, .int .i64 0, .int .i64 0, .int .i64 0] (by first | (go_simp; done) | (go_simp; rfl)) (by first | (go_simp; done) | (go_simp; rfl)) HZ1.out rfl (by kernel_rfl) rfl ?_; intro V hV; have HV := Lib.hid hV; have HB4 := Lib.hid (hV.below HB1.out (by have := HPW.out; omega)); clear hV)
            exact bodyPost_ret (results_all [.int .i64 4, .int .i64 0, .int .i64 0, .int .i64 0, .int .i64 0, .int .i64 0, .int .i64 0, .int .i64 0, .int .i64 0, .int .i64 0, .int .i64 0, .int .i64 0, .bool false, .string ⟨#[]⟩, .int .i64 0, .int .i64 0, .int .i64 0, .int .i64 0, .int .i64 0] _ Tryd.results9 (by go_simp) HV.out.there Tryd.underlying29 rfl (by kernel_rfl)) rfl ⟨by rw [HRR.out], HB4.out⟩
          · have e4 : (k == 4) = false := by simpa using h4
            by_cases h5 : k = 5
            · subst h5
              have HRR := Lib.hid (show R = [.int .i64 5, .int .i64 0, .int .i64 0, .int .i64 0, .int .i64 0, .int .i64 0, .int .i64 0, .int .i64 0, .int .i64 0, .int .i64 0, .int .i64 0, .int .i64 0, .bool false, .string ⟨#[]⟩, .int .i64 0, .int .i64 0, .int .i64 0, .int .i64 0, .int .i64 0] from by rw [HRE.out, if_neg (by decide), if_neg (by decide), if_neg (by decide), if_neg (by decide), if_pos (.inr rfl)]; rfl)
              clear HRE e0 e1 e2 e3 e4
              go_wp2_with (refine wpList_store_all rfl 29 _ _ rfl (p + 1) (T := 29) [.int .i64 5, .int .i64 0, .int .i64 0, .int .i64 0, .int .i64 0, .int .i64 0, .int .i64 0, .int .i64 0, .int .i64 0, .int .i64 0, .int .i64 0, .int .i64 0, .bool false, .string ⟨#[]⟩, .int .i64 0, .int .i64 0, .int .i64 0, .int .i64 0, .int .i64 0] (by first | (go_simp; done) | (go_simp; rfl)) (by first | (go_simp; done) | (go_simp; rfl)) HZ1.out rfl (by kernel_rfl) rfl ?_; intro V hV; have HV := Lib.hid hV; have HB4 := Lib.hid (hV.below HB1.out (by have := HPW.out; omega)); clear hV)
              exact bodyPost_ret (results_all [.int .i64 5, .int .i64 0, .int .i64 0, .int .i64 0, .int .i64 0, .int .i64 0, .int .i64 0, .int .i64 0, .int .i64 0, .int .i64 0, .int .i64 0, .int .i64 0, .bool false, .string ⟨#[]⟩, .int .i64 0, .int .i64 0, .int .i64 0, .int .i64 0, .int .i64 0] _ Tryd.results9 (by go_simp) HV.out.there Tryd.underlying29 rfl (by kernel_rfl)) rfl ⟨by rw [HRR.out], HB4.out⟩
            · have e5 : (k == 5) = false := by simpa using h5
              have HRR := Lib.hid (show R = [.int .i64 0, .int .i64 0, .int .i64 0, .int .i64 0, .int .i64 0, .int .i64 0, .int .i64 0, .int .i64 0, .int .i64 0, .int .i64 0, .int .i64 0, .int .i64 0, .bool false, .string ⟨#[]⟩, .int .i64 0, .int .i64 0, .int .i64 0, .int .i64 0, .int .i64 0] from by rw [HRE.out, if_neg h0, if_neg h1, if_neg h2, if_neg h3, if_neg (by omega)]; rfl)
              clear HRE h0 h1 h2 h3 h4 h5
              go_wp2_with (refine wpList_store_all rfl 29 _ _ rfl (p + 1) (T := 29) [.int .i64 0, .int .i64 0, .int .i64 0, .int .i64 0, .int .i64 0, .int .i64 0, .int .i64 0, .int .i64 0, .int .i64 0, .int .i64 0, .int .i64 0, .int .i64 0, .bool false, .string ⟨#[]⟩, .int .i64 0, .int .i64 0, .int .i64 0, .int .i64 0, .int .i64 0] (by first | (go_simp; done) | (go_simp; rfl)) (by first | (go_simp; done) | (go_simp; rfl)) HZ1.out rfl (by kernel_rfl) rfl ?_; intro V hV; have HV := Lib.hid hV; have HB4 := Lib.hid (hV.below HB1.out (by have := HPW.out; omega)); clear hV)
              exact bodyPost_ret (results_all [.int .i64 0, .int .i64 0, .int .i64 0, .int .i64 0, .int .i64 0, .int .i64 0, .int .i64 0, .int .i64 0, .int .i64 0, .int .i64 0, .int .i64 0, .int .i64 0, .bool false, .string ⟨#[]⟩, .int .i64 0, .int .i64 0, .int .i64 0, .int .i64 0, .int .i64 0] _ Tryd.results9 (by go_simp) HV.out.there Tryd.underlying29 rfl (by kernel_rfl)) rfl ⟨by rw [HRR.out], HB4.out⟩
end Go.Proofs.YtdfkfcpkejjlnaaDoor
namespace Go.Proofs.YtdfkfcpkejjlnaaDoor
set_option linter.unusedVariables false
open Go.RowKit Cs

theorem By.bytes {st : CS} (h : By st) : st.bytes := by
  unfold CS.bytes; exact h
theorem cmd_got {bs : List Int} (hb : ∀ x ∈ bs, 0 ≤ x ∧ x ≤ 255) : Cmd12 (gotC bs) := by
  cases h : readB bs with
  | false => rw [gotC_no h]; exact zeros_cmd
  | true => rw [gotC_yes h]; exact (readB_back hb h).2.1
theorem i64_z4 : ∀ y ∈ z4, i64S y := fun y hy => by simp [z4] at hy; subst hy; unfold i64S; omega
theorem readA_i64 : ∀ (k : Nat) {st : CS}, By st → ∀ y ∈ (readA k st).2, i64S y
  | 0, _, _, y, hy => by cases hy
  | k + 1, st, hb, y, hy => by
    rw [readA_succ] at hy
    rcases List.mem_cons.1 hy with rfl | h
    · exact intF_in (By.bytes hb)
    · exact readA_i64 k (intF_by hb) y h
theorem good0 {bs : List Int} (hb : ∀ x ∈ bs, 0 ≤ x ∧ x ≤ 255) : GoodS ⟨0, gotC bs, eS, 0, z4⟩ := ⟨cmd_got hb, rfl, by unfold i64S; dsimp only; omega, by unfold i64S; dsimp only; omega, i64_z4⟩
theorem good1 (s : ByteArray) : GoodS ⟨1, z12, s, 0, z4⟩ := ⟨cmd_z12, rfl, by unfold i64S; dsimp only; omega, by unfold i64S; dsimp only; omega, i64_z4⟩
theorem good2 {n : Int} (h : i64S n) : GoodS ⟨2, z12, eS, n, z4⟩ := ⟨cmd_z12, rfl, by unfold i64S; dsimp only; omega, h, i64_z4⟩
theorem good3 {q : List Int} (h4 : q.length = 4) (h : ∀ y ∈ q, i64S y) : GoodS ⟨3, z12, eS, 0, q⟩ := ⟨cmd_z12, h4, by unfold i64S; dsimp only; omega, by unfold i64S; dsimp only; omega, h⟩
theorem good4 {k : Int} (h : i64S k) : GoodS ⟨k, z12, eS, 0, z4⟩ := ⟨cmd_z12, rfl, h, by unfold i64S; dsimp only; omega, i64_z4⟩
theorem i64_in {st : CS} (hb : By st) : i64S (intF st).2 := intF_in (By.bytes hb)
theorem small_i64 {st : CS} : i64S (smallF st 5).2 := by have := smallF_in (st := st) (most := 5) (by decide); unfold i64S; omega
theorem stepF_good {st s' : CS} {v : SV} (hb : By st) (h : stepF st = some (s', v)) : GoodS v ∧ rightS v = true := by
  have hs := smallF_by hb 5
  unfold stepF at h
  split at h
  · split at h
    · obtain ⟨_, rfl, _, hr⟩ := stepV_some h
      exact ⟨good0 (textF_mem hs), hr⟩
    · cases h
  · split at h
    · obtain ⟨_, rfl, _, hr⟩ := stepV_some h
      exact ⟨good1 _, hr⟩
    · split at h
      · obtain ⟨_, rfl, _, hr⟩ := stepV_some h
        exact ⟨good2 (i64_in hs), hr⟩
      · split at h
        · obtain ⟨_, rfl, _, hr⟩ := stepV_some h
          exact ⟨good3 (readA_len 4 _) (readA_i64 4 hs), hr⟩
        · obtain ⟨_, rfl, _, hr⟩ := stepV_some h
          exact ⟨good4 small_i64, hr⟩
theorem rdS_good : ∀ (n : Nat) (st : CS) (L : List SV), By st → (∀ v ∈ L, GoodS v ∧ rightS v = true) → ∀ v ∈ (rdS n st L).1, GoodS v ∧ rightS v = true
  | 0, _, _, _, h => h
  | n + 1, st, L, hb, h => by
    unfold rdS
    split
    · exact h
    · split
      · exact h
      · rename_i s' v e
        obtain ⟨h1, h2, _⟩ := stepF_lt hb e
        exact rdS_good n s' _ h2 fun x hx => by
          rcases List.mem_append.1 hx with hx | hx
          · exact h x hx
          · rw [List.mem_singleton.1 hx]; exact stepF_good hb e
theorem readS_good {bs : List Int} (hb : ∀ x ∈ bs, 0 ≤ x ∧ x ≤ 255) : ∀ v ∈ (readS bs).1, GoodS v ∧ rightS v = true := by
  unfold readS
  split
  · intro v hv; cases hv
  · exact rdS_good _ _ _ hb (fun v hv => by cases hv)
theorem rdS_len : ∀ (n : Nat) (st : CS) (L : List SV), By st → (rdS n st L).1.length ≤ L.length + st.xs.length
  | 0, _, _, _ => by unfold rdS; dsimp only; omega
  | n + 1, st, L, hb => by
    unfold rdS
    split
    · dsimp only; omega
    · split
      · dsimp only; omega
      · rename_i s' v e
        obtain ⟨h1, h2, h3⟩ := stepF_lt hb e
        have := rdS_len n s' (L ++ [v]) h2
        rw [List.length_append, List.length_singleton] at this
        omega
theorem readS_len {bs : List Int} (hb : ∀ x ∈ bs, 0 ≤ x ∧ x ≤ 255) : (readS bs).1.length ≤ bs.length := by
  unfold readS
  split
  · simp
  · have := rdS_len (bs.length + 1) ⟨bs, 0⟩ [] hb
    simpa using this
def contS (n : Nat) (L : List SV) (o : Option (CS × SV)) : List SV × Int := match o with | none => (L, 11) | some (s', v) => rdS n s' (L ++ [v])
theorem rdS_step {n : Nat} {st : CS} {L : List SV} (h : st.xs ≠ []) : rdS (n + 1) st L = contS n L (stepF st) := by
  show (if st.xs = [] then (L, (0 : Int)) else _) = _
  rw [if_neg h]
  rfl
theorem rdS_end {n : Nat} {st : CS} {L : List SV} (h : st.xs = []) : rdS (n + 1) st L = (L, 0) := by
  show (if st.xs = [] then (L, (0 : Int)) else _) = _
  rw [if_pos h]
theorem stepV_okk {s : CS} {v : SV} (h : s.bad = 0) (hr : rightS v = true) : stepV s v = some (s, v) := by unfold stepV; rw [if_pos ⟨h, hr⟩]
theorem stepV_nob {s : CS} {v : SV} (h : s.bad ≠ 0) : stepV s v = none := by unfold stepV; rw [if_neg fun hh => h hh.1]
theorem stepV_nor {s : CS} {v : SV} (h : ¬ rightS v = true) : stepV s v = none := by unfold stepV; rw [if_neg fun hh => h hh.2]
theorem readS_big' {bs : List Int} (h : 65536 < bs.length) : readS bs = ([], 3) := by unfold readS; rw [if_pos h]
theorem cmdC_ones {x : List Int} (h : Cmd12 x) : (cmdC x).all (·.oneCell') = true := by
  obtain ⟨x0, x1, x2, x3, x4, x5, x6, x7, x8, x9, x10, x11, rfl⟩ := twelve h.len
  rfl
theorem textF_len {st : CS} (hb : By st) : (textF st).2.length ≤ st.xs.length := by
  have h1 : (smallF st 65536).1.xs.length ≤ st.xs.length := (smallF_suffix st 65536).length_le
  unfold textF
  split
  · simp
  · dsimp only
    rw [List.length_take]
    omega
theorem wrote_fr {b : Nat} {T : TypeId} {cs : Array Value} {w w' : World} (h : WroteTo b T cs w w') : Fr (fun j => j = b) w w' :=
  ⟨h.os, h.tape, h.output, by rw [h.size]; exact Nat.le_refl _, fun j _ hn => h.rest j hn⟩
end Go.Proofs.YtdfkfcpkejjlnaaDoor
namespace Go.Proofs.YtdfkfcpkejjlnaaDoor
set_option linter.unusedVariables false
open Go.ChangeShapes Go.WideShapes Go.ChangeAt Go.RowKit Cs
attribute [local go_sem ↓] Go.wp_at_zero Go.wp_at_succ comesTo_value_eq comesTo_skip_eq comesTo_enter_eq

structure GoodD (v : DV) : Prop where
  x : v.x.length = 12
  q : v.q.length = 4
  x64 : ∀ y ∈ v.x, i64S y
  k64 : i64S v.k
  q64 : ∀ y ∈ v.q, i64S y
theorem good_own {v : SV} (h : GoodS v) : GoodD (ownS v) := by
  refine ⟨h.x.len, ?_, h.x.inb, h.k64, ?_⟩
  · unfold ownS
    dsimp only
    split
    · exact h.q
    · rfl
  · unfold ownS
    dsimp only
    split
    · exact h.q64
    · intro y hy
      simp at hy
      rcases hy with rfl | rfl
      · exact h.n64
      · unfold i64S; omega
theorem goodD_open {v : DV} (h : GoodD v) : ∃ k x0 x1 x2 x3 x4 x5 x6 x7 x8 x9 x10 x11 s a b c d, v = ⟨k, [x0, x1, x2, x3, x4, x5, x6, x7, x8, x9, x10, x11], s, [a, b, c, d]⟩ := by
  obtain ⟨k, x, s, q⟩ := v
  obtain ⟨x0, x1, x2, x3, x4, x5, x6, x7, x8, x9, x10, x11, rfl⟩ := twelve h.x
  obtain ⟨a, b, c, d, rfl⟩ := four h.q
  exact ⟨k, x0, x1, x2, x3, x4, x5, x6, x7, x8, x9, x10, x11, s, a, b, c, d, rfl⟩
set_option maxRecDepth 100000 in
set_option maxHeartbeats 2000000 in
theorem right_d {v : DV} (h : GoodD v) (w : World) : Calls Tryd.prog 8 #[.agg (dC v).toArray] w fun e w' => e = .returned (.bool (rightK v.k v.x v.s)) ∧ Below w.heap.size w w' := by
  have hx := h.x
  obtain ⟨k, x0, x1, x2, x3, x4, x5, x6, x7, x8, x9, x10, x11, s, a, b, c, d, rfl⟩ := goodD_open h
  have KR := Lib.hid (fun W => rright_any hx W)
  have HRK := Lib.hid (show rightK k [x0, x1, x2, x3, x4, x5, x6, x7, x8, x9, x10, x11] s = if k = 0 then rightL [x0, x1, x2, x3, x4, x5, x6, x7, x8, x9, x10, x11] else if k = 1 then decide (s.size ≤ 264) else decide (0 ≤ k ∧ k ≤ 5) from rfl)
  dsimp only
  generalize rightK k [x0, x1, x2, x3, x4, x5, x6, x7, x8, x9, x10, x11] s = r at *
  generalize rightL [x0, x1, x2, x3, x4, x5, x6, x7, x8, x9, x10, x11] = rl at *
  have KR2 := Lib.hid (show ∀ W, Calls Tryd.prog 18 #[.agg #[.int .i64 x0, .int .i64 x1, .int .i64 x2, .int .i64 x3, .int .i64 x4, .int .i64 x5, .int .i64 x6, .int .i64 x7, .int .i64 x8, .int .i64 x9, .int .i64 x10, .int .i64 x11]] W fun e w' => e = .returned (.bool rl) ∧ Below W.heap.size W w' from KR.out)
  show Calls Tryd.prog 8 #[.agg #[.int .i64 k, .int .i64 x0, .int .i64 x1, .int .i64 x2, .int .i64 x3, .int .i64 x4, .int .i64 x5, .int .i64 x6, .int .i64 x7, .int .i64 x8, .int .i64 x9, .int .i64 x10, .int .i64 x11, .string s, .int .i64 a, .int .i64 b, .int .i64 c, .int .i64 d]] w _
  clear h hx KR
  have HB1 := Lib.hid (below_alloc (Below.refl _ w) (.cells #[.int .i64 k, .int .i64 x0, .int .i64 x1, .int .i64 x2, .int .i64 x3, .int .i64 x4, .int .i64 x5, .int .i64 x6, .int .i64 x7, .int .i64 x8, .int .i64 x9, .int .i64 x10, .int .i64 x11, .string s, .int .i64 a, .int .i64 b, .int .i64 c, .int .i64 d] 35))
  have HN1 := Lib.hid (World.alloc_heap_new w (.cells #[.int .i64 k, .int .i64 x0, .int .i64 x1, .int .i64 x2, .int .i64 x3, .int .i64 x4, .int .i64 x5, .int .i64 x6, .int .i64 x7, .int .i64 x8, .int .i64 x9, .int .i64 x10, .int .i64 x11, .string s, .int .i64 a, .int .i64 b, .int .i64 c, .int .i64 d] 35))
  go_enter Tryd.func8, Tryd.ntmps8
  go_upto_region 1 with fail
  generalize w.alloc (.cells #[.int .i64 k, .int .i64 x0, .int .i64 x1, .int .i64 x2, .int .i64 x3, .int .i64 x4, .int .i64 x5, .int .i64 x6, .int .i64 x7, .int .i64 x8, .int .i64 x9, .int .i64 x10, .int .i64 x11, .string s, .int .i64 a, .int .i64 b, .int .i64 c, .int .i64 d] 35) = W1 at *
  obtain ⟨p, hp⟩ : ∃ p, p = w.heap.size := ⟨_, rfl⟩
  rw [← hp] at HN1 ⊢
  clear hp
  have c0 : W1.cell? ⟨p, 0, none⟩ = some (.int .i64 k) := cell_of_block (o := 0) HN1.out rfl
  have c1 : W1.cell? ⟨p, 1, none⟩ = some (.int .i64 x0) := cell_of_block (o := 1) HN1.out rfl
  have c2 : W1.cell? ⟨p, 2, none⟩ = some (.int .i64 x1) := cell_of_block (o := 2) HN1.out rfl
  have c3 : W1.cell? ⟨p, 3, none⟩ = some (.int .i64 x2) := cell_of_block (o := 3) HN1.out rfl
  have c4 : W1.cell? ⟨p, 4, none⟩ = some (.int .i64 x3) := cell_of_block (o := 4) HN1.out rfl
  have c5 : W1.cell? ⟨p, 5, none⟩ = some (.int .i64 x4) := cell_of_block (o := 5) HN1.out rfl
  have c6 : W1.cell? ⟨p, 6, none⟩ = some (.int .i64 x5) := cell_of_block (o := 6) HN1.out rfl
  have c7 : W1.cell? ⟨p, 7, none⟩ = some (.int .i64 x6) := cell_of_block (o := 7) HN1.out rfl
  have c8 : W1.cell? ⟨p, 8, none⟩ = some (.int .i64 x7) := cell_of_block (o := 8) HN1.out rfl
  have c9 : W1.cell? ⟨p, 9, none⟩ = some (.int .i64 x8) := cell_of_block (o := 9) HN1.out rfl
  have c10 : W1.cell? ⟨p, 10, none⟩ = some (.int .i64 x9) := cell_of_block (o := 10) HN1.out rfl
  have c11 : W1.cell? ⟨p, 11, none⟩ = some (.int .i64 x10) := cell_of_block (o := 11) HN1.out rfl
  have c12 : W1.cell? ⟨p, 12, none⟩ = some (.int .i64 x11) := cell_of_block (o := 12) HN1.out rfl
  have c13 : W1.cell? ⟨p, 13, none⟩ = some (.string s) := cell_of_block (o := 13) HN1.out rfl
  have c14 : W1.cell? ⟨p, 14, none⟩ = some (.int .i64 a) := cell_of_block (o := 14) HN1.out rfl
  have c15 : W1.cell? ⟨p, 15, none⟩ = some (.int .i64 b) := cell_of_block (o := 15) HN1.out rfl
  have c16 : W1.cell? ⟨p, 16, none⟩ = some (.int .i64 c) := cell_of_block (o := 16) HN1.out rfl
  have c17 : W1.cell? ⟨p, 17, none⟩ = some (.int .i64 d) := cell_of_block (o := 17) HN1.out rfl
  by_cases h0 : k = 0
  · subst h0
    have HR := Lib.hid (show r = rl from by rw [HRK.out, if_pos rfl])
    clear HRK
    go_wp2_with fail
    refine (KR2.out W1).mono ?_
    rintro e w2 ⟨rfl, hb2⟩
    have HB2 := Lib.hid (below_next HB1.out hb2)
    have HB2w := Lib.hid hb2
    clear hb2
    have HN2 := Lib.hid ((HB2w.out.block p (Array.getElem?_eq_some_iff.1 HN1.out).1).trans HN1.out)
    cases rl with
    | true =>
      have c0 : w2.cell? ⟨p, 0, none⟩ = some (.int .i64 0) := cell_of_block (o := 0) HN2.out rfl
      go_wp2_with fail
      go_ret
      rw [HR.out]
      exact ⟨rfl, HB2.out⟩
    | false =>
      go_wp2_with fail
      go_ret
      rw [HR.out]
      exact ⟨rfl, HB2.out⟩
  · have e0 : (k != 0) = true := by simpa using h0
    by_cases h1 : k = 1
    · subst h1
      have HR := Lib.hid (show r = decide (s.size ≤ 264) from by rw [HRK.out, if_neg (by decide), if_pos rfl])
      clear HRK h0 e0
      go_wp2_with fail
      go_ret
      rw [HR.out]
      exact ⟨by first | rfl | (simp; done) | (simp; omega), HB1.out⟩
    · have e1 : (k != 1) = true := by simpa using h1
      have HR := Lib.hid (show r = decide (0 ≤ k ∧ k ≤ 5) from by rw [HRK.out, if_neg h0, if_neg h1])
      clear HRK h0 h1
      by_cases h2 : 0 ≤ k
      · have d2 : decide (0 ≤ k) = true := decide_eq_true h2
        by_cases h3 : k ≤ 5
        · have d3 : decide (k ≤ 5) = true := decide_eq_true h3
          have d4 : decide (0 ≤ k ∧ k ≤ 5) = true := decide_eq_true ⟨h2, h3⟩
          rw [d4] at HR
          clear d4
          go_wp2_with fail
          go_ret
          rw [HR.out]
          exact ⟨rfl, HB1.out⟩
        · have d3 : decide (k ≤ 5) = false := decide_eq_false h3
          have d4 : decide (0 ≤ k ∧ k ≤ 5) = false := decide_eq_false (by omega)
          rw [d4] at HR
          clear d4
          go_wp2_with fail
          go_ret
          rw [HR.out]
          exact ⟨rfl, HB1.out⟩
      · have d2 : decide (0 ≤ k) = false := decide_eq_false h2
        have d4 : decide (0 ≤ k ∧ k ≤ 5) = false := decide_eq_false (by omega)
        rw [d4] at HR
        clear d4
        go_wp2_with fail
        go_ret
        rw [HR.out]
        exact ⟨rfl, HB1.out⟩
set_option maxRecDepth 100000 in
set_option maxHeartbeats 4000000 in
theorem clean_d {v : DV} (h : GoodD v) (w : World) : Calls Tryd.prog 10 #[.agg (dC v).toArray] w fun e w' => e = .returned (.agg (dC (cleanD v)).toArray) ∧ Below w.heap.size w w' := by
  have hx := h.x
  obtain ⟨k, x0, x1, x2, x3, x4, x5, x6, x7, x8, x9, x10, x11, s, a, b, c, d, rfl⟩ := goodD_open h
  have kr := fun W => rclean_any hx W
  have hy := cleanL_len [x0, x1, x2, x3, x4, x5, x6, x7, x8, x9, x10, x11]
  obtain ⟨R, hR⟩ : ∃ R, R = dC (cleanD ⟨k, [x0, x1, x2, x3, x4, x5, x6, x7, x8, x9, x10, x11], s, [a, b, c, d]⟩) := ⟨_, rfl⟩
  rw [← hR]
  have HRE := Lib.hid hR
  clear hR
  unfold cleanD at HRE
  dsimp only at HRE hx kr
  generalize cleanL [x0, x1, x2, x3, x4, x5, x6, x7, x8, x9, x10, x11] = y at *
  obtain ⟨y0, y1, y2, y3, y4, y5, y6, y7, y8, y9, y10, y11, rfl⟩ := twelve hy
  have KR2 := Lib.hid (show ∀ W, Calls Tryd.prog 20 #[.agg #[.int .i64 x0, .int .i64 x1, .int .i64 x2, .int .i64 x3, .int .i64 x4, .int .i64 x5, .int .i64 x6, .int .i64 x7, .int .i64 x8, .int .i64 x9, .int .i64 x10, .int .i64 x11]] W fun e w' => e = .returned (.agg #[.int .i64 y0, .int .i64 y1, .int .i64 y2, .int .i64 y3, .int .i64 y4, .int .i64 y5, .int .i64 y6, .int .i64 y7, .int .i64 y8, .int .i64 y9, .int .i64 y10, .int .i64 y11]) ∧ Below W.heap.size W w' from kr)
  show Calls Tryd.prog 10 #[.agg #[.int .i64 k, .int .i64 x0, .int .i64 x1, .int .i64 x2, .int .i64 x3, .int .i64 x4, .int .i64 x5, .int .i64 x6, .int .i64 x7, .int .i64 x8, .int .i64 x9, .int .i64 x10, .int .i64 x11, .string s, .int .i64 a, .int .i64 b, .int .i64 c, .int .i64 d]] w _
  clear h hx hy kr
  have HB0 := Lib.hid (below_alloc (Below.refl _ w) (.cells #[.int .i64 k, .int .i64 x0, .int .i64 x1, .int .i64 x2, .int .i64 x3, .int .i64 x4, .int .i64 x5, .int .i64 x6, .int .i64 x7, .int .i64 x8, .int .i64 x9, .int .i64 x10, .int .i64 x11, .string s, .int .i64 a, .int .i64 b, .int .i64 c, .int .i64 d] 35))
  have HN0 := Lib.hid (World.alloc_heap_new w (.cells #[.int .i64 k, .int .i64 x0, .int .i64 x1, .int .i64 x2, .int .i64 x3, .int .i64 x4, .int .i64 x5, .int .i64 x6, .int .i64 x7, .int .i64 x8, .int .i64 x9, .int .i64 x10, .int .i64 x11, .string s, .int .i64 a, .int .i64 b, .int .i64 c, .int .i64 d] 35))
  have HS0 := Lib.hid (show (w.alloc (.cells #[.int .i64 k, .int .i64 x0, .int .i64 x1, .int .i64 x2, .int .i64 x3, .int .i64 x4, .int .i64 x5, .int .i64 x6, .int .i64 x7, .int .i64 x8, .int .i64 x9, .int .i64 x10, .int .i64 x11, .string s, .int .i64 a, .int .i64 b, .int .i64 c, .int .i64 d] 35)).heap.size = w.heap.size + 1 from by simp)
  generalize hW0 : w.alloc (.cells #[.int .i64 k, .int .i64 x0, .int .i64 x1, .int .i64 x2, .int .i64 x3, .int .i64 x4, .int .i64 x5, .int .i64 x6, .int .i64 x7, .int .i64 x8, .int .i64 x9, .int .i64 x10, .int .i64 x11, .string s, .int .i64 a, .int .i64 b, .int .i64 c, .int .i64 d] 35) = W0 at *
  have HB1 := Lib.hid (below_next HB0.out (below_alloc (Below.refl _ W0) (.cells #[.int .i64 0, .int .i64 0, .int .i64 0, .int .i64 0, .int .i64 0, .int .i64 0, .int .i64 0, .int .i64 0, .int .i64 0, .int .i64 0, .int .i64 0, .int .i64 0, .int .i64 0, .string ⟨#[]⟩, .int .i64 0, .int .i64 0, .int .i64 0, .int .i64 0] 35)))
  have HN1 := Lib.hid (((below_alloc (Below.refl _ W0) (.cells #[.int .i64 0, .int .i64 0, .int .i64 0, .int .i64 0, .int .i64 0, .int .i64 0, .int .i64 0, .int .i64 0, .int .i64 0, .int .i64 0, .int .i64 0, .int .i64 0, .int .i64 0, .string ⟨#[]⟩, .int .i64 0, .int .i64 0, .int .i64 0, .int .i64 0] 35)).block w.heap.size (by rw [HS0.out]; omega)).trans HN0.out)
  have HZ1 := Lib.hid (show (W0.alloc (.cells #[.int .i64 0, .int .i64 0, .int .i64 0, .int .i64 0, .int .i64 0, .int .i64 0, .int .i64 0, .int .i64 0, .int .i64 0, .int .i64 0, .int .i64 0, .int .i64 0, .int .i64 0, .string ⟨#[]⟩, .int .i64 0, .int .i64 0, .int .i64 0, .int .i64 0] 35)).heap[w.heap.size + 1]? = some (.cells #[.int .i64 0, .int .i64 0, .int .i64 0, .int .i64 0, .int .i64 0, .int .i64 0, .int .i64 0, .int .i64 0, .int .i64 0, .int .i64 0, .int .i64 0, .int .i64 0, .int .i64 0, .string ⟨#[]⟩, .int .i64 0, .int .i64 0, .int .i64 0, .int .i64 0] 35 (0, 0)) from by rw [← HS0.out]; exact World.alloc_heap_new W0 (.cells #[.int .i64 0, .int .i64 0, .int .i64 0, .int .i64 0, .int .i64 0, .int .i64 0, .int .i64 0, .int .i64 0, .int .i64 0, .int .i64 0, .int .i64 0, .int .i64 0, .int .i64 0, .string ⟨#[]⟩, .int .i64 0, .int .i64 0, .int .i64 0, .int .i64 0] 35))
  subst hW0
  go_enter Tryd.func10, Tryd.ntmps10
  go_upto_region 1 with fail
  generalize (w.alloc (.cells #[.int .i64 k, .int .i64 x0, .int .i64 x1, .int .i64 x2, .int .i64 x3, .int .i64 x4, .int .i64 x5, .int .i64 x6, .int .i64 x7, .int .i64 x8, .int .i64 x9, .int .i64 x10, .int .i64 x11, .string s, .int .i64 a, .int .i64 b, .int .i64 c, .int .i64 d] 35)).alloc (.cells #[.int .i64 0, .int .i64 0, .int .i64 0, .int .i64 0, .int .i64 0, .int .i64 0, .int .i64 0, .int .i64 0, .int .i64 0, .int .i64 0, .int .i64 0, .int .i64 0, .int .i64 0, .string ⟨#[]⟩, .int .i64 0, .int .i64 0, .int .i64 0, .int .i64 0] 35) = W1 at *
  obtain ⟨p, hp⟩ : ∃ p, p = w.heap.size := ⟨_, rfl⟩
  have HPW := Lib.hid hp
  rw [← hp] at HN1 HZ1 ⊢
  clear hp HB0 HN0 HS0
  have c0 : W1.cell? ⟨p, 0, none⟩ = some (.int .i64 k) := cell_of_block (o := 0) HN1.out rfl
  have c1 : W1.cell? ⟨p, 1, none⟩ = some (.int .i64 x0) := cell_of_block (o := 1) HN1.out rfl
  have c2 : W1.cell? ⟨p, 2, none⟩ = some (.int .i64 x1) := cell_of_block (o := 2) HN1.out rfl
  have c3 : W1.cell? ⟨p, 3, none⟩ = some (.int .i64 x2) := cell_of_block (o := 3) HN1.out rfl
  have c4 : W1.cell? ⟨p, 4, none⟩ = some (.int .i64 x3) := cell_of_block (o := 4) HN1.out rfl
  have c5 : W1.cell? ⟨p, 5, none⟩ = some (.int .i64 x4) := cell_of_block (o := 5) HN1.out rfl
  have c6 : W1.cell? ⟨p, 6, none⟩ = some (.int .i64 x5) := cell_of_block (o := 6) HN1.out rfl
  have c7 : W1.cell? ⟨p, 7, none⟩ = some (.int .i64 x6) := cell_of_block (o := 7) HN1.out rfl
  have c8 : W1.cell? ⟨p, 8, none⟩ = some (.int .i64 x7) := cell_of_block (o := 8) HN1.out rfl
  have c9 : W1.cell? ⟨p, 9, none⟩ = some (.int .i64 x8) := cell_of_block (o := 9) HN1.out rfl
  have c10 : W1.cell? ⟨p, 10, none⟩ = some (.int .i64 x9) := cell_of_block (o := 10) HN1.out rfl
  have c11 : W1.cell? ⟨p, 11, none⟩ = some (.int .i64 x10) := cell_of_block (o := 11) HN1.out rfl
  have c12 : W1.cell? ⟨p, 12, none⟩ = some (.int .i64 x11) := cell_of_block (o := 12) HN1.out rfl
  have c13 : W1.cell? ⟨p, 13, none⟩ = some (.string s) := cell_of_block (o := 13) HN1.out rfl
  have c14 : W1.cell? ⟨p, 14, none⟩ = some (.int .i64 a) := cell_of_block (o := 14) HN1.out rfl
  have c15 : W1.cell? ⟨p, 15, none⟩ = some (.int .i64 b) := cell_of_block (o := 15) HN1.out rfl
  have c16 : W1.cell? ⟨p, 16, none⟩ = some (.int .i64 c) := cell_of_block (o := 16) HN1.out rfl
  have c17 : W1.cell? ⟨p, 17, none⟩ = some (.int .i64 d) := cell_of_block (o := 17) HN1.out rfl
  by_cases h0 : k = 0
  · subst h0
    have HRR := Lib.hid (show R = [.int .i64 0, .int .i64 y0, .int .i64 y1, .int .i64 y2, .int .i64 y3, .int .i64 y4, .int .i64 y5, .int .i64 y6, .int .i64 y7, .int .i64 y8, .int .i64 y9, .int .i64 y10, .int .i64 y11, .string ⟨#[]⟩, .int .i64 0, .int .i64 0, .int .i64 0, .int .i64 0] from by rw [HRE.out, if_pos rfl]; rfl)
    clear HRE
    go_wp2_with fail
    refine (KR2.out W1).mono ?_
    rintro e w2 ⟨rfl, hb2⟩
    have HB2 := Lib.hid (below_next HB1.out hb2)
    have HZ2 := Lib.hid ((hb2.block (p + 1) (Array.getElem?_eq_some_iff.1 HZ1.out).1).trans HZ1.out)
    clear hb2 HN1 HZ1 HB1 c0 c1 c2 c3 c4 c5 c6 c7 c8 c9 c10 c11 c12 c13 c14 c15 c16 c17
    go_wp2_with (refine wpList_store_all rfl 35 _ _ rfl (p + 1) (T := 35) [.int .i64 0, .int .i64 y0, .int .i64 y1, .int .i64 y2, .int .i64 y3, .int .i64 y4, .int .i64 y5, .int .i64 y6, .int .i64 y7, .int .i64 y8, .int .i64 y9, .int .i64 y10, .int .i64 y11, .string ⟨#[]⟩, .int .i64 0, .int .i64 0, .int .i64 0, .int .i64 0] (by first | (go_simp; done) | (go_simp; rfl)) (by first | (go_simp; done) | (go_simp; rfl)) HZ2.out rfl (by kernel_rfl) rfl ?_; intro V hV; have HV := Lib.hid hV; have HB4 := Lib.hid (hV.below HB2.out (by have := HPW.out; omega)); clear hV)
    exact bodyPost_ret (results_all [.int .i64 0, .int .i64 y0, .int .i64 y1, .int .i64 y2, .int .i64 y3, .int .i64 y4, .int .i64 y5, .int .i64 y6, .int .i64 y7, .int .i64 y8, .int .i64 y9, .int .i64 y10, .int .i64 y11, .string ⟨#[]⟩, .int .i64 0, .int .i64 0, .int .i64 0, .int .i64 0] _ Tryd.results10 (by go_simp) HV.out.there Tryd.underlying35 rfl (by kernel_rfl)) rfl ⟨by rw [HRR.out], HB4.out⟩
  · have e0 : (k == 0) = false := by simpa using h0
    by_cases h1 : k = 1
    · subst h1
      have HRR := Lib.hid (show R = [.int .i64 1, .int .i64 0, .int .i64 0, .int .i64 0, .int .i64 0, .int .i64 0, .int .i64 0, .int .i64 0, .int .i64 0, .int .i64 0, .int .i64 0, .int .i64 0, .int .i64 0, .string s, .int .i64 0, .int .i64 0, .int .i64 0, .int .i64 0] from by rw [HRE.out, if_neg (by decide), if_pos rfl]; rfl)
      clear HRE e0
      go_wp2_with (refine wpList_store_all rfl 35 _ _ rfl (p + 1) (T := 35) [.int .i64 1, .int .i64 0, .int .i64 0, .int .i64 0, .int .i64 0, .int .i64 0, .int .i64 0, .int .i64 0, .int .i64 0, .int .i64 0, .int .i64 0, .int .i64 0, .int .i64 0, .string s, .int .i64 0, .int .i64 0, .int .i64 0, .int .i64 0] (by first | (go_simp; done) | (go_simp; rfl)) (by first | (go_simp; done) | (go_simp; rfl)) HZ1.out rfl (by kernel_rfl) rfl ?_; intro V hV; have HV := Lib.hid hV; have HB4 := Lib.hid (hV.below HB1.out (by have := HPW.out; omega)); clear hV)
      exact bodyPost_ret (results_all [.int .i64 1, .int .i64 0, .int .i64 0, .int .i64 0, .int .i64 0, .int .i64 0, .int .i64 0, .int .i64 0, .int .i64 0, .int .i64 0, .int .i64 0, .int .i64 0, .int .i64 0, .string s, .int .i64 0, .int .i64 0, .int .i64 0, .int .i64 0] _ Tryd.results10 (by go_simp) HV.out.there Tryd.underlying35 rfl (by kernel_rfl)) rfl ⟨by rw [HRR.out], HB4.out⟩
    · have e1 : (k == 1) = false := by simpa using h1
      by_cases h2 : k = 2
      · subst h2
        have HRR := Lib.hid (show R = [.int .i64 2, .int .i64 0, .int .i64 0, .int .i64 0, .int .i64 0, .int .i64 0, .int .i64 0, .int .i64 0, .int .i64 0, .int .i64 0, .int .i64 0, .int .i64 0, .int .i64 0, .string ⟨#[]⟩, .int .i64 a, .int .i64 0, .int .i64 0, .int .i64 0] from by rw [HRE.out, if_neg (by decide), if_neg (by decide), if_pos rfl]; rfl)
        clear HRE e0 e1
        go_wp2_with (refine wpList_store_all rfl 35 _ _ rfl (p + 1) (T := 35) [.int .i64 2, .int .i64 0, .int .i64 0, .int .i64 0, .int .i64 0, .int .i64 0, .int .i64 0, .int .i64 0, .int .i64 0, .int .i64 0, .int .i64 0, .int .i64 0, .int .i64 0, .string ⟨#[]⟩, .int .i64 a, .int .i64 0, .int .i64 0, .int .i64 0] (by first | (go_simp; done) | (go_simp; rfl)) (by first | (go_simp; done) | (go_simp; rfl)) HZ1.out rfl (by kernel_rfl) rfl ?_; intro V hV; have HV := Lib.hid hV; have HB4 := Lib.hid (hV.below HB1.out (by have := HPW.out; omega)); clear hV)
        exact bodyPost_ret (results_all [.int .i64 2, .int .i64 0, .int .i64 0, .int .i64 0, .int .i64 0, .int .i64 0, .int .i64 0, .int .i64 0, .int .i64 0, .int .i64 0, .int .i64 0, .int .i64 0, .int .i64 0, .string ⟨#[]⟩, .int .i64 a, .int .i64 0, .int .i64 0, .int .i64 0] _ Tryd.results10 (by go_simp) HV.out.there Tryd.underlying35 rfl (by kernel_rfl)) rfl ⟨by rw [HRR.out], HB4.out⟩
      · have e2 : (k == 2) = false := by simpa using h2
        by_cases h3 : k = 3
        · subst h3
          have HRR := Lib.hid (show R = [.int .i64 3, .int .i64 0, .int .i64 0, .int .i64 0, .int .i64 0, .int .i64 0, .int .i64 0, .int .i64 0, .int .i64 0, .int .i64 0, .int .i64 0, .int .i64 0, .int .i64 0, .string ⟨#[]⟩, .int .i64 a, .int .i64 b, .int .i64 c, .int .i64 d] from by rw [HRE.out, if_neg (by decide), if_neg (by decide), if_neg (by decide), if_pos rfl]; rfl)
          clear HRE e0 e1 e2
          go_wp2_with (refine wpList_store_all rfl 35 _ _ rfl (p + 1) (T := 35) [.int .i64 3, .int .i64 0, .int .i64 0, .int .i64 0, .int .i64 0, .int .i64 0, .int .i64 0, .int .i64 0, .int .i64 0, .int .i64 0, .int .i64 0, .int .i64 0, .int .i64 0, .string ⟨#[]⟩, .int .i64 a, .int .i64 b, .int .i64 c, .int .i64 d] (by first | (go_simp; done) | (go_simp; rfl)) (by first | (go_simp; done) | (go_simp; rfl)) HZ1.out rfl (by kernel_rfl) rfl ?_; intro V hV; have HV := Lib.hid hV; have HB4 := Lib.hid (hV.below HB1.out (by have := HPW.out; omega)); clear hV)
          exact bodyPost_ret (results_all [.int .i64 3, .int .i64 0, .int .i64 0, .int .i64 0, .int .i64 0, .int .i64 0, .int .i64 0, .int .i64 0, .int .i64 0, .int .i64 0, .int .i64 0, .int .i64 0, .int .i64 0, .string ⟨#[]⟩, .int .i64 a, .int .i64 b, .int .i64 c, .int .i64 d] _ Tryd.results10 (by go_simp) HV.out.there Tryd.underlying35 rfl (by kernel_rfl)) rfl ⟨by rw [HRR.out], HB4.out⟩
        · have e3 : (k == 3) = false := by simpa using h3
          by_cases h4 : k = 4
          · subst h4
            have HRR := Lib.hid (show R = [.int .i64 4, .int .i64 0, .int .i64 0, .int .i64 0, .int .i64 0, .int .i64 0, .int .i64 0, .int .i64 0, .int .i64 0, .int .i64 0, .int .i64 0, .int .i64 0, .int .i64 0, .string ⟨#[]⟩, .int .i64 0, .int .i64 0, .int .i64 0, .int .i64 0] from by rw [HRE.out, if_neg (by decide), if_neg (by decide), if_neg (by decide), if_neg (by decide), if_pos (.inl rfl)]; rfl)
            clear HRE e0 e1 e2 e3
            go_wp2_with (refine wpList_store_all rfl 35 _ _ rfl (p + 1) (T := 35) [.int .i64 4, .int .i64 0, .int .i64 0, .int .i64 0, .int .i64 0, .int .i64 0, .int .i64 0, .int .i64 0, .int .i64 0, .int .i64 0, .int .i64 0, .int .i64 0, .int .i64 0, .string ⟨#[]⟩, .int .i64 0, .int .i64 0, .int .i64 0, .int .i64 0] (by first | (go_simp; done) | (go_simp; rfl)) (by first | (go_simp; done) | (go_simp; rfl)) HZ1.out rfl (by kernel_rfl) rfl ?_; intro V hV; have HV := Lib.hid hV; have HB4 := Lib.hid (hV.below HB1.out (by have := HPW.out; omega)); clear hV)
            exact bodyPost_ret (results_all [.int .i64 4, .int .i64 0, .int .i64 0, .int .i64 0, .int .i64 0, .int .i64 0, .int .i64 0, .int .i64 0, .int .i64 0, .int .i64 0, .int .i64 0, .int .i64 0, .int .i64 0, .string ⟨#[]⟩, .int .i64 0, .int .i64 0, .int .i64 0, .int .i64 0] _ Tryd.results10 (by go_simp) HV.out.there Tryd.underlying35 rfl (by kernel_rfl)) rfl ⟨by rw [HRR.out], HB4.out⟩
          · have e4 : (k == 4) = false := by simpa using h4
            by_cases h5 : k = 5
            · subst h5
              have HRR := Lib.hid (show R = [.int .i64 5, .int .i64 0, .int .i64 0, .int .i64 0, .int .i64 0, .int .i64 0, .int .i64 0, .int .i64 0, .int .i64 0, .int .i64 0, .int .i64 0, .int .i64 0, .int .i64 0, .string ⟨#[]⟩, .int .i64 0, .int .i64 0, .int .i64 0, .int .i64 0] from by rw [HRE.out, if_neg (by decide), if_neg (by decide), if_neg (by decide), if_neg (by decide), if_pos (.inr rfl)]; rfl)
              clear HRE e0 e1 e2 e3 e4
              go_wp2_with (refine wpList_store_all rfl 35 _ _ rfl (p + 1) (T := 35) [.int .i64 5, .int .i64 0, .int .i64 0, .int .i64 0, .int .i64 0, .int .i64 0, .int .i64 0, .int .i64 0, .int .i64 0, .int .i64 0, .int .i64 0, .int .i64 0, .int .i64 0, .string ⟨#[]⟩, .int .i64 0, .int .i64 0, .int .i64 0, .int .i64 0] (by first | (go_simp; done) | (go_simp; rfl)) (by first | (go_simp; done) | (go_simp; rfl)) HZ1.out rfl (by kernel_rfl) rfl ?_; intro V hV; have HV := Lib.hid hV; have HB4 := Lib.hid (hV.below HB1.out (by have := HPW.out; omega)); clear hV)
              exact bodyPost_ret (results_all [.int .i64 5, .int .i64 0, .int .i64 0, .int .i64 0, .int .i64 0, .int .i64 0, .int .i64 0, .int .i64 0, .int .i64 0, .int .i64 0, .int .i64 0, .int .i64 0, .int .i64 0, .string ⟨#[]⟩, .int .i64 0, .int .i64 0, .int .i64 0, .int .i64 0] _ Tryd.results10 (by go_simp) HV.out.there Tryd.underlying35 rfl (by kernel_rfl)) rfl ⟨by rw [HRR.out], HB4.out⟩
            · have e5 : (k == 5) = false := by simpa using h5
              have HRR := Lib.hid (show R = [.int .i64 0, .int .i64 0, .int .i64 0, .int .i64 0, .int .i64 0, .int .i64 0, .int .i64 0, .int .i64 0, .int .i64 0, .int .i64 0, .int .i64 0, .int .i64 0, .int .i64 0, .string ⟨#[]⟩, .int .i64 0, .int .i64 0, .int .i64 0, .int .i64 0] from by rw [HRE.out, if_neg h0, if_neg h1, if_neg h2, if_neg h3, if_neg (by omega)]; rfl)
              clear HRE h0 h1 h2 h3 h4 h5
              go_wp2_with (refine wpList_store_all rfl 35 _ _ rfl (p + 1) (T := 35) [.int .i64 0, .int .i64 0, .int .i64 0, .int .i64 0, .int .i64 0, .int .i64 0, .int .i64 0, .int .i64 0, .int .i64 0, .int .i64 0, .int .i64 0, .int .i64 0, .int .i64 0, .string ⟨#[]⟩, .int .i64 0, .int .i64 0, .int .i64 0, .int .i64 0] (by first | (go_simp; done) | (go_simp; rfl)) (by first | (go_simp; done) | (go_simp; rfl)) HZ1.out rfl (by kernel_rfl) rfl ?_; intro V hV; have HV := Lib.hid hV; have HB4 := Lib.hid (hV.below HB1.out (by have := HPW.out; omega)); clear hV)
              exact bodyPost_ret (results_all [.int .i64 0, .int .i64 0, .int .i64 0, .int .i64 0, .int .i64 0, .int .i64 0, .int .i64 0, .int .i64 0, .int .i64 0, .int .i64 0, .int .i64 0, .int .i64 0, .int .i64 0, .string ⟨#[]⟩, .int .i64 0, .int .i64 0, .int .i64 0, .int .i64 0] _ Tryd.results10 (by go_simp) HV.out.there Tryd.underlying35 rfl (by kernel_rfl)) rfl ⟨by rw [HRR.out], HB4.out⟩
end Go.Proofs.YtdfkfcpkejjlnaaDoor
