/- The document's Read (berthingref22), at any bytes. No condition but their number. -/
import Derived.Test.YtlejicmpefdhpaaDoorCmdH
import Derived.Test.YtlejicmpefdhpaaDoorCodRefE
namespace Go.Proofs.YtlejicmpefdhpaaDoor
set_option linter.unusedVariables false
open Go.ChangeShapes Go.WideShapes Go.ChangeAt Go.RowKit
attribute [local go_sem ↓] Go.wp_at_zero Go.wp_at_succ comesTo_value_eq comesTo_skip_eq comesTo_enter_eq Rl.comesToR_value_eq Rl.comesToR_skip_eq Rl.comesToR_enter_eq

theorem eqin27 {a b : List Int} (ha : a.length = 12) (hb : b.length = 12) (w : World) : (Op.equalIn 10000 27 (.agg (numC a).toArray) (.agg (numC b).toArray)).run Tryd.prog w = .ok (a == b) w := by
  have hS : Tryd.prog.underlying 27 = some (.struct (Tryd.prog.fieldsOf 27)) := by kernel_rfl
  have hp : Tryd.prog.stoodInHeld 27 = false := by kernel_rfl
  refine (run_equalIn_struct w 9999 _ _ _ hS hp).trans ?_
  have hz : (sizeOf 25).run Tryd.prog w = .ok 11 w := by kernel_rfl
  have ht : List.take 11 (numC a).tail = numC a.tail ∧ List.take 11 (numC b).tail = numC b.tail := by
    obtain ⟨x0, x1, x2, x3, x4, x5, x6, x7, x8, x9, x10, x11, rfl⟩ := twelve ha
    obtain ⟨y0, y1, y2, y3, y4, y5, y6, y7, y8, y9, y10, y11, rfl⟩ := twelve hb
    exact ⟨rfl, rfl⟩
  have h0a : (numC a).toArray[0]? = some (.int .i64 (a.getD 0 0)) := by have := numC_at (xs := a) (i := 0) (by omega); simpa using this
  have h0b : (numC b).toArray[0]? = some (.int .i64 (b.getD 0 0)) := by have := numC_at (xs := b) (i := 0) (by omega); simpa using this
  have hq : (a == b) = ((a.getD 0 0 == b.getD 0 0) && (a.tail == b.tail)) := by
    rcases a with _ | ⟨x, a⟩
    · cases ha
    · rcases b with _ | ⟨y, b⟩
      · cases hb
      · simp [List.cons_beq_cons]
  have hal : a.tail.length = 11 := by simp [ha]
  have hbl : b.tail.length = 11 := by simp [hb]
  simp only [Program.fieldsOf, Tryd.underlying27]
  rw [run_eqFields_all w (fun f => if f.offset = 0 then (a.getD 0 0 == b.getD 0 0) else (a.tail == b.tail))]
  · rw [hq]
    simp
  · intro f hf
    simp only [List.mem_cons, List.not_mem_nil, or_false] at hf
    rcases hf with rfl | rfl
    · refine ⟨by simp, .int .i64 (a.getD 0 0), .int .i64 (b.getD 0 0), ?_, ?_, ?_⟩
      · simp only [part, isAgg, Sem.run_bind, run_underlying Tryd.underlying3, Result.andThen_ok, h0a]
        simp
      · simp only [part, isAgg, Sem.run_bind, run_underlying Tryd.underlying3, Result.andThen_ok, h0b]
        simp
      · exact run_equalIn_int w 9998 _ _ _ _ _ Tryd.underlying3
    · refine ⟨by simp, .agg (numC a.tail).toArray, .agg (numC b.tail).toArray, ?_, ?_, ?_⟩
      · simp only [part, isAgg, Sem.run_bind, run_underlying Tryd.underlying25, Result.andThen_ok, hz]
        simp
        exact ht.1
      · simp only [part, isAgg, Sem.run_bind, run_underlying Tryd.underlying25, Result.andThen_ok, hz]
        simp
        exact ht.2
      · unfold numC
        exact run_equalIn_ints w 9997 25 2 11 .i64 .i64 Tryd.underlying25 Tryd.underlying2 sizeI64 a.tail b.tail hal hbl
/-- a kind that is none counts as 0 -/
def fixK (ys : List Int) : List Int := if kindB ys = true then ys else ys.set 0 0
theorem fixK_len {ys : List Int} (h : ys.length = 12) : (fixK ys).length = 12 := by unfold fixK; split <;> simp [h]
theorem kindB_get {a b : List Int} (h : a.getD 0 0 = b.getD 0 0) : kindB a = kindB b := by unfold kindB; rw [h]
theorem right_no {a : List Int} (h : kindB a = false) : rightL a = false := by unfold rightL; rw [h, Bool.false_and]
theorem read_ref {bs : List Int} (hb : ∀ x ∈ bs, 0 ≤ x ∧ x ≤ 255) : readB bs = ((endF (readN 12 ⟨bs, 0⟩).1 == 0) && rightL (fixK (ysC bs)) && (cleanL (fixK (ysC bs)) == fixK (ysC bs))) ∧ (readB bs = true → fixK (ysC bs) = ysC bs) := by
  have hl := ysC_len bs
  have hi := ysC_in hb
  have hrd : readB bs = ((endF (readN 12 ⟨bs, 0⟩).1 == 0) && rightL (nzC (ysC bs)) && decide (cleanL (nzC (ysC bs)) = ysC bs)) := rfl
  generalize ysC bs = ys at *
  have hcz := nzC_cmd hl hi
  have h0 : (nzC ys).getD 0 0 = ys.getD 0 0 := by
    obtain ⟨x0, x1, x2, x3, x4, x5, x6, x7, x8, x9, x10, x11, rfl⟩ := twelve hl
    rfl
  cases hk : kindB ys with
  | false =>
    have hn : rightL (nzC ys) = false := right_no (by rw [kindB_get h0, hk])
    have hf : rightL (fixK ys) = false := by
      refine right_no ?_
      unfold fixK
      rw [hk, if_neg (by decide)]
      obtain ⟨x0, x1, x2, x3, x4, x5, x6, x7, x8, x9, x10, x11, rfl⟩ := twelve hl
      rfl
    rw [hrd, hn, hf, Bool.and_false]
    exact ⟨rfl, fun h => by cases h⟩
  | true =>
    have hf : fixK ys = ys := by unfold fixK; rw [hk, if_pos rfl]
    refine ⟨?_, fun _ => hf⟩
    rw [hf, hrd]
    have : (rightL (nzC ys) && decide (cleanL (nzC ys) = ys)) = (rightL ys && (cleanL ys == ys)) := by
      rw [Bool.eq_iff_iff, Bool.and_eq_true, Bool.and_eq_true, decide_eq_true_eq, beq_iff_eq]
      constructor
      · rintro ⟨h1, h2⟩
        have hc : Cmd12 ys := by rw [← h2]; exact cleanL_cmd hcz
        have hn := nzC_same hl hc.last
        rw [hn] at h1 h2
        exact ⟨h1, h2⟩
      · rintro ⟨h1, h2⟩
        have hlast : ys.getD 11 0 = 0 ∨ ys.getD 11 0 = 1 := by
          have hg := clean_get hk (i := 11) (by decide)
          rw [h2, if_neg (by decide)] at hg
          by_cases hc : 11 ∈ cntN (kN ys)
          · unfold rightL at h1
            rw [Bool.and_eq_true, List.all_eq_true] at h1
            have := h1.2 11 hc
            rw [Bool.and_eq_true, decide_eq_true_eq, decide_eq_true_eq] at this
            have hb11 : bndF (ys.getD 0 0) 11 = (0, 1) := rfl
            rw [hb11] at this
            simp only at this
            omega
          · rw [if_neg hc] at hg
            exact .inl hg
        rw [nzC_same hl hlast]
        exact ⟨h1, h2⟩
    rw [Bool.and_assoc, Bool.and_assoc, this]
theorem readA_next (k : Nat) (st : CS) : readA (k + 1) st = ((readA k (intF st).1).1, (intF st).2 :: (readA k (intF st).1).2) := rfl
def rcC (st : CS) : List Value := [.string (strOfNums st.xs), .int .i64 st.bad]
set_option maxRecDepth 100000 in
set_option maxHeartbeats 2000000 in
theorem rread_any (bs : List Int) (hx : ∀ x ∈ bs, 0 ≤ x ∧ x ≤ 255) (hl : bs.length ≤ 1099511627776) (w : World) :
    Calls Tryd.prog 18 #[.string (strOfNums bs)] w fun e w' => e = .returned (.tuple #[.agg (numC (gotC bs)).toArray, .int .i64 (codeC bs)]) ∧ Below w.heap.size w w' := by
  have hmx : Tryd.prog.follows .mixedOrders = true := by kernel_rfl
  have K0 := Lib.hid (fun W => rint_any ⟨bs, 0⟩ hx hl W)
  have HRR := Lib.hid (read_ref hx)
  have HYL := Lib.hid (ysC_len bs)
  have hye := ysC_eq bs
  rw [readA_next 11] at hye
  have HYE := Lib.hid hye
  have hsuf := intF_suffix ⟨bs, 0⟩
  have HSUF := Lib.hid hsuf
  have HX := Lib.hid hx
  have HL := Lib.hid hl
  have HRC := Lib.hid (fun st => show RC st = .agg (rcC st).toArray from rfl)
  have hi27 : ∀ {l : List Value}, l.length = 12 → (Tryd.prog.info? 27).map (·.size) = some l.length := fun h => by rw [h]; kernel_rfl
  have hi70 : (Tryd.prog.info? 70).map (·.size) = some 2 := by kernel_rfl
  have HI27 := Lib.hid (fun (l : List Value) (h : l.length = 12) => hi27 h)
  have HI70 := Lib.hid hi70
  clear hye hsuf hx hl hi27 hi70
  generalize hst1 : (intF ⟨bs, 0⟩).1 = st1 at *
  generalize hv0 : (intF ⟨bs, 0⟩).2 = v0 at *
  have HS0 := Lib.hid (show RC ⟨bs, 0⟩ = .agg #[.string (strOfNums bs), .int .i64 0] from rfl)
  rw [HS0.out] at K0
  generalize strOfNums bs = S at *
  clear hst1 hv0
  go_enter Tryd.func18, Tryd.ntmps18
  go_upto_region 1 with fail
  have hA0 := below_alloc (Below.refl _ w) (.cells #[.int .i64 0, .int .i64 0, .int .i64 0, .int .i64 0, .int .i64 0, .int .i64 0, .int .i64 0, .int .i64 0, .int .i64 0, .int .i64 0, .int .i64 0, .int .i64 0] 27)
  have hR0 := World.alloc_heap_new w (.cells #[.int .i64 0, .int .i64 0, .int .i64 0, .int .i64 0, .int .i64 0, .int .i64 0, .int .i64 0, .int .i64 0, .int .i64 0, .int .i64 0, .int .i64 0, .int .i64 0] 27)
  have hs0 : (w.alloc (.cells #[.int .i64 0, .int .i64 0, .int .i64 0, .int .i64 0, .int .i64 0, .int .i64 0, .int .i64 0, .int .i64 0, .int .i64 0, .int .i64 0, .int .i64 0, .int .i64 0] 27)).heap.size = w.heap.size + 1 := by simp
  generalize w.alloc (.cells #[.int .i64 0, .int .i64 0, .int .i64 0, .int .i64 0, .int .i64 0, .int .i64 0, .int .i64 0, .int .i64 0, .int .i64 0, .int .i64 0, .int .i64 0, .int .i64 0] 27) = U at *
  have HA0 := Lib.hid hA0
  have HR0 := Lib.hid hR0
  have HSU := Lib.hid hs0
  clear hA0 hR0 hs0
  refine wp_region_lit ?_
  refine wpList_yield (w' := U) (v := .string S) rfl (by go_simp) ?_
  refine wpList_yield (w' := U) (v := .agg #[.string S, .int .i64 0]) rfl (by go_simp) ?_
  refine wpList_enter rfl (by go_simp) (K0.out U) ?_
  rintro e w1 ⟨rfl, hb1⟩
  refine ⟨_, rfl, ?_⟩
  rw [HRC.out st1]
  refine wpList_yield (w' := w1) (v := .tuple #[.agg (rcC st1).toArray, .int .i64 v0]) rfl (by go_simp) ?_
  refine wpList_yield (w' := w1) (v := .agg (rcC st1).toArray) rfl (by go_simp) ?_
  refine wpList_yield (w' := w1) (v := .int .i64 v0) rfl (by go_simp) ?_
  refine wpList_yield (w' := w1.alloc (.cells #[.string ⟨#[]⟩, .int .i64 0] 70)) (v := .pointer (some ⟨w1.heap.size, 0, none⟩)) rfl (by go_simp) ?_
  refine wpList_store_all rfl 70 _ _ rfl w1.heap.size (cs := #[.string ⟨#[]⟩, .int .i64 0]) (T := 70) (rcC st1) (by go_simp) (by go_simp) (World.alloc_heap_new _ _) rfl HI70.out rfl ?_
  intro w2 hw2
  have hb2 := below_next hb1 (hw2.below (below_alloc (Below.refl _ w1) _) (Nat.le_refl _))
  have HB2 := Lib.hid (below_next HA0.out hb2)
  have HR2 := Lib.hid ((hb2.block w.heap.size (by have := HSU.out; omega)).trans HR0.out)
  have HC2 := Lib.hid hw2.there
  have HQ := Lib.hid (show w.heap.size + 1 ≤ w1.heap.size by have := hb1.size; have := HSU.out; omega)
  have HS2 := Lib.hid (show w2.heap.size = w1.heap.size + 1 by rw [hw2.size]; simp)
  clear hw2 hb1 hb2
  generalize w1.heap.size = q at *
  go_upto_region 2 with fail
  refine wp_region_lit ?_
  refine wpList_yield (w' := w2) (v := .agg (numC (List.replicate 12 0)).toArray) rfl (by go_simp; rfl) ?_
  refine wpList_yield (w' := w2.alloc (.cells #[.int .i64 0, .int .i64 0, .int .i64 0, .int .i64 0, .int .i64 0, .int .i64 0, .int .i64 0, .int .i64 0, .int .i64 0, .int .i64 0, .int .i64 0, .int .i64 0] 27)) (v := .pointer (some ⟨w2.heap.size, 0, none⟩)) rfl (by go_simp) ?_
  refine wpList_store_all rfl 27 _ _ rfl w2.heap.size (cs := #[.int .i64 0, .int .i64 0, .int .i64 0, .int .i64 0, .int .i64 0, .int .i64 0, .int .i64 0, .int .i64 0, .int .i64 0, .int .i64 0, .int .i64 0, .int .i64 0]) (T := 27) (numC (List.replicate 12 0)) (by go_simp) (by go_simp) (World.alloc_heap_new _ _) rfl (HI27.out _ rfl) rfl ?_
  intro w3 hw3
  have hb3 := hw3.below (below_alloc (Below.refl _ w2) _) (Nat.le_refl _)
  have HB3 := Lib.hid (below_next HB2.out hb3)
  have HR3 := Lib.hid ((hb3.block w.heap.size (by have := HS2.out; have := HQ.out; omega)).trans HR2.out)
  have HC3 := Lib.hid ((hb3.block q (by have := HS2.out; omega)).trans HC2.out)
  have hX3 := hw3.there
  rw [HS2.out] at hX3
  have HX3 := Lib.hid hX3
  rw [show w2.heap.size = q + 1 from HS2.out]
  clear hw3 hb3 hX3
  have hcut : ∃ k0 : Int, (k0 :: (readA 11 st1).2) = fixK (ysC bs) ∧ (v0 = k0 ∧ 1 ≤ v0 ∧ v0 ≤ 12 ∨ k0 = 0 ∧ ¬ (1 ≤ v0 ∧ v0 ≤ 12)) := by
    have hy : ysC bs = v0 :: (readA 11 st1).2 := (congrArg Prod.snd HYE.out).symm
    by_cases hk : 1 ≤ v0 ∧ v0 ≤ 12
    · refine ⟨v0, ?_, .inl ⟨rfl, hk.1, hk.2⟩⟩
      have : kindB (ysC bs) = true := by rw [hy]; unfold kindB; rw [show (v0 :: (readA 11 st1).2).getD 0 0 = v0 from rfl, decide_eq_true hk.1, decide_eq_true hk.2]; rfl
      unfold fixK
      rw [this, if_pos rfl, hy]
    · refine ⟨0, ?_, .inr ⟨rfl, hk⟩⟩
      have : kindB (ysC bs) = false := by
        rw [hy]; unfold kindB; rw [show (v0 :: (readA 11 st1).2).getD 0 0 = v0 from rfl, ← Bool.decide_and, decide_eq_false hk]
      unfold fixK
      rw [this, if_neg (by decide), hy]
      rfl
  obtain ⟨k0, hfk, hk0⟩ := hcut
  have HFK := Lib.hid hfk
  have HK0 := Lib.hid hk0
  have HW3 := Lib.hid ((wrote_refl HX3.out).set 0 (.int .i64 v0))
  have d0 := cell_of_block (o := 0) (v := .int .i64 0) HX3.out rfl
  have e0 := free_of_block 0 HX3.out
  clear hfk hk0
  go_upto_region 3 with fail
  go_simp
  go_cut [20] (fun s wx => ∃ B : Bool, s = .bool B ∧ (B = true ↔ (1 ≤ v0 ∧ v0 ≤ 12)) ∧ wx = w3)
  case first =>
    go_wp2_with fail
    all_goals go_meet
    all_goals (refine ⟨_, rfl, ?_, rfl⟩; simp; try omega)
  case rest =>
  obtain ⟨B0, rfl, hB0, rfl⟩ := hcut
  rename_i wx
  have HB0 := Lib.hid hB0
  clear hB0
  go_upto_if 20 with fail
  go_cut [] (fun wy => Below w.heap.size w wy ∧ wy.heap[w.heap.size]? = some (.cells #[.int .i64 0, .int .i64 0, .int .i64 0, .int .i64 0, .int .i64 0, .int .i64 0, .int .i64 0, .int .i64 0, .int .i64 0, .int .i64 0, .int .i64 0, .int .i64 0] 27 (0, 0)) ∧ wy.heap[q]? = some (.cells (rcC st1).toArray 70 (0, 0)) ∧ wy.heap[q + 1]? = some (.cells (numC (k0 :: List.replicate 11 0)).toArray 27 (0, 0)))
  case first =>
    cases B0 with
    | true =>
      have hk : v0 = k0 := by
        rcases HK0.out with h | h
        · exact h.1
        · exact absurd (HB0.out.1 rfl) h.2
      subst hk
      go_wp2_with fail
      go_meet
      refine ⟨HW3.out.below HB3.out (by have := HQ.out; omega), (HW3.out.rest _ (by have := HQ.out; omega)).trans HR3.out, (HW3.out.rest _ (by omega)).trans HC3.out, ?_⟩
      exact HW3.out.there
    | false =>
      have hk : k0 = 0 := by
        rcases HK0.out with h | h
        · have := HB0.out.2 h.2; cases this
        · exact h.1
      subst hk
      go_wp2_with fail
      go_meet
      exact ⟨HB3.out, HR3.out, HC3.out, HX3.out⟩
  case rest =>
  rename_i wy
  obtain ⟨hb4, hr4, hc4, hx4⟩ := hcut
  have HB4 := Lib.hid hb4
  have HR4 := Lib.hid hr4
  have HC4 := Lib.hid hc4
  have HX4 := Lib.hid hx4
  clear hb4 hr4 hc4 hx4 d0 e0 HW3 HB0 HK0 HX3
  go_wp2_with fail
  go_loopw [7] (fun i wr => ∃ (j : Nat) (st : CS) (acc : List Int), j ≤ 11 ∧ i = .int .i64 j ∧ acc.length = j ∧ readA 11 st1 = ((readA (11 - j) st).1, acc ++ (readA (11 - j) st).2) ∧ st.xs <:+ bs ∧ wr.heap[q]? = some (.cells (rcC st).toArray 70 (0, 0)) ∧ wr.heap[q + 1]? = some (.cells (numC (k0 :: (acc ++ List.replicate (11 - j) 0))).toArray 27 (0, 0)) ∧ Below w.heap.size w wr ∧ wr.heap[w.heap.size]? = some (.cells #[.int .i64 0, .int .i64 0, .int .i64 0, .int .i64 0, .int .i64 0, .int .i64 0, .int .i64 0, .int .i64 0, .int .i64 0, .int .i64 0, .int .i64 0, .int .i64 0] 27 (0, 0))) (fun i _ => 11 - (intOf i).toNat)
  case atStart => exact ⟨0, st1, [], Nat.zero_le _, rfl, rfl, rfl, HSUF.out, HC4.out, HX4.out, HB4.out, HR4.out⟩
  case round =>
    obtain ⟨j, st, acc, hj, rfl, hal, hrd, hsf, hc, hxx, hb, hr⟩ := hrel
    have HAL := Lib.hid hal
    have HRD := Lib.hid hrd
    have HSF := Lib.hid hsf
    have HC := Lib.hid hc
    have HXX := Lib.hid hxx
    have HB := Lib.hid hb
    have HR := Lib.hid hr
    clear hal hrd hsf hc hxx hb hr
    by_cases hlt : j < 11
    · have hd : decide ((j : Int) < 11) = true := decide_eq_true (by omega)
      have K := rint_any st (mem_suffix HSF.out HX.out) (Nat.le_trans HSF.out.length_le HL.out) wr
      rw [HRC.out st, HRC.out (intF st).1] at K
      have K := Lib.hid K
      have HST := Lib.hid (intF_suffix st)
      generalize hs2 : (intF st).1 = st2 at *
      generalize hx2 : (intF st).2 = x at *
      have HS2' := Lib.hid hs2
      have HX2' := Lib.hid hx2
      clear hs2 hx2
      go_upto_region 8 with fail
      refine wp_region_lit ?_
      refine wpList_yield (w' := wr) (v := .int .i64 (j : Int)) rfl (by go_simp) ?_
      refine wpList_load_all rfl 70 _ rfl q (rcC st) _ (by go_simp) HC.out Tryd.underlying70 rfl HI70.out ?_
      refine wpList_enter rfl (by go_simp) K.out ?_
      rintro e w5 ⟨rfl, hb5⟩
      refine ⟨_, rfl, ?_⟩
      have hq5 := (hb5.block q (Array.getElem?_eq_some_iff.1 HC.out).1).trans HC.out
      have hx5 := (hb5.block (q + 1) (Array.getElem?_eq_some_iff.1 HXX.out).1).trans HXX.out
      have hr5 := (hb5.block w.heap.size (Array.getElem?_eq_some_iff.1 HR.out).1).trans HR.out
      have hB5 := below_next HB.out hb5
      refine wpList_yield (w' := w5) (v := .tuple #[.agg (rcC st2).toArray, .int .i64 x]) rfl (by go_simp) ?_
      refine wpList_yield (w' := w5) (v := .agg (rcC st2).toArray) rfl (by go_simp) ?_
      refine wpList_yield (w' := w5) (v := .int .i64 x) rfl (by go_simp) ?_
      refine wpList_store_all rfl 70 _ _ rfl q (T := 70) (rcC st2) (by go_simp) (by go_simp) hq5 rfl HI70.out rfl ?_
      intro w6 hw6
      have hx6 := (hw6.rest (q + 1) (by omega)).trans hx5
      have HR6 := Lib.hid ((hw6.rest w.heap.size (by have := HQ.out; omega)).trans hr5)
      have HB6 := Lib.hid (hw6.below hB5 (by have := HQ.out; omega))
      have HC6 := Lib.hid hw6.there
      have HW := Lib.hid ((wrote_refl hx6).set (1 + j) (.int .i64 x))
      have hlen12 : (k0 :: (acc ++ List.replicate (11 - j) 0)).length = 12 := by simp [HAL.out]; omega
      have ec := cell_of_block (o := 1 + j) (v := .int .i64 ((k0 :: (acc ++ List.replicate (11 - j) 0)).getD (1 + j) 0)) hx6 (by
        have := numC_at (xs := k0 :: (acc ++ List.replicate (11 - j) 0)) (i := 1 + j) (by rw [hlen12]; omega)
        simpa using this)
      have ef := free_of_block (1 + j) hx6
      have HSTT := Lib.hid (show k0 :: (acc ++ List.replicate (11 - j) 0) = (k0 :: acc) ++ 0 :: List.replicate (11 - (j + 1)) 0 by rw [show 11 - j = (11 - (j + 1)) + 1 by omega, List.replicate_succ]; rfl)
      clear hw6 hx6 hq5 hx5 hr5 hB5 hb5 K hlen12
      generalize (k0 :: (acc ++ List.replicate (11 - j) 0)).getD (1 + j) 0 = x0 at *
      go_wp2_with fail
      go_roundw
      case rel =>
        refine ⟨j + 1, st2, acc ++ [x], by omega, by go_num, by simp [HAL.out], ?_, HST.out.trans HSF.out, (HW.out.rest _ (by omega)).trans HC6.out, ?_, HW.out.below HB6.out (by have := HQ.out; omega), (HW.out.rest _ (by have := HQ.out; omega)).trans HR6.out⟩
        · rw [HRD.out, show 11 - j = (11 - (j + 1)) + 1 by omega, readA_next, HS2'.out, HX2'.out]
          simp
        · have := HW.out.there
          rw [numC_arr_set, HSTT.out, List.set_append_right _ _ (by simp [HAL.out]; omega), show 1 + j - (k0 :: acc).length = 0 by simp [HAL.out]; omega, List.set_cons_zero] at this
          rw [List.append_assoc]
          exact this
      case measure => simp [intOf]; omega
    · have hd : decide ((j : Int) < 11) = false := decide_eq_false (by omega)
      have hj0 : 11 - j = 0 := by omega
      have hy := HRD.out
      rw [hj0, show readA 0 st = (st, []) from rfl, List.append_nil] at hy
      have hst : st = (readN 12 ⟨bs, 0⟩).1 := by
        have := congrArg Prod.fst HYE.out
        rw [hy] at this
        exact this
      have hxl := HXX.out
      rw [hj0, List.replicate_zero, List.append_nil] at hxl
      have hfx : k0 :: acc = fixK (ysC bs) := by rw [← HFK.out, hy]
      have hfl := fixK_len HYL.out
      rw [hfx] at hxl
      have hrr := HRR.out.1
      rw [← hst] at hrr
      have HRR1 := Lib.hid hrr
      have HFX := Lib.hid (fun h => HRR.out.2 h)
      have HXL := Lib.hid hxl
      have KE := rend_any st
      have KE := Lib.hid KE
      have KRI := Lib.hid (fun W => rright_any hfl W)
      have KCL := Lib.hid (fun W => rclean_any hfl W)
      have HNE := Lib.hid (fun W => eqin27 (cleanL_len (fixK (ysC bs))) hfl W)
      have HL1 := Lib.hid (show (numC (fixK (ysC bs))).length = 12 by rw [numC_len, hfl])
      have HO1 := Lib.hid (numC_one (fixK (ysC bs)))
      have HLD := Lib.hid (fun (W : World) (h : Below wr.heap.size wr W) => (h.block _ (Array.getElem?_eq_some_iff.1 HXL.out).1).trans HXL.out)
      have HLC := Lib.hid (fun (W : World) (h : Below wr.heap.size wr W) => (h.block _ (Array.getElem?_eq_some_iff.1 HC.out).1).trans HC.out)
      have HI1 := Lib.hid (HI27.out _ HL1.out)
      have HLW := Lib.hid (show w.heap.size < wr.heap.size from (Array.getElem?_eq_some_iff.1 HR.out).1)
      clear hy hst hxl hfx hfl hrr
      generalize hen : endF st = en at *
      generalize hzz : numC (fixK (ysC bs)) = z at *
      have HZZ := Lib.hid hzz
      generalize hmc : numC (cleanL (fixK (ysC bs))) = mc at *
      clear hen hzz hmc
      have HRCS := Lib.hid (show (.agg #[.string (strOfNums st.xs), .int .i64 st.bad] : Value) = .agg (rcC st).toArray from rfl)
      rw [HRCS.out] at KE
      have HRCL := Lib.hid (show (rcC st).length = 2 from rfl)
      generalize rcC st = rc at *
      have HI70R := Lib.hid (show (Tryd.prog.info? 70).map (·.size) = some rc.length by rw [HRCL.out]; exact HI70.out)
      by_cases hq0 : en = 0
      · subst hq0
        cases hri : rightL (fixK (ysC bs)) with
        | false =>
          rw [hri] at KRI
          have HRF := Lib.hid (show readB bs = false by rw [HRR1.out, hri]; rfl)
          clear hri
          go_upto_region 9 with fail
          refine Rl.wp_region_rel (fun a b => Below a.heap.size a b) wr (fun a b c h h' => below_next h h') (fun a => Below.refl _ _) hmx (by kernel_rfl) (Below.refl _ _).drew ?_
          refine Rl.textR_run (.agg rc.toArray) (fun ρ => ?_) (fun ρ W hS hd => ?_) ?_
          · go_simp
          · exact Rl.comesToR_load 70 _ rfl q (by go_simp) _ _ (HLC.out W hS) Tryd.underlying70 rfl HI70R.out ⟨rfl, Below.refl _ _⟩
          (try go_simp)
          (refine Rl.textR_run ?_ (fun ρ => ?_) (fun ρ W hS hd => ?_) ?_; rotate_left; (focus go_simp); (focus (obtain ⟨hc, hf⟩ := bcell hS; go_simp; refine (KE.out W).mono ?_; rintro e w1 ⟨rfl, hb⟩; refine ⟨_, rfl, ?_, hb⟩; rfl)); (try go_simp))
          iterate 2 (refine Rl.textR_run ?_ (fun ρ => ?_) (fun ρ W hS hd => ?_) ?_; rotate_left; (focus go_simp); (focus (obtain ⟨hc, hf⟩ := bcell hS; go_simp; first | exact ⟨rfl, Below.refl _ _⟩ | (refine ⟨?_, Below.refl _ _⟩; rfl))); (try go_simp))
          refine Rl.textR_run (.agg z.toArray) (fun ρ => ?_) (fun ρ W hS hd => ?_) ?_
          · go_simp
          · exact Rl.comesToR_load 27 _ rfl (q + 1) (by go_simp) _ _ (HLD.out W hS) Tryd.underlying27 rfl HI1.out ⟨rfl, Below.refl _ _⟩
          (try go_simp)
          (refine Rl.textR_run ?_ (fun ρ => ?_) (fun ρ W hS hd => ?_) ?_; rotate_left; (focus go_simp); (focus (obtain ⟨hc, hf⟩ := bcell hS; go_simp; refine (KRI.out W).mono ?_; rintro e w1 ⟨rfl, hb⟩; refine ⟨_, rfl, ?_, hb⟩; rfl)); (try go_simp))
          iterate 3 (refine Rl.textR_run ?_ (fun ρ => ?_) (fun ρ W hS hd => ?_) ?_; rotate_left; (focus go_simp); (focus (obtain ⟨hc, hf⟩ := bcell hS; go_simp; first | exact ⟨rfl, Below.refl _ _⟩ | (refine ⟨?_, Below.refl _ _⟩; rfl))); (try go_simp))
          iterate 4 (refine Rl.textR_skip (fun ρ => ?_) ?_; (focus (first | rfl | (go_simp; done) | (go_simp; rfl))); (try go_simp))
          (refine Rl.textR_run ?_ (fun ρ => ?_) (fun ρ W hS hd => ?_) ?_; rotate_left; (focus go_simp); (focus (obtain ⟨hc, hf⟩ := bcell hS; go_simp; first | exact ⟨rfl, Below.refl _ _⟩ | (refine ⟨?_, Below.refl _ _⟩; rfl))); (try go_simp))
          refine Rl.textR_nil ?_
          intro ρ w7 hg hk
          have HZ7 := Lib.hid ((hg.block _ HLW.out).trans HR.out)
          have HB7 := Lib.hid (below_next HB.out hg)
          clear hg hk HLD HLC
          dsimp only
          clear ρ
          go_upto_region 10 with fail
          refine wp_region_lit ?_
          refine wpList_yield (w' := w7) (v := .agg (numC (List.replicate 12 0)).toArray) rfl (by go_simp; rfl) ?_
          refine wpList_store_all rfl 27 _ _ rfl w.heap.size (T := 27) (numC (List.replicate 12 0)) (by go_simp) (by go_simp) HZ7.out rfl (by kernel_rfl) rfl ?_
          intro w8 hw8
          have HW8 := Lib.hid hw8.there
          have HB8 := Lib.hid (hw8.below HB7.out (Nat.le_refl _))
          clear hw8
          go_wp2_with fail
          exact bodyPost_ret (results_all2 (numC (List.replicate 12 0)) _ Tryd.results18 (by go_simp) HW8.out Tryd.underlying27 rfl (by kernel_rfl)) rfl ⟨by rw [gotC_no HRF.out, codeC_no HRF.out]; rfl, HB8.out⟩
        | true =>
          rw [hri] at KRI
          cases hcmp : (cleanL (fixK (ysC bs)) == fixK (ysC bs)) with
          | false =>
            have HRF := Lib.hid (show readB bs = false by rw [HRR1.out, hri, hcmp]; rfl)
            rw [hcmp] at HNE
            clear hri hcmp
            go_upto_region 9 with fail
            refine Rl.wp_region_rel (fun a b => Below a.heap.size a b) wr (fun a b c h h' => below_next h h') (fun a => Below.refl _ _) hmx (by kernel_rfl) (Below.refl _ _).drew ?_
            refine Rl.textR_run (.agg rc.toArray) (fun ρ => ?_) (fun ρ W hS hd => ?_) ?_
            · go_simp
            · exact Rl.comesToR_load 70 _ rfl q (by go_simp) _ _ (HLC.out W hS) Tryd.underlying70 rfl HI70R.out ⟨rfl, Below.refl _ _⟩
            (try go_simp)
            (refine Rl.textR_run ?_ (fun ρ => ?_) (fun ρ W hS hd => ?_) ?_; rotate_left; (focus go_simp); (focus (obtain ⟨hc, hf⟩ := bcell hS; go_simp; refine (KE.out W).mono ?_; rintro e w1 ⟨rfl, hb⟩; refine ⟨_, rfl, ?_, hb⟩; rfl)); (try go_simp))
            iterate 2 (refine Rl.textR_run ?_ (fun ρ => ?_) (fun ρ W hS hd => ?_) ?_; rotate_left; (focus go_simp); (focus (obtain ⟨hc, hf⟩ := bcell hS; go_simp; first | exact ⟨rfl, Below.refl _ _⟩ | (refine ⟨?_, Below.refl _ _⟩; rfl))); (try go_simp))
            refine Rl.textR_run (.agg z.toArray) (fun ρ => ?_) (fun ρ W hS hd => ?_) ?_
            · go_simp
            · exact Rl.comesToR_load 27 _ rfl (q + 1) (by go_simp) _ _ (HLD.out W hS) Tryd.underlying27 rfl HI1.out ⟨rfl, Below.refl _ _⟩
            (try go_simp)
            (refine Rl.textR_run ?_ (fun ρ => ?_) (fun ρ W hS hd => ?_) ?_; rotate_left; (focus go_simp); (focus (obtain ⟨hc, hf⟩ := bcell hS; go_simp; refine (KRI.out W).mono ?_; rintro e w1 ⟨rfl, hb⟩; refine ⟨_, rfl, ?_, hb⟩; rfl)); (try go_simp))
            iterate 3 (refine Rl.textR_run ?_ (fun ρ => ?_) (fun ρ W hS hd => ?_) ?_; rotate_left; (focus go_simp); (focus (obtain ⟨hc, hf⟩ := bcell hS; go_simp; first | exact ⟨rfl, Below.refl _ _⟩ | (refine ⟨?_, Below.refl _ _⟩; rfl))); (try go_simp))
            refine Rl.textR_run (.agg z.toArray) (fun ρ => ?_) (fun ρ W hS hd => ?_) ?_
            · go_simp
            · exact Rl.comesToR_load 27 _ rfl (q + 1) (by go_simp) _ _ (HLD.out W hS) Tryd.underlying27 rfl HI1.out ⟨rfl, Below.refl _ _⟩
            (try go_simp)
            (refine Rl.textR_run ?_ (fun ρ => ?_) (fun ρ W hS hd => ?_) ?_; rotate_left; (focus go_simp); (focus (obtain ⟨hc, hf⟩ := bcell hS; go_simp; refine (KCL.out W).mono ?_; rintro e w1 ⟨rfl, hb⟩; refine ⟨_, rfl, ?_, hb⟩; rfl)); (try go_simp))
            refine Rl.textR_run (.agg z.toArray) (fun ρ => ?_) (fun ρ W hS hd => ?_) ?_
            · go_simp
            · exact Rl.comesToR_load 27 _ rfl (q + 1) (by go_simp) _ _ (HLD.out W hS) Tryd.underlying27 rfl HI1.out ⟨rfl, Below.refl _ _⟩
            (try go_simp)
            refine Rl.textR_run (.bool (!false)) (fun ρ => ?_) (fun ρ W hS hd => ?_) ?_
            · go_simp
            · exact Rl.comesToR_neq 27 _ _ _ rfl _ _ (by go_simp) (by go_simp) (by kernel_rfl) (HNE.out W) ⟨rfl, Below.refl _ _⟩
            (try go_simp)
            (refine Rl.textR_run ?_ (fun ρ => ?_) (fun ρ W hS hd => ?_) ?_; rotate_left; (focus go_simp); (focus (obtain ⟨hc, hf⟩ := bcell hS; go_simp; first | exact ⟨rfl, Below.refl _ _⟩ | (refine ⟨?_, Below.refl _ _⟩; rfl))); (try go_simp))
            refine Rl.textR_nil ?_
            intro ρ w7 hg hk
            have HZ7 := Lib.hid ((hg.block _ HLW.out).trans HR.out)
            have HB7 := Lib.hid (below_next HB.out hg)
            clear hg hk HLD HLC
            dsimp only
            clear ρ
            go_upto_region 10 with fail
            refine wp_region_lit ?_
            refine wpList_yield (w' := w7) (v := .agg (numC (List.replicate 12 0)).toArray) rfl (by go_simp; rfl) ?_
            refine wpList_store_all rfl 27 _ _ rfl w.heap.size (T := 27) (numC (List.replicate 12 0)) (by go_simp) (by go_simp) HZ7.out rfl (by kernel_rfl) rfl ?_
            intro w8 hw8
            have HW8 := Lib.hid hw8.there
            have HB8 := Lib.hid (hw8.below HB7.out (Nat.le_refl _))
            clear hw8
            go_wp2_with fail
            exact bodyPost_ret (results_all2 (numC (List.replicate 12 0)) _ Tryd.results18 (by go_simp) HW8.out Tryd.underlying27 rfl (by kernel_rfl)) rfl ⟨by rw [gotC_no HRF.out, codeC_no HRF.out]; rfl, HB8.out⟩
          | true =>
            have HRT := Lib.hid (show readB bs = true by rw [HRR1.out, hri, hcmp]; rfl)
            rw [hcmp] at HNE
            clear hri hcmp
            go_upto_region 9 with fail
            refine Rl.wp_region_rel (fun a b => Below a.heap.size a b) wr (fun a b c h h' => below_next h h') (fun a => Below.refl _ _) hmx (by kernel_rfl) (Below.refl _ _).drew ?_
            refine Rl.textR_run (.agg rc.toArray) (fun ρ => ?_) (fun ρ W hS hd => ?_) ?_
            · go_simp
            · exact Rl.comesToR_load 70 _ rfl q (by go_simp) _ _ (HLC.out W hS) Tryd.underlying70 rfl HI70R.out ⟨rfl, Below.refl _ _⟩
            (try go_simp)
            (refine Rl.textR_run ?_ (fun ρ => ?_) (fun ρ W hS hd => ?_) ?_; rotate_left; (focus go_simp); (focus (obtain ⟨hc, hf⟩ := bcell hS; go_simp; refine (KE.out W).mono ?_; rintro e w1 ⟨rfl, hb⟩; refine ⟨_, rfl, ?_, hb⟩; rfl)); (try go_simp))
            iterate 2 (refine Rl.textR_run ?_ (fun ρ => ?_) (fun ρ W hS hd => ?_) ?_; rotate_left; (focus go_simp); (focus (obtain ⟨hc, hf⟩ := bcell hS; go_simp; first | exact ⟨rfl, Below.refl _ _⟩ | (refine ⟨?_, Below.refl _ _⟩; rfl))); (try go_simp))
            refine Rl.textR_run (.agg z.toArray) (fun ρ => ?_) (fun ρ W hS hd => ?_) ?_
            · go_simp
            · exact Rl.comesToR_load 27 _ rfl (q + 1) (by go_simp) _ _ (HLD.out W hS) Tryd.underlying27 rfl HI1.out ⟨rfl, Below.refl _ _⟩
            (try go_simp)
            (refine Rl.textR_run ?_ (fun ρ => ?_) (fun ρ W hS hd => ?_) ?_; rotate_left; (focus go_simp); (focus (obtain ⟨hc, hf⟩ := bcell hS; go_simp; refine (KRI.out W).mono ?_; rintro e w1 ⟨rfl, hb⟩; refine ⟨_, rfl, ?_, hb⟩; rfl)); (try go_simp))
            iterate 3 (refine Rl.textR_run ?_ (fun ρ => ?_) (fun ρ W hS hd => ?_) ?_; rotate_left; (focus go_simp); (focus (obtain ⟨hc, hf⟩ := bcell hS; go_simp; first | exact ⟨rfl, Below.refl _ _⟩ | (refine ⟨?_, Below.refl _ _⟩; rfl))); (try go_simp))
            refine Rl.textR_run (.agg z.toArray) (fun ρ => ?_) (fun ρ W hS hd => ?_) ?_
            · go_simp
            · exact Rl.comesToR_load 27 _ rfl (q + 1) (by go_simp) _ _ (HLD.out W hS) Tryd.underlying27 rfl HI1.out ⟨rfl, Below.refl _ _⟩
            (try go_simp)
            (refine Rl.textR_run ?_ (fun ρ => ?_) (fun ρ W hS hd => ?_) ?_; rotate_left; (focus go_simp); (focus (obtain ⟨hc, hf⟩ := bcell hS; go_simp; refine (KCL.out W).mono ?_; rintro e w1 ⟨rfl, hb⟩; refine ⟨_, rfl, ?_, hb⟩; rfl)); (try go_simp))
            refine Rl.textR_run (.agg z.toArray) (fun ρ => ?_) (fun ρ W hS hd => ?_) ?_
            · go_simp
            · exact Rl.comesToR_load 27 _ rfl (q + 1) (by go_simp) _ _ (HLD.out W hS) Tryd.underlying27 rfl HI1.out ⟨rfl, Below.refl _ _⟩
            (try go_simp)
            refine Rl.textR_run (.bool (!true)) (fun ρ => ?_) (fun ρ W hS hd => ?_) ?_
            · go_simp
            · exact Rl.comesToR_neq 27 _ _ _ rfl _ _ (by go_simp) (by go_simp) (by kernel_rfl) (HNE.out W) ⟨rfl, Below.refl _ _⟩
            (try go_simp)
            (refine Rl.textR_run ?_ (fun ρ => ?_) (fun ρ W hS hd => ?_) ?_; rotate_left; (focus go_simp); (focus (obtain ⟨hc, hf⟩ := bcell hS; go_simp; first | exact ⟨rfl, Below.refl _ _⟩ | (refine ⟨?_, Below.refl _ _⟩; rfl))); (try go_simp))
            refine Rl.textR_nil ?_
            intro ρ w7 hg hk
            have HP7 := Lib.hid (HLD.out w7 hg)
            have HZ7 := Lib.hid ((hg.block _ HLW.out).trans HR.out)
            have HB7 := Lib.hid (below_next HB.out hg)
            clear hg hk HLD HLC
            dsimp only
            clear ρ
            go_upto_region 11 with fail
            refine wp_region_lit ?_
            refine wpList_load_all rfl 27 _ rfl (q + 1) z _ (by go_simp) HP7.out Tryd.underlying27 rfl HI1.out ?_
            refine wpList_store_all rfl 27 _ _ rfl w.heap.size (T := 27) z (by go_simp) (by go_simp) HZ7.out (by rw [HL1.out]; rfl) HI1.out HO1.out ?_
            intro w8 hw8
            have HW8 := Lib.hid hw8.there
            have HB8 := Lib.hid (hw8.below HB7.out (Nat.le_refl _))
            clear hw8
            go_wp2_with fail
            exact bodyPost_ret (results_all2 z _ Tryd.results18 (by go_simp) HW8.out Tryd.underlying27 rfl HI1.out) rfl ⟨by rw [gotC_yes HRT.out, codeC_yes HRT.out, ← HFX.out HRT.out, HZZ.out]; rfl, HB8.out⟩
      · have hqb : (en == 0) = false := by rw [beq_eq_false_iff_ne]; exact hq0
        have HRF := Lib.hid (show readB bs = false by rw [HRR1.out, hqb]; rfl)
        go_upto_region 9 with fail
        refine Rl.wp_region_rel (fun a b => Below a.heap.size a b) wr (fun a b c h h' => below_next h h') (fun a => Below.refl _ _) hmx (by kernel_rfl) (Below.refl _ _).drew ?_
        refine Rl.textR_run (.agg rc.toArray) (fun ρ => ?_) (fun ρ W hS hd => ?_) ?_
        · go_simp
        · exact Rl.comesToR_load 70 _ rfl q (by go_simp) _ _ (HLC.out W hS) Tryd.underlying70 rfl HI70R.out ⟨rfl, Below.refl _ _⟩
        (try go_simp)
        (refine Rl.textR_run ?_ (fun ρ => ?_) (fun ρ W hS hd => ?_) ?_; rotate_left; (focus go_simp); (focus (obtain ⟨hc, hf⟩ := bcell hS; go_simp; refine (KE.out W).mono ?_; rintro e w1 ⟨rfl, hb⟩; refine ⟨_, rfl, ?_, hb⟩; rfl)); (try go_simp))
        iterate 2 (refine Rl.textR_run ?_ (fun ρ => ?_) (fun ρ W hS hd => ?_) ?_; rotate_left; (focus go_simp); (focus (obtain ⟨hc, hf⟩ := bcell hS; go_simp; first | exact ⟨rfl, Below.refl _ _⟩ | (refine ⟨?_, Below.refl _ _⟩; rfl))); (try go_simp))
        iterate 3 (refine Rl.textR_skip (fun ρ => ?_) ?_; (focus (first | rfl | (go_simp; done) | (go_simp; rfl))); (try go_simp))
        iterate 2 (refine Rl.textR_run ?_ (fun ρ => ?_) (fun ρ W hS hd => ?_) ?_; rotate_left; (focus go_simp); (focus (obtain ⟨hc, hf⟩ := bcell hS; go_simp; first | exact ⟨rfl, Below.refl _ _⟩ | (refine ⟨?_, Below.refl _ _⟩; rfl))); (try go_simp))
        iterate 4 (refine Rl.textR_skip (fun ρ => ?_) ?_; (focus (first | rfl | (go_simp; done) | (go_simp; rfl))); (try go_simp))
        (refine Rl.textR_run ?_ (fun ρ => ?_) (fun ρ W hS hd => ?_) ?_; rotate_left; (focus go_simp); (focus (obtain ⟨hc, hf⟩ := bcell hS; go_simp; first | exact ⟨rfl, Below.refl _ _⟩ | (refine ⟨?_, Below.refl _ _⟩; rfl))); (try go_simp))
        refine Rl.textR_nil ?_
        intro ρ w7 hg hk
        have HZ7 := Lib.hid ((hg.block _ HLW.out).trans HR.out)
        have HB7 := Lib.hid (below_next HB.out hg)
        clear hg hk HLD HLC
        dsimp only
        clear ρ
        go_upto_region 10 with fail
        refine wp_region_lit ?_
        refine wpList_yield (w' := w7) (v := .agg (numC (List.replicate 12 0)).toArray) rfl (by go_simp; rfl) ?_
        refine wpList_store_all rfl 27 _ _ rfl w.heap.size (T := 27) (numC (List.replicate 12 0)) (by go_simp) (by go_simp) HZ7.out rfl (by kernel_rfl) rfl ?_
        intro w8 hw8
        have HW8 := Lib.hid hw8.there
        have HB8 := Lib.hid (hw8.below HB7.out (Nat.le_refl _))
        clear hw8
        go_wp2_with fail
        exact bodyPost_ret (results_all2 (numC (List.replicate 12 0)) _ Tryd.results18 (by go_simp) HW8.out Tryd.underlying27 rfl (by kernel_rfl)) rfl ⟨by rw [gotC_no HRF.out, codeC_no HRF.out]; rfl, HB8.out⟩
end Go.Proofs.YtlejicmpefdhpaaDoor
