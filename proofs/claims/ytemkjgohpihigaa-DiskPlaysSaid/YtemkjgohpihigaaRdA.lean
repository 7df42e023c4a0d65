/- The document's disk: Append, Sync, Reset, over a list of ten cells. No condition but the numbers' bounds. -/
import Derived.Test.YtemkjgohpihigaaRdP
namespace Go.Proofs.Ytemkjgohpihigaa
set_option linter.unusedVariables false
open Go.ChangeShapes Go.WideShapes Go.ChangeAt Go.RowKit
attribute [local go_sem ↓] Go.wp_at_zero Go.wp_at_succ comesTo_value_eq comesTo_skip_eq comesTo_enter_eq

set_option maxRecDepth 100000 in
set_option maxHeartbeats 1000000 in
theorem rappend_c {st : DS} (hst : DFit st) (f : Int) (xs : List Int) (hxl : xs.length ≤ 1099511627776) (w : World) : Calls Try.prog 6 #[.agg (rdC st).toArray, .int .i64 f, .string (strOfNums xs)] w fun e w' => e = .returned (.tuple #[.agg (rdC (callF 0 st f xs).1).toArray, .int .i64 (callF 0 st f xs).2]) ∧ Below w.heap.size w w' := by
  have HLN := Lib.hid (rdC_len st)
  have HI := Lib.hid (fun st' => show (Try.prog.info? 28).map (·.size) = some (rdC st').length from by rw [rdC_len]; kernel_rfl)
  have HO := Lib.hid (fun st' => rdC_one st')
  have KM := Lib.hid (fun W => rmay_c st f W)
  have KC := Lib.hid (fun W => rcall_c st hst.left.2 W)
  have HST := Lib.hid hst
  have hCS : ∀ k, k < 4 → (rdC st).toArray[k]? = some (.string (strOfNums (st.b k))) := fun k hk => rdC_b st hk
  have HCS := Lib.hid hCS
  clear hst hCS
  generalize hl : rdC st = l at *
  have HL := Lib.hid hl
  clear hl
  go_enter Try.func6, Try.ntmps6
  go_upto_region 1 with fail
  generalize hW : (w.alloc (.cells l.toArray 28)).alloc (.cells #[.string ⟨#[]⟩, .string ⟨#[]⟩, .string ⟨#[]⟩, .string ⟨#[]⟩, .int .i64 0, .int .i64 0, .int .i64 0, .int .i64 0, .int .i64 0, .bool false] 28) = U
  have hC : U.heap[w.heap.size]? = some (.cells l.toArray 28 (0, 0)) := by rw [← hW]; exact ((below_alloc (Below.refl _ _) _).block _ (by simp)).trans (World.alloc_heap_new w _)
  have hZ : U.heap[w.heap.size + 1]? = some (.cells #[.string ⟨#[]⟩, .string ⟨#[]⟩, .string ⟨#[]⟩, .string ⟨#[]⟩, .int .i64 0, .int .i64 0, .int .i64 0, .int .i64 0, .int .i64 0, .bool false] 28 (0, 0)) := by
    rw [← hW]
    have := World.alloc_heap_new (w.alloc (.cells l.toArray 28)) (.cells #[.string ⟨#[]⟩, .string ⟨#[]⟩, .string ⟨#[]⟩, .string ⟨#[]⟩, .int .i64 0, .int .i64 0, .int .i64 0, .int .i64 0, .int .i64 0, .bool false] 28)
    rwa [show (w.alloc (.cells l.toArray 28)).heap.size = w.heap.size + 1 by simp] at this
  have HB := Lib.hid (show Below w.heap.size w U by rw [← hW]; exact (by repeat (first | exact Below.refl _ _ | assumption | refine below_drewN ?_ _ | refine Below.drew ?_ | refine below_alloc ?_ _ | refine Below.alloc ?_ (by first | omega | (simp; done) | (simp; omega)) _ | refine Below.setCell ?_ (Below.size (by assumption)) _ | refine Below.setCell ?_ (by first | omega | (simp; done) | (simp; omega)) _ | (refine Below.trans ?_ (Below.mono (by assumption) (by first | omega | (simp; done) | (simp; omega)))) | refine below_next ?_ (by assumption))))
  have HS := Lib.hid (show U.heap.size = w.heap.size + 2 by rw [← hW]; simp)
  have HC := Lib.hid hC
  have HZ := Lib.hid hZ
  clear hW hC hZ
  refine wp_region_lit ?_
  refine wpList_load_all rfl 28 _ rfl w.heap.size l _ (by go_simp) HC.out Try.underlying28 rfl (HL.out ▸ HI.out st) ?_
  refine wpList_yield (w' := U) (v := .int .i64 f) rfl (by go_simp) ?_
  refine wpList_enter rfl (by go_simp) (KM.out U) ?_
  rintro e w2 ⟨rfl, hb2⟩
  refine ⟨_, rfl, ?_⟩
  have HB2 := Lib.hid (below_next HB.out hb2)
  have HC2 := Lib.hid ((hb2.block _ (by have := HS.out; omega)).trans HC.out)
  have HZ2 := Lib.hid ((hb2.block _ (by have := HS.out; omega)).trans HZ.out)
  clear hb2 HC HZ HB
  by_cases hwr : wrongF st.down f = 0
  · obtain ⟨hdn, h0, h3⟩ := wrongF_zero hwr
    obtain ⟨k, rfl⟩ : ∃ k : Nat, f = (k : Int) := ⟨f.toNat, by omega⟩
    have hk : k < 4 := by omega
    have hki : (k : Int) < 4 := by omega
    have hk0 : (0 : Int) ≤ (k : Int) := by omega
    rw [hwr]
    have HWR := Lib.hid hwr
    have HDN := Lib.hid hdn
    have hfk := HST.out.fits k hk
    have hck := cell_of_block (o := k) HC2.out (HCS.out k hk)
    clear hwr hdn h0 h3
    have hsz1 : (strOfNums xs).size = xs.length := size_str xs
    have hsz2 : (strOfNums (st.b k)).size = (st.b k).length := size_str _
    have hsub : IntKind.i64.wrap (1048576 - ((st.b k).length : Int)) = 1048576 - ((st.b k).length : Int) := IntWalk.i64_in _ (by omega)
    by_cases hfull : 1048576 - ((st.b k).length : Int) < xs.length
    · have hd : decide ((xs.length : Int) > 1048576 - ((st.b k).length : Int)) = true := decide_eq_true (by omega)
      have HEQ := Lib.hid (callF_full (q := 0) HWR.out hfull)
      have HX := Lib.hid (HL.out ▸ HC2.out)
      clear hfull
      go_upto_region 5 with fail
      refine wp_region_lit ?_
      refine wpList_load_all rfl 28 _ rfl w.heap.size l _ (by go_simp) HC2.out Try.underlying28 rfl (HL.out ▸ HI.out st) ?_
      refine wpList_store_all rfl 28 _ _ rfl (w.heap.size + 1) (T := 28) l (by go_simp) (by go_simp) HZ2.out (by rw [HLN.out]; rfl) (HL.out ▸ HI.out st) (HL.out ▸ HO.out st) ?_
      intro w9 hw9
      have HW9 := Lib.hid hw9.there
      have HB9 := Lib.hid (hw9.below HB2.out (by omega))
      clear hw9
      go_wp2_with fail
      exact bodyPost_ret (results_all2 l _ Try.results6 (by go_simp) HW9.out Try.underlying28 rfl (HL.out ▸ HI.out st)) rfl ⟨by rw [HEQ.out, ← HL.out]; rfl, HB9.out⟩
    · have hd : decide ((xs.length : Int) > 1048576 - ((st.b k).length : Int)) = false := decide_eq_false (by omega)
      have HFU := Lib.hid (show (xs.length : Int) ≤ 1048576 - ((st.b k).length : Int) by omega)
      have hsum : (st.b k).length + xs.length ≤ 9223372036854775807 := by omega
      clear hfull
      go_upto_region 6 with fail
      refine wp_region_lit ?_
      refine wpList_load_all rfl 28 _ rfl w.heap.size l _ (by go_simp) HC2.out Try.underlying28 rfl (HL.out ▸ HI.out st) ?_
      refine wpList_enter rfl (by go_simp) (KC.out w2) ?_
      rintro e w3 ⟨rfl, hb3⟩
      refine ⟨_, rfl, ?_⟩
      have hC3 := (hb3.block _ (Array.getElem?_eq_some_iff.1 HC2.out).1).trans HC2.out
      have hZ3 := (hb3.block _ (Array.getElem?_eq_some_iff.1 HZ2.out).1).trans HZ2.out
      have hB3 := below_next HB2.out hb3
      refine wpList_yield (w' := w3) (v := .tuple #[.agg (rdC (rcallS st)).toArray, .bool (!decide (st.left = 0))]) rfl (by go_simp) ?_
      refine wpList_yield (w' := w3) (v := .agg (rdC (rcallS st)).toArray) rfl (by go_simp) ?_
      refine wpList_yield (w' := w3) (v := .bool (!decide (st.left = 0))) rfl (by go_simp) ?_
      refine wpList_store_all rfl 28 _ _ rfl w.heap.size (T := 28) (rdC (rcallS st)) (by go_simp) (by go_simp) hC3 (by rw [rdC_len]; simp [HLN.out]) (HI.out _) (HO.out _) ?_
      intro w4 hw4
      have HD := Lib.hid hw4.there
      have HZ4 := Lib.hid ((hw4.rest (w.heap.size + 1) (by omega)).trans hZ3)
      have HB4 := Lib.hid (hw4.below hB3 (Nat.le_refl _))
      clear hw4 hC3 hZ3 hB3 hb3 hck
      have hck := cell_of_block (o := k) HD.out (rdC_b (rcallS st) hk)
      have hfr := free_of_block k HD.out
      rw [show (rcallS st).b = st.b from rfl] at hck
      have HAP := Lib.hid (rstr_append (st.b k) xs)
      have hW5 := (wrote_refl HD.out).set k (.string (strOfNums (st.b k ++ xs)))
      rw [rdC_setB _ hk] at hW5
      have HW5 := Lib.hid hW5
      clear hW5
      go_upto_region 7 with fail
      refine wp_region_lit ?_
      iterate 2 refine wpList_yield (w' := w4) (v := .int .i64 (k : Int)) rfl (by go_simp) ?_
      refine wpList_yield (w' := w4) (v := .pointer (some ⟨w.heap.size, 0, none⟩)) rfl (by go_simp) ?_
      refine wpList_yield (w' := w4) (v := .pointer (some ⟨w.heap.size, k, none⟩)) rfl (by go_simp) ?_
      refine wpList_yield (w' := w4) (v := .string (strOfNums (st.b k))) rfl (by go_simp) ?_
      refine wpList_yield (w' := w4) (v := .string (strOfNums xs)) rfl (by go_simp) ?_
      refine wpList_yield (w' := w4) (v := .string (strOfNums (st.b k ++ xs))) rfl (by rw [← HAP.out]; go_simp) ?_
      have HSP := Lib.hid (show ∀ x : Value, x = .string (strOfNums (st.b k ++ xs)) → x = .string (strOfNums (st.b k ++ xs)) from fun _ h => h)
      generalize strOfNums (st.b k ++ xs) = SX at *
      go_upto_region 8 with fail
      have HD5 := Lib.hid HW5.out.there
      have HZ5 := Lib.hid ((HW5.out.rest (w.heap.size + 1) (by omega)).trans HZ4.out)
      have HB5 := Lib.hid (HW5.out.below HB4.out (Nat.le_refl _))
      generalize w4.setCell ⟨w.heap.size, k, none⟩ (.string SX) = w5 at *
      clear hck hfr
      by_cases hlf : st.left = 0
      · have hdl : decide (st.left = 0) = true := decide_eq_true hlf
        have HE := Lib.hid (show callF 0 st (k : Int) xs = ({ rcallS st with b := upd (rcallS st).b k (st.b k ++ xs) }, 17) by rw [callF_downs HWR.out (Int.not_lt.2 HFU.out) hlf, if_pos rfl, rcall_downs hlf]; rfl)
        clear hlf
        go_upto_region 9 with fail
        refine wp_region_lit ?_
        refine wpList_load_all rfl 28 _ rfl w.heap.size (rdC { rcallS st with b := upd (rcallS st).b k (st.b k ++ xs) }) _ (by go_simp) HD5.out Try.underlying28 rfl (HI.out _) ?_
        refine wpList_store_all rfl 28 _ _ rfl (w.heap.size + 1) (T := 28) (rdC { rcallS st with b := upd (rcallS st).b k (st.b k ++ xs) }) (by go_simp) (by go_simp) HZ5.out rfl (HI.out _) (HO.out _) ?_
        intro w9 hw9
        have HW9 := Lib.hid hw9.there
        have HB9 := Lib.hid (hw9.below HB5.out (by omega))
        clear hw9
        go_wp2_with fail
        exact bodyPost_ret (results_all2 (rdC { rcallS st with b := upd (rcallS st).b k (st.b k ++ xs) }) _ Try.results6 (by go_simp) HW9.out Try.underlying28 rfl (HI.out _)) rfl ⟨by rw [HE.out]; rfl, HB9.out⟩
      · have hdl : decide (st.left = 0) = false := decide_eq_false hlf
        have HE := Lib.hid (show callF 0 st (k : Int) xs = ({ rcallS st with b := upd (rcallS st).b k (st.b k ++ xs) }, 0) by rw [callF_done HWR.out (Int.not_lt.2 HFU.out) hlf, rcall_done hlf]; rfl)
        clear hlf
        go_upto_region 10 with fail
        refine wp_region_lit ?_
        refine wpList_load_all rfl 28 _ rfl w.heap.size (rdC { rcallS st with b := upd (rcallS st).b k (st.b k ++ xs) }) _ (by go_simp) HD5.out Try.underlying28 rfl (HI.out _) ?_
        refine wpList_store_all rfl 28 _ _ rfl (w.heap.size + 1) (T := 28) (rdC { rcallS st with b := upd (rcallS st).b k (st.b k ++ xs) }) (by go_simp) (by go_simp) HZ5.out rfl (HI.out _) (HO.out _) ?_
        intro w9 hw9
        have HW9 := Lib.hid hw9.there
        have HB9 := Lib.hid (hw9.below HB5.out (by omega))
        clear hw9
        go_wp2_with fail
        exact bodyPost_ret (results_all2 (rdC { rcallS st with b := upd (rcallS st).b k (st.b k ++ xs) }) _ Try.results6 (by go_simp) HW9.out Try.underlying28 rfl (HI.out _)) rfl ⟨by rw [HE.out]; rfl, HB9.out⟩
  · have HEQ := Lib.hid (callF_wrong (q := 0) (xs := xs) hwr)
    generalize hcc : wrongF st.down f = cc at *
    have hq : (cc == 0) = false := by rw [beq_eq_false_iff_ne]; exact hwr
    have HCCC := Lib.hid hcc
    clear hwr hcc
    go_upto_region 3 with fail
    refine wp_region_lit ?_
    refine wpList_load_all rfl 28 _ rfl w.heap.size l _ (by go_simp) HC2.out Try.underlying28 rfl (HL.out ▸ HI.out st) ?_
    refine wpList_yield (w' := w2) (v := .int .i64 cc) rfl (by go_simp) ?_
    refine wpList_store_all rfl 28 _ _ rfl (w.heap.size + 1) (T := 28) l (by go_simp) (by go_simp) HZ2.out (by rw [HLN.out]; rfl) (HL.out ▸ HI.out st) (HL.out ▸ HO.out st) ?_
    intro w9 hw9
    have HW9 := Lib.hid hw9.there
    have HB9 := Lib.hid (hw9.below HB2.out (by omega))
    clear hw9
    go_wp2_with fail
    exact bodyPost_ret (results_all2 l _ Try.results6 (by go_simp) HW9.out Try.underlying28 rfl (HL.out ▸ HI.out st)) rfl ⟨by rw [HEQ.out, ← HL.out]; rfl, HB9.out⟩
set_option maxRecDepth 100000 in
set_option maxHeartbeats 1000000 in
theorem rsync_c {st : DS} (hst : DFit st) (f : Int) (w : World) : Calls Try.prog 8 #[.agg (rdC st).toArray, .int .i64 f] w fun e w' => e = .returned (.tuple #[.agg (rdC (callF 1 st f []).1).toArray, .int .i64 (callF 1 st f []).2]) ∧ Below w.heap.size w w' := by
  have HLN := Lib.hid (rdC_len st)
  have HI := Lib.hid (fun st' => show (Try.prog.info? 28).map (·.size) = some (rdC st').length from by rw [rdC_len]; kernel_rfl)
  have HO := Lib.hid (fun st' => rdC_one st')
  have KM := Lib.hid (fun W => rmay_c st f W)
  have KC := Lib.hid (fun W => rcall_c st hst.left.2 W)
  have HST := Lib.hid hst
  have hCS : ∀ k, k < 4 → (rdC st).toArray[k]? = some (.string (strOfNums (st.b k))) := fun k hk => rdC_b st hk
  have HCS := Lib.hid hCS
  clear hst hCS
  generalize hl : rdC st = l at *
  have HL := Lib.hid hl
  clear hl
  go_enter Try.func8, Try.ntmps8
  go_upto_region 1 with fail
  generalize hW : (w.alloc (.cells l.toArray 28)).alloc (.cells #[.string ⟨#[]⟩, .string ⟨#[]⟩, .string ⟨#[]⟩, .string ⟨#[]⟩, .int .i64 0, .int .i64 0, .int .i64 0, .int .i64 0, .int .i64 0, .bool false] 28) = U
  have hC : U.heap[w.heap.size]? = some (.cells l.toArray 28 (0, 0)) := by rw [← hW]; exact ((below_alloc (Below.refl _ _) _).block _ (by simp)).trans (World.alloc_heap_new w _)
  have hZ : U.heap[w.heap.size + 1]? = some (.cells #[.string ⟨#[]⟩, .string ⟨#[]⟩, .string ⟨#[]⟩, .string ⟨#[]⟩, .int .i64 0, .int .i64 0, .int .i64 0, .int .i64 0, .int .i64 0, .bool false] 28 (0, 0)) := by
    rw [← hW]
    have := World.alloc_heap_new (w.alloc (.cells l.toArray 28)) (.cells #[.string ⟨#[]⟩, .string ⟨#[]⟩, .string ⟨#[]⟩, .string ⟨#[]⟩, .int .i64 0, .int .i64 0, .int .i64 0, .int .i64 0, .int .i64 0, .bool false] 28)
    rwa [show (w.alloc (.cells l.toArray 28)).heap.size = w.heap.size + 1 by simp] at this
  have HB := Lib.hid (show Below w.heap.size w U by rw [← hW]; exact (by repeat (first | exact Below.refl _ _ | assumption | refine below_drewN ?_ _ | refine Below.drew ?_ | refine below_alloc ?_ _ | refine Below.alloc ?_ (by first | omega | (simp; done) | (simp; omega)) _ | refine Below.setCell ?_ (Below.size (by assumption)) _ | refine Below.setCell ?_ (by first | omega | (simp; done) | (simp; omega)) _ | (refine Below.trans ?_ (Below.mono (by assumption) (by first | omega | (simp; done) | (simp; omega)))) | refine below_next ?_ (by assumption))))
  have HS := Lib.hid (show U.heap.size = w.heap.size + 2 by rw [← hW]; simp)
  have HC := Lib.hid hC
  have HZ := Lib.hid hZ
  clear hW hC hZ
  refine wp_region_lit ?_
  refine wpList_load_all rfl 28 _ rfl w.heap.size l _ (by go_simp) HC.out Try.underlying28 rfl (HL.out ▸ HI.out st) ?_
  refine wpList_yield (w' := U) (v := .int .i64 f) rfl (by go_simp) ?_
  refine wpList_enter rfl (by go_simp) (KM.out U) ?_
  rintro e w2 ⟨rfl, hb2⟩
  refine ⟨_, rfl, ?_⟩
  have HB2 := Lib.hid (below_next HB.out hb2)
  have HC2 := Lib.hid ((hb2.block _ (by have := HS.out; omega)).trans HC.out)
  have HZ2 := Lib.hid ((hb2.block _ (by have := HS.out; omega)).trans HZ.out)
  clear hb2 HC HZ HB
  by_cases hwr : wrongF st.down f = 0
  · obtain ⟨hdn, h0, h3⟩ := wrongF_zero hwr
    obtain ⟨k, rfl⟩ : ∃ k : Nat, f = (k : Int) := ⟨f.toNat, by omega⟩
    have hk : k < 4 := by omega
    have hki : (k : Int) < 4 := by omega
    have hk0 : (0 : Int) ≤ (k : Int) := by omega
    rw [hwr]
    have HWR := Lib.hid hwr
    have HDN := Lib.hid hdn
    have hfk := HST.out.fits k hk
    have hck := cell_of_block (o := k) HC2.out (HCS.out k hk)
    clear hwr hdn h0 h3
    have hfull : ¬ 1048576 - ((st.b k).length : Int) < (([] : List Int).length : Int) := by simp; omega
    have HFU := Lib.hid hfull
    have hsz2 : (strOfNums (st.b k)).size = (st.b k).length := size_str _
    clear hfull
    go_upto_region 4 with fail
    refine wp_region_lit ?_
    refine wpList_load_all rfl 28 _ rfl w.heap.size l _ (by go_simp) HC2.out Try.underlying28 rfl (HL.out ▸ HI.out st) ?_
    refine wpList_enter rfl (by go_simp) (KC.out w2) ?_
    rintro e w3 ⟨rfl, hb3⟩
    refine ⟨_, rfl, ?_⟩
    have hC3 := (hb3.block _ (Array.getElem?_eq_some_iff.1 HC2.out).1).trans HC2.out
    have hZ3 := (hb3.block _ (Array.getElem?_eq_some_iff.1 HZ2.out).1).trans HZ2.out
    have hB3 := below_next HB2.out hb3
    refine wpList_yield (w' := w3) (v := .tuple #[.agg (rdC (rcallS st)).toArray, .bool (!decide (st.left = 0))]) rfl (by go_simp) ?_
    refine wpList_yield (w' := w3) (v := .agg (rdC (rcallS st)).toArray) rfl (by go_simp) ?_
    refine wpList_yield (w' := w3) (v := .bool (!decide (st.left = 0))) rfl (by go_simp) ?_
    refine wpList_store_all rfl 28 _ _ rfl w.heap.size (T := 28) (rdC (rcallS st)) (by go_simp) (by go_simp) hC3 (by rw [rdC_len]; simp [HLN.out]) (HI.out _) (HO.out _) ?_
    intro w4 hw4
    have HD := Lib.hid hw4.there
    have HZ4 := Lib.hid ((hw4.rest (w.heap.size + 1) (by omega)).trans hZ3)
    have HB4 := Lib.hid (hw4.below hB3 (Nat.le_refl _))
    clear hw4 hC3 hZ3 hB3 hb3 hck
    by_cases hlf : st.left = 0
    · have hdl : decide (st.left = 0) = true := decide_eq_true hlf
      have HE := Lib.hid (show callF 1 st (k : Int) [] = (rcallS st, 17) by rw [callF_downs HWR.out HFU.out hlf, if_neg (by decide), rcall_downs hlf])
      clear hlf
      go_upto_region 6 with fail
      refine wp_region_lit ?_
      refine wpList_load_all rfl 28 _ rfl w.heap.size (rdC (rcallS st)) _ (by go_simp) HD.out Try.underlying28 rfl (HI.out _) ?_
      refine wpList_store_all rfl 28 _ _ rfl (w.heap.size + 1) (T := 28) (rdC (rcallS st)) (by go_simp) (by go_simp) HZ4.out rfl (HI.out _) (HO.out _) ?_
      intro w9 hw9
      have HW9 := Lib.hid hw9.there
      have HB9 := Lib.hid (hw9.below HB4.out (by omega))
      clear hw9
      go_wp2_with fail
      exact bodyPost_ret (results_all2 (rdC (rcallS st)) _ Try.results8 (by go_simp) HW9.out Try.underlying28 rfl (HI.out _)) rfl ⟨by rw [HE.out]; rfl, HB9.out⟩
    · have hdl : decide (st.left = 0) = false := decide_eq_false hlf
      have HE := Lib.hid (show callF 1 st (k : Int) [] = ({ rcallS st with s := upd (rcallS st).s k (st.b k).length }, 0) by rw [callF_done HWR.out HFU.out hlf, rcall_done hlf]; rfl)
      have hck := cell_of_block (o := k) HD.out (rdC_b (rcallS st) hk)
      rw [show (rcallS st).b = st.b from rfl] at hck
      have hcs := cell_of_block (o := 4 + k) HD.out (rdC_s (rcallS st) hk)
      have hfs := free_of_block (4 + k) HD.out
      have hW5 := (wrote_refl HD.out).set (4 + k) (.int .i64 ((st.b k).length : Int))
      rw [rdC_setS _ hk] at hW5
      have HW5 := Lib.hid hW5
      clear hW5 hlf
      go_upto_region 8 with fail
      have HD5 := Lib.hid HW5.out.there
      have HZ5 := Lib.hid ((HW5.out.rest (w.heap.size + 1) (by omega)).trans HZ4.out)
      have HB5 := Lib.hid (HW5.out.below HB4.out (Nat.le_refl _))
      clear hck hcs hfs
      generalize w4.setCell ⟨w.heap.size, 4 + k, none⟩ (.int .i64 ((st.b k).length : Int)) = w5 at *
      refine wp_region_lit ?_
      refine wpList_load_all rfl 28 _ rfl w.heap.size (rdC { rcallS st with s := upd (rcallS st).s k (st.b k).length }) _ (by go_simp) HD5.out Try.underlying28 rfl (HI.out _) ?_
      refine wpList_store_all rfl 28 _ _ rfl (w.heap.size + 1) (T := 28) (rdC { rcallS st with s := upd (rcallS st).s k (st.b k).length }) (by go_simp) (by go_simp) HZ5.out rfl (HI.out _) (HO.out _) ?_
      intro w9 hw9
      have HW9 := Lib.hid hw9.there
      have HB9 := Lib.hid (hw9.below HB5.out (by omega))
      clear hw9
      go_wp2_with fail
      exact bodyPost_ret (results_all2 (rdC { rcallS st with s := upd (rcallS st).s k (st.b k).length }) _ Try.results8 (by go_simp) HW9.out Try.underlying28 rfl (HI.out _)) rfl ⟨by rw [HE.out]; rfl, HB9.out⟩
  · have HEQ := Lib.hid (callF_wrong (q := 1) (xs := []) hwr)
    generalize hcc : wrongF st.down f = cc at *
    have hq : (cc == 0) = false := by rw [beq_eq_false_iff_ne]; exact hwr
    have HCCC := Lib.hid hcc
    clear hwr hcc
    go_upto_region 3 with fail
    refine wp_region_lit ?_
    refine wpList_load_all rfl 28 _ rfl w.heap.size l _ (by go_simp) HC2.out Try.underlying28 rfl (HL.out ▸ HI.out st) ?_
    refine wpList_yield (w' := w2) (v := .int .i64 cc) rfl (by go_simp) ?_
    refine wpList_store_all rfl 28 _ _ rfl (w.heap.size + 1) (T := 28) l (by go_simp) (by go_simp) HZ2.out (by rw [HLN.out]; rfl) (HL.out ▸ HI.out st) (HL.out ▸ HO.out st) ?_
    intro w9 hw9
    have HW9 := Lib.hid hw9.there
    have HB9 := Lib.hid (hw9.below HB2.out (by omega))
    clear hw9
    go_wp2_with fail
    exact bodyPost_ret (results_all2 l _ Try.results8 (by go_simp) HW9.out Try.underlying28 rfl (HL.out ▸ HI.out st)) rfl ⟨by rw [HEQ.out, ← HL.out]; rfl, HB9.out⟩
set_option maxRecDepth 100000 in
set_option maxHeartbeats 1000000 in
theorem rreset_c {st : DS} (hst : DFit st) (f : Int) (w : World) : Calls Try.prog 10 #[.agg (rdC st).toArray, .int .i64 f] w fun e w' => e = .returned (.tuple #[.agg (rdC (callF 2 st f []).1).toArray, .int .i64 (callF 2 st f []).2]) ∧ Below w.heap.size w w' := by
  have HLN := Lib.hid (rdC_len st)
  have HI := Lib.hid (fun st' => show (Try.prog.info? 28).map (·.size) = some (rdC st').length from by rw [rdC_len]; kernel_rfl)
  have HO := Lib.hid (fun st' => rdC_one st')
  have KM := Lib.hid (fun W => rmay_c st f W)
  have KC := Lib.hid (fun W => rcall_c st hst.left.2 W)
  have HST := Lib.hid hst
  have hCS : ∀ k, k < 4 → (rdC st).toArray[k]? = some (.string (strOfNums (st.b k))) := fun k hk => rdC_b st hk
  have HCS := Lib.hid hCS
  clear hst hCS
  generalize hl : rdC st = l at *
  have HL := Lib.hid hl
  clear hl
  go_enter Try.func10, Try.ntmps10
  go_upto_region 1 with fail
  generalize hW : (w.alloc (.cells l.toArray 28)).alloc (.cells #[.string ⟨#[]⟩, .string ⟨#[]⟩, .string ⟨#[]⟩, .string ⟨#[]⟩, .int .i64 0, .int .i64 0, .int .i64 0, .int .i64 0, .int .i64 0, .bool false] 28) = U
  have hC : U.heap[w.heap.size]? = some (.cells l.toArray 28 (0, 0)) := by rw [← hW]; exact ((below_alloc (Below.refl _ _) _).block _ (by simp)).trans (World.alloc_heap_new w _)
  have hZ : U.heap[w.heap.size + 1]? = some (.cells #[.string ⟨#[]⟩, .string ⟨#[]⟩, .string ⟨#[]⟩, .string ⟨#[]⟩, .int .i64 0, .int .i64 0, .int .i64 0, .int .i64 0, .int .i64 0, .bool false] 28 (0, 0)) := by
    rw [← hW]
    have := World.alloc_heap_new (w.alloc (.cells l.toArray 28)) (.cells #[.string ⟨#[]⟩, .string ⟨#[]⟩, .string ⟨#[]⟩, .string ⟨#[]⟩, .int .i64 0, .int .i64 0, .int .i64 0, .int .i64 0, .int .i64 0, .bool false] 28)
    rwa [show (w.alloc (.cells l.toArray 28)).heap.size = w.heap.size + 1 by simp] at this
  have HB := Lib.hid (show Below w.heap.size w U by rw [← hW]; exact (by repeat (first | exact Below.refl _ _ | assumption | refine below_drewN ?_ _ | refine Below.drew ?_ | refine below_alloc ?_ _ | refine Below.alloc ?_ (by first | omega | (simp; done) | (simp; omega)) _ | refine Below.setCell ?_ (Below.size (by assumption)) _ | refine Below.setCell ?_ (by first | omega | (simp; done) | (simp; omega)) _ | (refine Below.trans ?_ (Below.mono (by assumption) (by first | omega | (simp; done) | (simp; omega)))) | refine below_next ?_ (by assumption))))
  have HS := Lib.hid (show U.heap.size = w.heap.size + 2 by rw [← hW]; simp)
  have HC := Lib.hid hC
  have HZ := Lib.hid hZ
  clear hW hC hZ
  refine wp_region_lit ?_
  refine wpList_load_all rfl 28 _ rfl w.heap.size l _ (by go_simp) HC.out Try.underlying28 rfl (HL.out ▸ HI.out st) ?_
  refine wpList_yield (w' := U) (v := .int .i64 f) rfl (by go_simp) ?_
  refine wpList_enter rfl (by go_simp) (KM.out U) ?_
  rintro e w2 ⟨rfl, hb2⟩
  refine ⟨_, rfl, ?_⟩
  have HB2 := Lib.hid (below_next HB.out hb2)
  have HC2 := Lib.hid ((hb2.block _ (by have := HS.out; omega)).trans HC.out)
  have HZ2 := Lib.hid ((hb2.block _ (by have := HS.out; omega)).trans HZ.out)
  clear hb2 HC HZ HB
  by_cases hwr : wrongF st.down f = 0
  · obtain ⟨hdn, h0, h3⟩ := wrongF_zero hwr
    obtain ⟨k, rfl⟩ : ∃ k : Nat, f = (k : Int) := ⟨f.toNat, by omega⟩
    have hk : k < 4 := by omega
    have hki : (k : Int) < 4 := by omega
    have hk0 : (0 : Int) ≤ (k : Int) := by omega
    rw [hwr]
    have HWR := Lib.hid hwr
    have HDN := Lib.hid hdn
    have hfk := HST.out.fits k hk
    have hck := cell_of_block (o := k) HC2.out (HCS.out k hk)
    clear hwr hdn h0 h3
    have hfull : ¬ 1048576 - ((st.b k).length : Int) < (([] : List Int).length : Int) := by simp; omega
    have HFU := Lib.hid hfull
    have hsz2 : (strOfNums (st.b k)).size = (st.b k).length := size_str _
    clear hfull
    go_upto_region 4 with fail
    refine wp_region_lit ?_
    refine wpList_load_all rfl 28 _ rfl w.heap.size l _ (by go_simp) HC2.out Try.underlying28 rfl (HL.out ▸ HI.out st) ?_
    refine wpList_enter rfl (by go_simp) (KC.out w2) ?_
    rintro e w3 ⟨rfl, hb3⟩
    refine ⟨_, rfl, ?_⟩
    have hC3 := (hb3.block _ (Array.getElem?_eq_some_iff.1 HC2.out).1).trans HC2.out
    have hZ3 := (hb3.block _ (Array.getElem?_eq_some_iff.1 HZ2.out).1).trans HZ2.out
    have hB3 := below_next HB2.out hb3
    refine wpList_yield (w' := w3) (v := .tuple #[.agg (rdC (rcallS st)).toArray, .bool (!decide (st.left = 0))]) rfl (by go_simp) ?_
    refine wpList_yield (w' := w3) (v := .agg (rdC (rcallS st)).toArray) rfl (by go_simp) ?_
    refine wpList_yield (w' := w3) (v := .bool (!decide (st.left = 0))) rfl (by go_simp) ?_
    refine wpList_store_all rfl 28 _ _ rfl w.heap.size (T := 28) (rdC (rcallS st)) (by go_simp) (by go_simp) hC3 (by rw [rdC_len]; simp [HLN.out]) (HI.out _) (HO.out _) ?_
    intro w4 hw4
    have HD := Lib.hid hw4.there
    have HZ4 := Lib.hid ((hw4.rest (w.heap.size + 1) (by omega)).trans hZ3)
    have HB4 := Lib.hid (hw4.below hB3 (Nat.le_refl _))
    clear hw4 hC3 hZ3 hB3 hb3 hck
    by_cases hlf : st.left = 0
    · have hdl : decide (st.left = 0) = true := decide_eq_true hlf
      have HE := Lib.hid (show callF 2 st (k : Int) [] = (rcallS st, 17) by rw [callF_downs HWR.out HFU.out hlf, if_neg (by decide), rcall_downs hlf])
      clear hlf
      go_upto_region 6 with fail
      refine wp_region_lit ?_
      refine wpList_load_all rfl 28 _ rfl w.heap.size (rdC (rcallS st)) _ (by go_simp) HD.out Try.underlying28 rfl (HI.out _) ?_
      refine wpList_store_all rfl 28 _ _ rfl (w.heap.size + 1) (T := 28) (rdC (rcallS st)) (by go_simp) (by go_simp) HZ4.out rfl (HI.out _) (HO.out _) ?_
      intro w9 hw9
      have HW9 := Lib.hid hw9.there
      have HB9 := Lib.hid (hw9.below HB4.out (by omega))
      clear hw9
      go_wp2_with fail
      exact bodyPost_ret (results_all2 (rdC (rcallS st)) _ Try.results10 (by go_simp) HW9.out Try.underlying28 rfl (HI.out _)) rfl ⟨by rw [HE.out]; rfl, HB9.out⟩
    · have hdl : decide (st.left = 0) = false := decide_eq_false hlf
      have HE := Lib.hid (show callF 2 st (k : Int) [] = ({ rcallS st with b := upd (rcallS st).b k [], s := upd (rcallS st).s k 0 }, 0) by rw [callF_done HWR.out HFU.out hlf, rcall_done hlf]; rfl)
      have hck := cell_of_block (o := k) HD.out (rdC_b (rcallS st) hk)
      have hfr := free_of_block k HD.out
      have hW5 := (wrote_refl HD.out).set k (.string (strOfNums []))
      rw [rdC_setB _ hk] at hW5
      have hW6 := (wrote_refl hW5.there).set (4 + k) (.int .i64 ((0 : Nat) : Int))
      rw [rdC_setS _ hk] at hW6
      have HW5 := Lib.hid hW5
      have HW6 := Lib.hid hW6
      rw [show strOfNums [] = ⟨#[]⟩ from rfl] at HW5 HW6
      clear hlf
      have hcs := cell_of_block (o := 4 + k) hW5.there (rdC_s _ hk)
      have hfs := free_of_block (4 + k) hW5.there
      rw [show strOfNums [] = ⟨#[]⟩ from rfl] at hcs hfs
      clear hW5 hW6
      go_upto_region 8 with fail
      have HZ5 := Lib.hid ((HW5.out.rest (w.heap.size + 1) (by omega)).trans HZ4.out)
      have HB5 := Lib.hid (HW5.out.below HB4.out (Nat.le_refl _))
      clear hck hfr
      generalize w4.setCell ⟨w.heap.size, k, none⟩ (.string ⟨#[]⟩) = w5 at *
      go_upto_region 9 with fail
      have HD6 := Lib.hid HW6.out.there
      have HZ6 := Lib.hid ((HW6.out.rest (w.heap.size + 1) (by omega)).trans HZ5.out)
      have HB6 := Lib.hid (HW6.out.below HB5.out (Nat.le_refl _))
      clear hcs hfs
      rw [show ((0 : Nat) : Int) = 0 from rfl] at HW6 HD6 HZ6 HB6
      generalize w5.setCell ⟨w.heap.size, 4 + k, none⟩ (.int .i64 0) = w6 at *
      refine wp_region_lit ?_
      refine wpList_load_all rfl 28 _ rfl w.heap.size (rdC { rcallS st with b := upd (rcallS st).b k [], s := upd (rcallS st).s k 0 }) _ (by go_simp) HD6.out Try.underlying28 rfl (HI.out _) ?_
      refine wpList_store_all rfl 28 _ _ rfl (w.heap.size + 1) (T := 28) (rdC { rcallS st with b := upd (rcallS st).b k [], s := upd (rcallS st).s k 0 }) (by go_simp) (by go_simp) HZ6.out rfl (HI.out _) (HO.out _) ?_
      intro w9 hw9
      have HW9 := Lib.hid hw9.there
      have HB9 := Lib.hid (hw9.below HB6.out (by omega))
      clear hw9
      go_wp2_with fail
      exact bodyPost_ret (results_all2 (rdC { rcallS st with b := upd (rcallS st).b k [], s := upd (rcallS st).s k 0 }) _ Try.results10 (by go_simp) HW9.out Try.underlying28 rfl (HI.out _)) rfl ⟨by rw [HE.out]; rfl, HB9.out⟩
  · have HEQ := Lib.hid (callF_wrong (q := 2) (xs := []) hwr)
    generalize hcc : wrongF st.down f = cc at *
    have hq : (cc == 0) = false := by rw [beq_eq_false_iff_ne]; exact hwr
    have HCCC := Lib.hid hcc
    clear hwr hcc
    go_upto_region 3 with fail
    refine wp_region_lit ?_
    refine wpList_load_all rfl 28 _ rfl w.heap.size l _ (by go_simp) HC2.out Try.underlying28 rfl (HL.out ▸ HI.out st) ?_
    refine wpList_yield (w' := w2) (v := .int .i64 cc) rfl (by go_simp) ?_
    refine wpList_store_all rfl 28 _ _ rfl (w.heap.size + 1) (T := 28) l (by go_simp) (by go_simp) HZ2.out (by rw [HLN.out]; rfl) (HL.out ▸ HI.out st) (HL.out ▸ HO.out st) ?_
    intro w9 hw9
    have HW9 := Lib.hid hw9.there
    have HB9 := Lib.hid (hw9.below HB2.out (by omega))
    clear hw9
    go_wp2_with fail
    exact bodyPost_ret (results_all2 l _ Try.results10 (by go_simp) HW9.out Try.underlying28 rfl (HL.out ▸ HI.out st)) rfl ⟨by rw [HEQ.out, ← HL.out]; rfl, HB9.out⟩
end Go.Proofs.Ytemkjgohpihigaa
