/- What begins (layer 15): Begin walked at any job. No condition. -/
import Derived.Test.YtgeldpfojmkdbaaJe
namespace Go.Proofs.Ytgeldpfojmkdbaa
set_option linter.unusedVariables false
open Go.ChangeShapes Go.WideShapes Go.ChangeAt Go.RowKit
attribute [local go_sem ↓] Go.wp_at_zero Go.wp_at_succ comesTo_value_eq comesTo_skip_eq comesTo_enter_eq Rl.comesToR_value_eq Rl.comesToR_skip_eq Rl.comesToR_enter_eq

theorem right_tries {j : JobV} (h : rightB j = true) : 0 ≤ j.tries ∧ j.tries ≤ 9 := by
  unfold rightB moreB at h
  simp only [Bool.and_eq_true] at h
  exact inI_yes h.1.1.2.2
set_option maxRecDepth 100000 in
set_option maxHeartbeats 4000000 in
theorem begin_any (j : JobV) (now : Int) (n : NSet) (w : World) : Calls Try.prog 7 #[.agg (jobC j).toArray, .int .i64 now, .int .u64 (nv n)] w fun e w' => e = .returned (.tuple #[.agg (jobC (beginJ j now n).1).toArray, .int .i64 (beginJ j now n).2]) ∧ Below w.heap.size w w' := by
  have KR := Lib.hid (fun b (h : rightB j = b) W => right_is h W)
  have KF := Lib.hid (fun b (h : fitsB j n = b) W => h ▸ fits_any j n W)
  have HSET := Lib.hid (show (((((jobC j).toArray).setIfInBounds 8 (.int .i64 1)).setIfInBounds 14 (.int .u64 (nv n))).setIfInBounds 15 (.int .i64 now)).setIfInBounds 12 (.int .i64 (j.tries + 1)) = (jobC ({ j with state := 1, nodes := n, start := now, tries := j.tries + 1 })).toArray from rfl)
  have HLEN' := Lib.hid (jobC_len ({ j with state := 1, nodes := n, start := now, tries := j.tries + 1 }))
  have HONE' := Lib.hid (jobC_one ({ j with state := 1, nodes := n, start := now, tries := j.tries + 1 }))
  have HNE := Lib.hid (show ∀ x, beginJ j now n = x → beginJ j now n = x from fun _ h => h)
  generalize hbj : beginJ j now n = bj at HNE ⊢
  have HBJ := Lib.hid hbj
  clear hbj HNE
  have HLEN := Lib.hid (jobC_len j)
  have k7 : (jobC j).toArray[7]? = some (.bool j.hold) := rfl
  have k8 : (jobC j).toArray[8]? = some (.int .i64 j.state) := rfl
  have k12 : (jobC j).toArray[12]? = some (.int .i64 j.tries) := rfl
  have k13 : (jobC j).toArray[13]? = some (.int .u64 (nv j.black)) := rfl
  have k14 : (jobC j).toArray[14]? = some (.int .u64 (nv j.nodes)) := rfl
  have k15 : (jobC j).toArray[15]? = some (.int .i64 j.start) := rfl
  generalize hl' : jobC ({ j with state := 1, nodes := n, start := now, tries := j.tries + 1 }) = l' at *
  have HL' := Lib.hid hl'
  clear hl'
  generalize hl : jobC j = l at *
  clear hl
  go_enter Try.func7, Try.ntmps7
  go_upto_region 1 with fail
  generalize hU : (w.alloc (.cells l.toArray 26)).alloc (.cells #[.int .i64 0, .int .i64 0, .int .i64 0, .int .i64 0, .int .i64 0, .int .i64 0, .int .i64 0, .bool false, .int .i64 0, .int .i64 0, .int .i64 0, .int .i64 0, .int .i64 0, .int .u64 0, .int .u64 0, .int .i64 0, .int .i64 0] 26) = U
  have hC : U.heap[w.heap.size]? = some (.cells l.toArray 26 (0, 0)) := by rw [← hU]; exact ((below_alloc (Below.refl _ _) _).block _ (by simp)).trans (World.alloc_heap_new w _)
  have hZ : U.heap[w.heap.size + 1]? = some (.cells #[.int .i64 0, .int .i64 0, .int .i64 0, .int .i64 0, .int .i64 0, .int .i64 0, .int .i64 0, .bool false, .int .i64 0, .int .i64 0, .int .i64 0, .int .i64 0, .int .i64 0, .int .u64 0, .int .u64 0, .int .i64 0, .int .i64 0] 26 (0, 0)) := by
    rw [← hU]
    have := World.alloc_heap_new (w.alloc (.cells l.toArray 26)) (.cells #[.int .i64 0, .int .i64 0, .int .i64 0, .int .i64 0, .int .i64 0, .int .i64 0, .int .i64 0, .bool false, .int .i64 0, .int .i64 0, .int .i64 0, .int .i64 0, .int .i64 0, .int .u64 0, .int .u64 0, .int .i64 0, .int .i64 0] 26)
    rwa [show (w.alloc (.cells l.toArray 26)).heap.size = w.heap.size + 1 by simp] at this
  have HB := Lib.hid (show Below w.heap.size w U by rw [← hU]; exact (by repeat (first | exact Below.refl _ _ | assumption | refine below_drewN ?_ _ | refine Below.drew ?_ | refine below_alloc ?_ _ | refine Below.alloc ?_ (by first | omega | (simp; done) | (simp; omega)) _ | refine Below.setCell ?_ (Below.size (by assumption)) _ | refine Below.setCell ?_ (by first | omega | (simp; done) | (simp; omega)) _ | (refine Below.trans ?_ (Below.mono (by assumption) (by first | omega | (simp; done) | (simp; omega)))) | refine below_next ?_ (by assumption))))
  have HS := Lib.hid (show U.heap.size = w.heap.size + 2 by rw [← hU]; simp)
  clear hU
  have HC := Lib.hid hC
  have HZ := Lib.hid hZ
  clear hC hZ
  have HK7 := Lib.hid k7
  have HK8 := Lib.hid k8
  have HK12 := Lib.hid k12
  have HK13 := Lib.hid k13
  have HK14 := Lib.hid k14
  have HK15 := Lib.hid k15
  clear k7 k8 k12 k13 k14 k15
  cases r : rightB j with
  | false =>
    have E := Lib.hid (show bj = (job0, 11) by rw [← HBJ.out]; unfold beginJ; rw [r]; rfl)
    go_upto_region 1 with fail
    refine wp_region_lit ?_
    refine wpList_load_all rfl 26 _ rfl (w.heap.size) l _ (by go_simp) HC.out Try.underlying26 rfl (by rw [HLEN.out]; kernel_rfl) ?_
    refine wpList_enter rfl (by go_simp) (KR.out false r U) ?_
    rintro e w2 ⟨rfl, hb2⟩
    refine ⟨_, rfl, ?_⟩
    have hle := hb2.size
    have HC2 := Lib.hid ((hb2.block _ (Array.getElem?_eq_some_iff.1 HC.out).1).trans HC.out)
    have HZ2 := Lib.hid ((hb2.block _ (Array.getElem?_eq_some_iff.1 HZ.out).1).trans HZ.out)
    have HB2 := Lib.hid (below_next HB.out hb2)
    clear hb2 hle
    go_upto_region 2 with fail
    refine wp_region_lit ?_
    refine wpList_yield (w' := w2) (v := .agg (jobC job0).toArray) rfl (by go_simp; rfl) ?_
    refine wpList_store_all rfl 26 _ _ rfl (w.heap.size + 1) (T := 26) (jobC job0) (by go_simp) (by go_simp) HZ2.out rfl (by kernel_rfl) rfl ?_
    intro w9 hw9
    have HW9 := Lib.hid hw9.there
    have HB9 := Lib.hid (hw9.below HB2.out (by omega))
    clear hw9
    go_wp2_with fail
    exact bodyPost_ret (results_all2 (jobC job0) _ Try.results7 (by go_simp) HW9.out Try.underlying26 rfl (by kernel_rfl)) rfl ⟨by rw [E.out]; rfl, HB9.out⟩
  | true =>
    obtain ⟨hy1, hy2⟩ := right_tries r
    go_upto_region 1 with fail
    refine wp_region_lit ?_
    refine wpList_load_all rfl 26 _ rfl (w.heap.size) l _ (by go_simp) HC.out Try.underlying26 rfl (by rw [HLEN.out]; kernel_rfl) ?_
    refine wpList_enter rfl (by go_simp) (KR.out true r U) ?_
    rintro e w2 ⟨rfl, hb2⟩
    refine ⟨_, rfl, ?_⟩
    have hle := hb2.size
    have HC2 := Lib.hid ((hb2.block _ (Array.getElem?_eq_some_iff.1 HC.out).1).trans HC.out)
    have HZ2 := Lib.hid ((hb2.block _ (Array.getElem?_eq_some_iff.1 HZ.out).1).trans HZ.out)
    have HB2 := Lib.hid (below_next HB.out hb2)
    clear hb2 hle
    have c7 := cell_of_block (o := 7) HC2.out HK7.out
    have c8 := cell_of_block (o := 8) HC2.out HK8.out
    cases hs : (j.state == 0) with
    | false =>
      have hs' : (j.state != 0) = true := by unfold bne; rw [hs]; rfl
      have E := Lib.hid (show bj = (job0, 16) by rw [← HBJ.out]; unfold beginJ; rw [r, hs]; rfl)
      go_upto_region 4 with fail
      refine wp_region_lit ?_
      refine wpList_yield (w' := w2) (v := .agg (jobC job0).toArray) rfl (by go_simp; rfl) ?_
      refine wpList_store_all rfl 26 _ _ rfl (w.heap.size + 1) (T := 26) (jobC job0) (by go_simp) (by go_simp) HZ2.out rfl (by kernel_rfl) rfl ?_
      intro w9 hw9
      have HW9 := Lib.hid hw9.there
      have HB9 := Lib.hid (hw9.below HB2.out (by omega))
      clear hw9
      go_wp2_with fail
      exact bodyPost_ret (results_all2 (jobC job0) _ Try.results7 (by go_simp) HW9.out Try.underlying26 rfl (by kernel_rfl)) rfl ⟨by rw [E.out]; rfl, HB9.out⟩
    | true =>
      have hs' : (j.state != 0) = false := by unfold bne; rw [hs]; rfl
      cases hh : j.hold with
      | true =>
        rw [hh] at c7
        have E := Lib.hid (show bj = (job0, 16) by rw [← HBJ.out]; unfold beginJ; rw [r, hs, hh]; rfl)
        go_upto_region 4 with fail
        refine wp_region_lit ?_
        refine wpList_yield (w' := w2) (v := .agg (jobC job0).toArray) rfl (by go_simp; rfl) ?_
        refine wpList_store_all rfl 26 _ _ rfl (w.heap.size + 1) (T := 26) (jobC job0) (by go_simp) (by go_simp) HZ2.out rfl (by kernel_rfl) rfl ?_
        intro w9 hw9
        have HW9 := Lib.hid hw9.there
        have HB9 := Lib.hid (hw9.below HB2.out (by omega))
        clear hw9
        go_wp2_with fail
        exact bodyPost_ret (results_all2 (jobC job0) _ Try.results7 (by go_simp) HW9.out Try.underlying26 rfl (by kernel_rfl)) rfl ⟨by rw [E.out]; rfl, HB9.out⟩
      | false =>
        rw [hh] at c7
        cases ht : timeB now with
        | false =>
          have E := Lib.hid (show bj = (job0, 18) by rw [← HBJ.out]; unfold beginJ; rw [r, hs, hh, ht]; rfl)
          go_upto_region 6 with (go_at_call 16; ((with_reducible refine (istime_is (by assumption) _).mono ?_)); rintro e w' ⟨rfl, rfl⟩)
          refine wp_region_lit ?_
          refine wpList_yield (w' := w2) (v := .agg (jobC job0).toArray) rfl (by go_simp; rfl) ?_
          refine wpList_store_all rfl 26 _ _ rfl (w.heap.size + 1) (T := 26) (jobC job0) (by go_simp) (by go_simp) HZ2.out rfl (by kernel_rfl) rfl ?_
          intro w9 hw9
          have HW9 := Lib.hid hw9.there
          have HB9 := Lib.hid (hw9.below HB2.out (by omega))
          clear hw9
          go_wp2_with fail
          exact bodyPost_ret (results_all2 (jobC job0) _ Try.results7 (by go_simp) HW9.out Try.underlying26 rfl (by kernel_rfl)) rfl ⟨by rw [E.out]; rfl, HB9.out⟩
        | true =>
          cases hn : (now == 1099511627776) with
          | true =>
            have E := Lib.hid (show bj = (job0, 18) by rw [← HBJ.out]; unfold beginJ; rw [r, hs, hh, ht, hn]; rfl)
            go_upto_region 6 with (go_at_call 16; ((with_reducible refine (istime_is (by assumption) _).mono ?_)); rintro e w' ⟨rfl, rfl⟩)
            refine wp_region_lit ?_
            refine wpList_yield (w' := w2) (v := .agg (jobC job0).toArray) rfl (by go_simp; rfl) ?_
            refine wpList_store_all rfl 26 _ _ rfl (w.heap.size + 1) (T := 26) (jobC job0) (by go_simp) (by go_simp) HZ2.out rfl (by kernel_rfl) rfl ?_
            intro w9 hw9
            have HW9 := Lib.hid hw9.there
            have HB9 := Lib.hid (hw9.below HB2.out (by omega))
            clear hw9
            go_wp2_with fail
            exact bodyPost_ret (results_all2 (jobC job0) _ Try.results7 (by go_simp) HW9.out Try.underlying26 rfl (by kernel_rfl)) rfl ⟨by rw [E.out]; rfl, HB9.out⟩
          | false =>
            have hff : fitsB j n = true ∨ fitsB j n = false := by cases fitsB j n; exact .inr rfl; exact .inl rfl
            rcases hff with hf | hf
            · go_upto_region 7 with (go_at_call 16; ((with_reducible refine (istime_is (by assumption) _).mono ?_)); rintro e w' ⟨rfl, rfl⟩)
              refine wp_region_lit ?_
              refine wpList_load_all rfl 26 _ rfl (w.heap.size) l _ (by go_simp) HC2.out Try.underlying26 rfl (by rw [HLEN.out]; kernel_rfl) ?_
              refine wpList_yield (w' := w2) (v := .int .u64 (nv n)) rfl (by first | (go_simp; done) | (go_simp; rfl)) ?_
              refine wpList_enter rfl (by go_simp) (KF.out true hf w2) ?_
              rintro e w4 ⟨rfl, hb2⟩
              refine ⟨_, rfl, ?_⟩
              have hle := hb2.size
              have HC4 := Lib.hid ((hb2.block _ (Array.getElem?_eq_some_iff.1 HC2.out).1).trans HC2.out)
              have HZ4 := Lib.hid ((hb2.block _ (Array.getElem?_eq_some_iff.1 HZ2.out).1).trans HZ2.out)
              have HB4 := Lib.hid (below_next HB2.out hb2)
              clear hb2 hle
              clear c7 c8
              have c8 := cell_of_block (o := 8) HC4.out HK8.out
              have c12 := cell_of_block (o := 12) HC4.out HK12.out
              have c14 := cell_of_block (o := 14) HC4.out HK14.out
              have c15 := cell_of_block (o := 15) HC4.out HK15.out
              have f8 := free_of_block 8 HC4.out
              have f12 := free_of_block 12 HC4.out
              have f14 := free_of_block 14 HC4.out
              have f15 := free_of_block 15 HC4.out
              cases h9 : (j.tries == 9) with
              | true =>
                have E := Lib.hid (show bj = (job0, 15) by rw [← HBJ.out]; unfold beginJ; rw [r, hs, hh, ht, hn, hf, h9]; rfl)
                go_upto_region 10 with fail
                refine wp_region_lit ?_
                refine wpList_yield (w' := w4) (v := .agg (jobC job0).toArray) rfl (by go_simp; rfl) ?_
                refine wpList_store_all rfl 26 _ _ rfl (w.heap.size + 1) (T := 26) (jobC job0) (by go_simp) (by go_simp) HZ4.out rfl (by kernel_rfl) rfl ?_
                intro w9 hw9
                have HW9 := Lib.hid hw9.there
                have HB9 := Lib.hid (hw9.below HB4.out (by omega))
                clear hw9
                go_wp2_with fail
                exact bodyPost_ret (results_all2 (jobC job0) _ Try.results7 (by go_simp) HW9.out Try.underlying26 rfl (by kernel_rfl)) rfl ⟨by rw [E.out]; rfl, HB9.out⟩
              | false =>
                have E := Lib.hid (show bj = ({ j with state := 1, nodes := n, start := now, tries := j.tries + 1 }, 0) by rw [← HBJ.out]; unfold beginJ; rw [r, hs, hh, ht, hn, hf, h9]; rfl)
                go_upto_region 13 with fail
                have hW := ((((wrote_refl HC4.out).set 8 (.int .i64 1)).set 14 (.int .u64 (nv n))).set 15 (.int .i64 now)).set 12 (.int .i64 (j.tries + 1))
                rw [HSET.out] at hW
                have HV := Lib.hid hW.there
                have HZV := Lib.hid ((hW.rest (w.heap.size + 1) (by omega)).trans HZ4.out)
                have HBV := Lib.hid (hW.below HB4.out (Nat.le_refl _))
                clear hW c8 c12 c14 c15 f8 f12 f14 f15
                generalize ((((w4).setCell ⟨w.heap.size, 8, none⟩ (.int .i64 1)).setCell ⟨w.heap.size, 14, none⟩ (.int .u64 (nv n))).setCell ⟨w.heap.size, 15, none⟩ (.int .i64 now)).setCell ⟨w.heap.size, 12, none⟩ (.int .i64 (j.tries + 1)) = V at *
                refine wp_region_lit ?_
                refine wpList_load_all rfl 26 _ rfl (w.heap.size) l' _ (by go_simp) HV.out Try.underlying26 rfl (by rw [HLEN'.out]; kernel_rfl) ?_
                refine wpList_store_all rfl 26 _ _ rfl (w.heap.size + 1) (T := 26) l' (by go_simp) (by go_simp) HZV.out (by rw [HLEN'.out]; rfl) (by rw [HLEN'.out]; kernel_rfl) HONE'.out ?_
                intro w9 hw9
                have HW9 := Lib.hid hw9.there
                have HB9 := Lib.hid (hw9.below HBV.out (by omega))
                clear hw9
                go_wp2_with fail
                exact bodyPost_ret (results_all2 l' _ Try.results7 (by go_simp) HW9.out Try.underlying26 rfl (by rw [HLEN'.out]; kernel_rfl)) rfl ⟨by rw [E.out, ← HL'.out]; first | done | rfl, HB9.out⟩
            · go_upto_region 7 with (go_at_call 16; ((with_reducible refine (istime_is (by assumption) _).mono ?_)); rintro e w' ⟨rfl, rfl⟩)
              refine wp_region_lit ?_
              refine wpList_load_all rfl 26 _ rfl (w.heap.size) l _ (by go_simp) HC2.out Try.underlying26 rfl (by rw [HLEN.out]; kernel_rfl) ?_
              refine wpList_yield (w' := w2) (v := .int .u64 (nv n)) rfl (by first | (go_simp; done) | (go_simp; rfl)) ?_
              refine wpList_enter rfl (by go_simp) (KF.out false hf w2) ?_
              rintro e w4 ⟨rfl, hb2⟩
              refine ⟨_, rfl, ?_⟩
              have hle := hb2.size
              have HC4 := Lib.hid ((hb2.block _ (Array.getElem?_eq_some_iff.1 HC2.out).1).trans HC2.out)
              have HZ4 := Lib.hid ((hb2.block _ (Array.getElem?_eq_some_iff.1 HZ2.out).1).trans HZ2.out)
              have HB4 := Lib.hid (below_next HB2.out hb2)
              clear hb2 hle
              clear c7 c8
              have E := Lib.hid (show bj = (job0, 2) by rw [← HBJ.out]; unfold beginJ; rw [r, hs, hh, ht, hn, hf]; rfl)
              go_upto_region 8 with fail
              refine wp_region_lit ?_
              refine wpList_yield (w' := w4) (v := .agg (jobC job0).toArray) rfl (by go_simp; rfl) ?_
              refine wpList_store_all rfl 26 _ _ rfl (w.heap.size + 1) (T := 26) (jobC job0) (by go_simp) (by go_simp) HZ4.out rfl (by kernel_rfl) rfl ?_
              intro w9 hw9
              have HW9 := Lib.hid hw9.there
              have HB9 := Lib.hid (hw9.below HB4.out (by omega))
              clear hw9
              go_wp2_with fail
              exact bodyPost_ret (results_all2 (jobC job0) _ Try.results7 (by go_simp) HW9.out Try.underlying26 rfl (by kernel_rfl)) rfl ⟨by rw [E.out]; rfl, HB9.out⟩
end Go.Proofs.Ytgeldpfojmkdbaa
