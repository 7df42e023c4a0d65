/- What stops, and what loses a node (layer 15): Stop and Lose walked at any job. No condition. -/
import Derived.Test.YtgeldpfojmkdbaaJf
namespace Go.Proofs.Ytgeldpfojmkdbaa
set_option linter.unusedVariables false
open Go.ChangeShapes Go.WideShapes Go.ChangeAt Go.RowKit
attribute [local go_sem ↓] Go.wp_at_zero Go.wp_at_succ comesTo_value_eq comesTo_skip_eq comesTo_enter_eq Rl.comesToR_value_eq Rl.comesToR_skip_eq Rl.comesToR_enter_eq

set_option maxRecDepth 100000 in
set_option maxHeartbeats 4000000 in
theorem stop_any (j : JobV) (now how : Int) (w : World) : Calls Try.prog 9 #[.agg (jobC j).toArray, .int .i64 now, .int .i64 how] w fun e w' => e = .returned (.tuple #[.agg (jobC (stopJ j now how).1).toArray, .int .i64 (stopJ j now how).2]) ∧ Below w.heap.size w w' := by
  have KR := Lib.hid (fun b (h : rightB j = b) W => right_is h W)
  have KL := Lib.hid (fun b (h : lateB j now = b) W => late_is h W)
  have KO := Lib.hid (fun b (h : overB j = b) W => over_is h W)
  have KE := Lib.hid (fun W => end_any j now how W)
  have HLEN' := Lib.hid (jobC_len (endJ j now how))
  have HONE' := Lib.hid (jobC_one (endJ j now how))
  generalize hbj : stopJ j now how = bj
  have HBJ := Lib.hid hbj
  clear hbj
  have HLEN := Lib.hid (jobC_len j)
  have k8 : (jobC j).toArray[8]? = some (.int .i64 j.state) := rfl
  generalize hl' : jobC (endJ j now how) = l' at *
  have HL' := Lib.hid hl'
  clear hl'
  generalize hl : jobC j = l at *
  clear hl
  go_enter Try.func9, Try.ntmps9
  go_upto_region 1 with fail
  generalize hU : (w.alloc (.cells l.toArray 26)).alloc (.cells #[.int .i64 0, .int .i64 0, .int .i64 0, .int .i64 0, .int .i64 0, .int .i64 0, .int .i64 0, .bool false, .int .i64 0, .int .i64 0, .int .i64 0, .int .i64 0, .int .i64 0, .int .u64 0, .int .u64 0, .int .i64 0, .int .i64 0] 26) = U
  have hC : U.heap[w.heap.size]? = some (.cells l.toArray 26 (0, 0)) := by rw [← hU]; exact ((below_alloc (Below.refl _ _) _).block _ (by simp)).trans (World.alloc_heap_new w _)
  have hZ : U.heap[w.heap.size + 1]? = some (.cells #[.int .i64 0, .int .i64 0, .int .i64 0, .int .i64 0, .int .i64 0, .int .i64 0, .int .i64 0, .bool false, .int .i64 0, .int .i64 0, .int .i64 0, .int .i64 0, .int .i64 0, .int .u64 0, .int .u64 0, .int .i64 0, .int .i64 0] 26 (0, 0)) := by
    rw [← hU]
    have := World.alloc_heap_new (w.alloc (.cells l.toArray 26)) (.cells #[.int .i64 0, .int .i64 0, .int .i64 0, .int .i64 0, .int .i64 0, .int .i64 0, .int .i64 0, .bool false, .int .i64 0, .int .i64 0, .int .i64 0, .int .i64 0, .int .i64 0, .int .u64 0, .int .u64 0, .int .i64 0, .int .i64 0] 26)
    rwa [show (w.alloc (.cells l.toArray 26)).heap.size = w.heap.size + 1 by simp] at this
  have HB := Lib.hid (show Below w.heap.size w U by rw [← hU]; exact (by repeat (first | exact Below.refl _ _ | assumption | refine below_drewN ?_ _ | refine Below.drew ?_ | refine below_alloc ?_ _ | refine Below.alloc ?_ (by first | omega | (simp; done) | (simp; omega)) _ | refine Below.setCell ?_ (Below.size (by assumption)) _ | refine Below.setCell ?_ (by first | omega | (simp; done) | (simp; omega)) _ | (refine Below.trans ?_ (Below.mono (by assumption) (by first | omega | (simp; done) | (simp; omega)))) | refine below_next ?_ (by assumption))))
  have HS := Lib.hid (show U.heap.size = w.heap.size + 2 by rw [← hU]; simp)
  clear hU
  have HC := Lib.hid hC
  have HZ := Lib.hid hZ
  clear hC hZ
  have HK8 := Lib.hid k8
  clear k8
  cases r : rightB j with
  | false =>
    have E := Lib.hid (show bj = (job0, 11) by rw [← HBJ.out]; unfold stopJ; rw [r]; rfl)
    go_upto_region 1 with fail
    refine wp_region_lit ?_
    refine wpList_load_all rfl 26 _ rfl (w.heap.size) l _ (by go_simp) HC.out Try.underlying26 rfl (by rw [HLEN.out]; kernel_rfl) ?_
    refine wpList_enter rfl (by go_simp) (KR.out false r U) ?_
    rintro e w2 ⟨rfl, hb2⟩
    refine ⟨_, rfl, ?_⟩
    have hle := hb2.size
    have HC2 := Lib.hid ((hb2.block _ (Array.getElem?_eq_some_iff.1 HC.out).1).trans HC.out)
    have HZ2 := Lib.hid ((hb2.block _ (Array.getElem?_eq_some_iff.1 HZ.out).1).trans HZ.out)
    have HB2 := Lib.hid (below_next HB.out hb2)
    clear hb2 hle
    go_upto_region 2 with fail
    refine wp_region_lit ?_
    refine wpList_yield (w' := w2) (v := .agg (jobC job0).toArray) rfl (by go_simp; rfl) ?_
    refine wpList_store_all rfl 26 _ _ rfl (w.heap.size + 1) (T := 26) (jobC job0) (by go_simp) (by go_simp) HZ2.out rfl (by kernel_rfl) rfl ?_
    intro w9 hw9
    have HW9 := Lib.hid hw9.there
    have HB9 := Lib.hid (hw9.below HB2.out (by omega))
    clear hw9
    go_wp2_with fail
    exact bodyPost_ret (results_all2 (jobC job0) _ Try.results9 (by go_simp) HW9.out Try.underlying26 rfl (by kernel_rfl)) rfl ⟨by rw [E.out]; rfl, HB9.out⟩
  | true =>
    go_upto_region 1 with fail
    refine wp_region_lit ?_
    refine wpList_load_all rfl 26 _ rfl (w.heap.size) l _ (by go_simp) HC.out Try.underlying26 rfl (by rw [HLEN.out]; kernel_rfl) ?_
    refine wpList_enter rfl (by go_simp) (KR.out true r U) ?_
    rintro e w2 ⟨rfl, hb2⟩
    refine ⟨_, rfl, ?_⟩
    have hle := hb2.size
    have HC2 := Lib.hid ((hb2.block _ (Array.getElem?_eq_some_iff.1 HC.out).1).trans HC.out)
    have HZ2 := Lib.hid ((hb2.block _ (Array.getElem?_eq_some_iff.1 HZ.out).1).trans HZ.out)
    have HB2 := Lib.hid (below_next HB.out hb2)
    clear hb2 hle
    cases hw : inI how 2 5 with
    | false =>
      have E := Lib.hid (show bj = (job0, 2) by rw [← HBJ.out]; unfold stopJ; rw [r, hw]; rfl)
      go_upto_region 4 with (go_at_call 15; ((with_reducible refine (within_is (by assumption) _).mono ?_)); rintro e w' ⟨rfl, rfl⟩)
      refine wp_region_lit ?_
      refine wpList_yield (w' := w2) (v := .agg (jobC job0).toArray) rfl (by go_simp; rfl) ?_
      refine wpList_store_all rfl 26 _ _ rfl (w.heap.size + 1) (T := 26) (jobC job0) (by go_simp) (by go_simp) HZ2.out rfl (by kernel_rfl) rfl ?_
      intro w9 hw9
      have HW9 := Lib.hid hw9.there
      have HB9 := Lib.hid (hw9.below HB2.out (by omega))
      clear hw9
      go_wp2_with fail
      exact bodyPost_ret (results_all2 (jobC job0) _ Try.results9 (by go_simp) HW9.out Try.underlying26 rfl (by kernel_rfl)) rfl ⟨by rw [E.out]; rfl, HB9.out⟩
    | true =>
      have hoo : overB j = true ∨ overB j = false := by cases overB j; exact .inr rfl; exact .inl rfl
      rcases hoo with ho | ho
      · go_upto_region 5 with (go_at_call 15; ((with_reducible refine (within_is (by assumption) _).mono ?_)); rintro e w' ⟨rfl, rfl⟩)
        refine wp_region_lit ?_
        refine wpList_load_all rfl 26 _ rfl (w.heap.size) l _ (by go_simp) HC2.out Try.underlying26 rfl (by rw [HLEN.out]; kernel_rfl) ?_
        refine wpList_enter rfl (by go_simp) (KO.out true ho w2) ?_
        rintro e w4 ⟨rfl, hb2⟩
        refine ⟨_, rfl, ?_⟩
        have hle := hb2.size
        have HC4 := Lib.hid ((hb2.block _ (Array.getElem?_eq_some_iff.1 HC2.out).1).trans HC2.out)
        have HZ4 := Lib.hid ((hb2.block _ (Array.getElem?_eq_some_iff.1 HZ2.out).1).trans HZ2.out)
        have HB4 := Lib.hid (below_next HB2.out hb2)
        clear hb2 hle
        have E := Lib.hid (show bj = (job0, 16) by rw [← HBJ.out]; unfold stopJ; rw [r, hw, ho]; rfl)
        go_upto_region 6 with fail
        refine wp_region_lit ?_
        refine wpList_yield (w' := w4) (v := .agg (jobC job0).toArray) rfl (by go_simp; rfl) ?_
        refine wpList_store_all rfl 26 _ _ rfl (w.heap.size + 1) (T := 26) (jobC job0) (by go_simp) (by go_simp) HZ4.out rfl (by kernel_rfl) rfl ?_
        intro w9 hw9
        have HW9 := Lib.hid hw9.there
        have HB9 := Lib.hid (hw9.below HB4.out (by omega))
        clear hw9
        go_wp2_with fail
        exact bodyPost_ret (results_all2 (jobC job0) _ Try.results9 (by go_simp) HW9.out Try.underlying26 rfl (by kernel_rfl)) rfl ⟨by rw [E.out]; rfl, HB9.out⟩
      · go_upto_region 5 with (go_at_call 15; ((with_reducible refine (within_is (by assumption) _).mono ?_)); rintro e w' ⟨rfl, rfl⟩)
        refine wp_region_lit ?_
        refine wpList_load_all rfl 26 _ rfl (w.heap.size) l _ (by go_simp) HC2.out Try.underlying26 rfl (by rw [HLEN.out]; kernel_rfl) ?_
        refine wpList_enter rfl (by go_simp) (KO.out false ho w2) ?_
        rintro e w4 ⟨rfl, hb2⟩
        refine ⟨_, rfl, ?_⟩
        have hle := hb2.size
        have HC4 := Lib.hid ((hb2.block _ (Array.getElem?_eq_some_iff.1 HC2.out).1).trans HC2.out)
        have HZ4 := Lib.hid ((hb2.block _ (Array.getElem?_eq_some_iff.1 HZ2.out).1).trans HZ2.out)
        have HB4 := Lib.hid (below_next HB2.out hb2)
        clear hb2 hle
        have c8 := cell_of_block (o := 8) HC4.out HK8.out
        cases hs : (j.state == 0) with
        | false =>
          have hll : lateB j now = true ∨ lateB j now = false := by cases lateB j now; exact .inr rfl; exact .inl rfl
          rcases hll with hla | hla
          · go_upto_region 7 with fail
            refine wp_region_lit ?_
            refine wpList_load_all rfl 26 _ rfl (w.heap.size) l _ (by go_simp) HC4.out Try.underlying26 rfl (by rw [HLEN.out]; kernel_rfl) ?_
            refine wpList_yield (w' := w4) (v := .int .i64 now) rfl (by first | (go_simp; done) | (go_simp; rfl)) ?_
            refine wpList_enter rfl (by go_simp) (KL.out true hla w4) ?_
            rintro e w6 ⟨rfl, hb2⟩
            refine ⟨_, rfl, ?_⟩
            have hle := hb2.size
            have HC6 := Lib.hid ((hb2.block _ (Array.getElem?_eq_some_iff.1 HC4.out).1).trans HC4.out)
            have HZ6 := Lib.hid ((hb2.block _ (Array.getElem?_eq_some_iff.1 HZ4.out).1).trans HZ4.out)
            have HB6 := Lib.hid (below_next HB4.out hb2)
            clear hb2 hle
            clear c8
            have E := Lib.hid (show bj = (job0, 18) by rw [← HBJ.out]; unfold stopJ; rw [r, hw, ho, hs, hla]; rfl)
            go_upto_region 8 with fail
            refine wp_region_lit ?_
            refine wpList_yield (w' := w6) (v := .agg (jobC job0).toArray) rfl (by go_simp; rfl) ?_
            refine wpList_store_all rfl 26 _ _ rfl (w.heap.size + 1) (T := 26) (jobC job0) (by go_simp) (by go_simp) HZ6.out rfl (by kernel_rfl) rfl ?_
            intro w9 hw9
            have HW9 := Lib.hid hw9.there
            have HB9 := Lib.hid (hw9.below HB6.out (by omega))
            clear hw9
            go_wp2_with fail
            exact bodyPost_ret (results_all2 (jobC job0) _ Try.results9 (by go_simp) HW9.out Try.underlying26 rfl (by kernel_rfl)) rfl ⟨by rw [E.out]; rfl, HB9.out⟩
          · go_upto_region 7 with fail
            refine wp_region_lit ?_
            refine wpList_load_all rfl 26 _ rfl (w.heap.size) l _ (by go_simp) HC4.out Try.underlying26 rfl (by rw [HLEN.out]; kernel_rfl) ?_
            refine wpList_yield (w' := w4) (v := .int .i64 now) rfl (by first | (go_simp; done) | (go_simp; rfl)) ?_
            refine wpList_enter rfl (by go_simp) (KL.out false hla w4) ?_
            rintro e w6 ⟨rfl, hb2⟩
            refine ⟨_, rfl, ?_⟩
            have hle := hb2.size
            have HC6 := Lib.hid ((hb2.block _ (Array.getElem?_eq_some_iff.1 HC4.out).1).trans HC4.out)
            have HZ6 := Lib.hid ((hb2.block _ (Array.getElem?_eq_some_iff.1 HZ4.out).1).trans HZ4.out)
            have HB6 := Lib.hid (below_next HB4.out hb2)
            clear hb2 hle
            clear c8
            have E := Lib.hid (show bj = (endJ j now how, 0) by rw [← HBJ.out]; unfold stopJ; rw [r, hw, ho, hs, hla]; rfl)
            go_upto_region 9 with fail
            refine wp_region_lit ?_
            refine wpList_load_all rfl 26 _ rfl (w.heap.size) l _ (by go_simp) HC6.out Try.underlying26 rfl (by rw [HLEN.out]; kernel_rfl) ?_
            refine wpList_yield (w' := w6) (v := .int .i64 now) rfl (by first | (go_simp; done) | (go_simp; rfl)) ?_
            refine wpList_yield (w' := w6) (v := .int .i64 how) rfl (by first | (go_simp; done) | (go_simp; rfl)) ?_
            refine wpList_enter rfl (by go_simp) (KE.out w6) ?_
            rintro e w8 ⟨rfl, hb2⟩
            refine ⟨_, rfl, ?_⟩
            have hle := hb2.size
            have HC8 := Lib.hid ((hb2.block _ (Array.getElem?_eq_some_iff.1 HC6.out).1).trans HC6.out)
            have HZ8 := Lib.hid ((hb2.block _ (Array.getElem?_eq_some_iff.1 HZ6.out).1).trans HZ6.out)
            have HB8 := Lib.hid (below_next HB6.out hb2)
            clear hb2 hle
            refine wpList_store_all rfl 26 _ _ rfl (w.heap.size + 1) (T := 26) l' (by go_simp) (by go_simp) HZ8.out (by rw [HLEN'.out]; rfl) (by rw [HLEN'.out]; kernel_rfl) HONE'.out ?_
            intro w9 hw9
            have HW9 := Lib.hid hw9.there
            have HB9 := Lib.hid (hw9.below HB8.out (by omega))
            clear hw9
            go_wp2_with fail
            exact bodyPost_ret (results_all2 l' _ Try.results9 (by go_simp) HW9.out Try.underlying26 rfl (by rw [HLEN'.out]; kernel_rfl)) rfl ⟨by rw [E.out, ← HL'.out]; first | done | rfl, HB9.out⟩
        | true =>
          cases h2 : (how == 2) with
          | true =>
            have E := Lib.hid (show bj = (job0, 16) by rw [← HBJ.out]; unfold stopJ; rw [r, hw, ho, hs, h2]; rfl)
            go_upto_region 6 with fail
            refine wp_region_lit ?_
            refine wpList_yield (w' := w4) (v := .agg (jobC job0).toArray) rfl (by go_simp; rfl) ?_
            refine wpList_store_all rfl 26 _ _ rfl (w.heap.size + 1) (T := 26) (jobC job0) (by go_simp) (by go_simp) HZ4.out rfl (by kernel_rfl) rfl ?_
            intro w9 hw9
            have HW9 := Lib.hid hw9.there
            have HB9 := Lib.hid (hw9.below HB4.out (by omega))
            clear hw9
            go_wp2_with fail
            exact bodyPost_ret (results_all2 (jobC job0) _ Try.results9 (by go_simp) HW9.out Try.underlying26 rfl (by kernel_rfl)) rfl ⟨by rw [E.out]; rfl, HB9.out⟩
          | false =>
            cases h5 : (how == 5) with
            | true =>
              have E := Lib.hid (show bj = (job0, 16) by rw [← HBJ.out]; unfold stopJ; rw [r, hw, ho, hs, h2, h5]; rfl)
              go_upto_region 6 with fail
              refine wp_region_lit ?_
              refine wpList_yield (w' := w4) (v := .agg (jobC job0).toArray) rfl (by go_simp; rfl) ?_
              refine wpList_store_all rfl 26 _ _ rfl (w.heap.size + 1) (T := 26) (jobC job0) (by go_simp) (by go_simp) HZ4.out rfl (by kernel_rfl) rfl ?_
              intro w9 hw9
              have HW9 := Lib.hid hw9.there
              have HB9 := Lib.hid (hw9.below HB4.out (by omega))
              clear hw9
              go_wp2_with fail
              exact bodyPost_ret (results_all2 (jobC job0) _ Try.results9 (by go_simp) HW9.out Try.underlying26 rfl (by kernel_rfl)) rfl ⟨by rw [E.out]; rfl, HB9.out⟩
            | false =>
              have hll : lateB j now = true ∨ lateB j now = false := by cases lateB j now; exact .inr rfl; exact .inl rfl
              rcases hll with hla | hla
              · go_upto_region 7 with fail
                refine wp_region_lit ?_
                refine wpList_load_all rfl 26 _ rfl (w.heap.size) l _ (by go_simp) HC4.out Try.underlying26 rfl (by rw [HLEN.out]; kernel_rfl) ?_
                refine wpList_yield (w' := w4) (v := .int .i64 now) rfl (by first | (go_simp; done) | (go_simp; rfl)) ?_
                refine wpList_enter rfl (by go_simp) (KL.out true hla w4) ?_
                rintro e w6 ⟨rfl, hb2⟩
                refine ⟨_, rfl, ?_⟩
                have hle := hb2.size
                have HC6 := Lib.hid ((hb2.block _ (Array.getElem?_eq_some_iff.1 HC4.out).1).trans HC4.out)
                have HZ6 := Lib.hid ((hb2.block _ (Array.getElem?_eq_some_iff.1 HZ4.out).1).trans HZ4.out)
                have HB6 := Lib.hid (below_next HB4.out hb2)
                clear hb2 hle
                clear c8
                have E := Lib.hid (show bj = (job0, 18) by rw [← HBJ.out]; unfold stopJ; rw [r, hw, ho, hs, h2, h5, hla]; rfl)
                go_upto_region 8 with fail
                refine wp_region_lit ?_
                refine wpList_yield (w' := w6) (v := .agg (jobC job0).toArray) rfl (by go_simp; rfl) ?_
                refine wpList_store_all rfl 26 _ _ rfl (w.heap.size + 1) (T := 26) (jobC job0) (by go_simp) (by go_simp) HZ6.out rfl (by kernel_rfl) rfl ?_
                intro w9 hw9
                have HW9 := Lib.hid hw9.there
                have HB9 := Lib.hid (hw9.below HB6.out (by omega))
                clear hw9
                go_wp2_with fail
                exact bodyPost_ret (results_all2 (jobC job0) _ Try.results9 (by go_simp) HW9.out Try.underlying26 rfl (by kernel_rfl)) rfl ⟨by rw [E.out]; rfl, HB9.out⟩
              · go_upto_region 7 with fail
                refine wp_region_lit ?_
                refine wpList_load_all rfl 26 _ rfl (w.heap.size) l _ (by go_simp) HC4.out Try.underlying26 rfl (by rw [HLEN.out]; kernel_rfl) ?_
                refine wpList_yield (w' := w4) (v := .int .i64 now) rfl (by first | (go_simp; done) | (go_simp; rfl)) ?_
                refine wpList_enter rfl (by go_simp) (KL.out false hla w4) ?_
                rintro e w6 ⟨rfl, hb2⟩
                refine ⟨_, rfl, ?_⟩
                have hle := hb2.size
                have HC6 := Lib.hid ((hb2.block _ (Array.getElem?_eq_some_iff.1 HC4.out).1).trans HC4.out)
                have HZ6 := Lib.hid ((hb2.block _ (Array.getElem?_eq_some_iff.1 HZ4.out).1).trans HZ4.out)
                have HB6 := Lib.hid (below_next HB4.out hb2)
                clear hb2 hle
                clear c8
                have E := Lib.hid (show bj = (endJ j now how, 0) by rw [← HBJ.out]; unfold stopJ; rw [r, hw, ho, hs, h2, h5, hla]; rfl)
                go_upto_region 9 with fail
                refine wp_region_lit ?_
                refine wpList_load_all rfl 26 _ rfl (w.heap.size) l _ (by go_simp) HC6.out Try.underlying26 rfl (by rw [HLEN.out]; kernel_rfl) ?_
                refine wpList_yield (w' := w6) (v := .int .i64 now) rfl (by first | (go_simp; done) | (go_simp; rfl)) ?_
                refine wpList_yield (w' := w6) (v := .int .i64 how) rfl (by first | (go_simp; done) | (go_simp; rfl)) ?_
                refine wpList_enter rfl (by go_simp) (KE.out w6) ?_
                rintro e w8 ⟨rfl, hb2⟩
                refine ⟨_, rfl, ?_⟩
                have hle := hb2.size
                have HC8 := Lib.hid ((hb2.block _ (Array.getElem?_eq_some_iff.1 HC6.out).1).trans HC6.out)
                have HZ8 := Lib.hid ((hb2.block _ (Array.getElem?_eq_some_iff.1 HZ6.out).1).trans HZ6.out)
                have HB8 := Lib.hid (below_next HB6.out hb2)
                clear hb2 hle
                refine wpList_store_all rfl 26 _ _ rfl (w.heap.size + 1) (T := 26) l' (by go_simp) (by go_simp) HZ8.out (by rw [HLEN'.out]; rfl) (by rw [HLEN'.out]; kernel_rfl) HONE'.out ?_
                intro w9 hw9
                have HW9 := Lib.hid hw9.there
                have HB9 := Lib.hid (hw9.below HB8.out (by omega))
                clear hw9
                go_wp2_with fail
                exact bodyPost_ret (results_all2 l' _ Try.results9 (by go_simp) HW9.out Try.underlying26 rfl (by rw [HLEN'.out]; kernel_rfl)) rfl ⟨by rw [E.out, ← HL'.out]; first | done | rfl, HB9.out⟩
set_option maxRecDepth 100000 in
set_option maxHeartbeats 4000000 in
theorem lose_no (j : JobV) (now node retries : Int) (hno : ¬ (rightB j = true ∧ (j.state == 1) = true ∧ hasI j.nodes node = true ∧ lateB j now = false)) (w : World) : Calls Try.prog 11 #[.agg (jobC j).toArray, .int .i64 now, .int .i64 node, .int .i64 retries] w fun e w' => e = .returned (.tuple #[.agg (jobC (loseJ j now node retries).1).toArray, .int .i64 (loseJ j now node retries).2]) ∧ Below w.heap.size w w' := by
  have KR := Lib.hid (fun b (h : rightB j = b) W => right_is h W)
  have KL := Lib.hid (fun b (h : lateB j now = b) W => late_is h W)
  have KH := Lib.hid (fun b (h : hasI j.nodes node = b) W => h ▸ has_any j.nodes node W)
  have HLEN' := Lib.hid (jobC_len (job0))
  have HONE' := Lib.hid (jobC_one (job0))
  generalize hbj : loseJ j now node retries = bj
  have HBJ := Lib.hid hbj
  clear hbj
  have HLEN := Lib.hid (jobC_len j)
  have k8 : (jobC j).toArray[8]? = some (.int .i64 j.state) := rfl
  have k10 : (jobC j).toArray[10]? = some (.int .i64 j.plan) := rfl
  have k11 : (jobC j).toArray[11]? = some (.int .i64 j.promise) := rfl
  have k12 : (jobC j).toArray[12]? = some (.int .i64 j.tries) := rfl
  have k13 : (jobC j).toArray[13]? = some (.int .u64 (nv j.black)) := rfl
  have k14 : (jobC j).toArray[14]? = some (.int .u64 (nv j.nodes)) := rfl
  have k15 : (jobC j).toArray[15]? = some (.int .i64 j.start) := rfl
  have k16 : (jobC j).toArray[16]? = some (.int .i64 j.fin) := rfl
  generalize hl' : jobC (job0) = l' at *
  have HL' := Lib.hid hl'
  clear hl'
  generalize hl : jobC j = l at *
  clear hl
  go_enter Try.func11, Try.ntmps11
  go_upto_region 1 with fail
  generalize hU : (w.alloc (.cells l.toArray 26)).alloc (.cells #[.int .i64 0, .int .i64 0, .int .i64 0, .int .i64 0, .int .i64 0, .int .i64 0, .int .i64 0, .bool false, .int .i64 0, .int .i64 0, .int .i64 0, .int .i64 0, .int .i64 0, .int .u64 0, .int .u64 0, .int .i64 0, .int .i64 0] 26) = U
  have hC : U.heap[w.heap.size]? = some (.cells l.toArray 26 (0, 0)) := by rw [← hU]; exact ((below_alloc (Below.refl _ _) _).block _ (by simp)).trans (World.alloc_heap_new w _)
  have hZ : U.heap[w.heap.size + 1]? = some (.cells #[.int .i64 0, .int .i64 0, .int .i64 0, .int .i64 0, .int .i64 0, .int .i64 0, .int .i64 0, .bool false, .int .i64 0, .int .i64 0, .int .i64 0, .int .i64 0, .int .i64 0, .int .u64 0, .int .u64 0, .int .i64 0, .int .i64 0] 26 (0, 0)) := by
    rw [← hU]
    have := World.alloc_heap_new (w.alloc (.cells l.toArray 26)) (.cells #[.int .i64 0, .int .i64 0, .int .i64 0, .int .i64 0, .int .i64 0, .int .i64 0, .int .i64 0, .bool false, .int .i64 0, .int .i64 0, .int .i64 0, .int .i64 0, .int .i64 0, .int .u64 0, .int .u64 0, .int .i64 0, .int .i64 0] 26)
    rwa [show (w.alloc (.cells l.toArray 26)).heap.size = w.heap.size + 1 by simp] at this
  have HB := Lib.hid (show Below w.heap.size w U by rw [← hU]; exact (by repeat (first | exact Below.refl _ _ | assumption | refine below_drewN ?_ _ | refine Below.drew ?_ | refine below_alloc ?_ _ | refine Below.alloc ?_ (by first | omega | (simp; done) | (simp; omega)) _ | refine Below.setCell ?_ (Below.size (by assumption)) _ | refine Below.setCell ?_ (by first | omega | (simp; done) | (simp; omega)) _ | (refine Below.trans ?_ (Below.mono (by assumption) (by first | omega | (simp; done) | (simp; omega)))) | refine below_next ?_ (by assumption))))
  have HS := Lib.hid (show U.heap.size = w.heap.size + 2 by rw [← hU]; simp)
  clear hU
  have HC := Lib.hid hC
  have HZ := Lib.hid hZ
  clear hC hZ
  have HK8 := Lib.hid k8
  have HK10 := Lib.hid k10
  have HK11 := Lib.hid k11
  have HK12 := Lib.hid k12
  have HK13 := Lib.hid k13
  have HK14 := Lib.hid k14
  have HK15 := Lib.hid k15
  have HK16 := Lib.hid k16
  clear k8 k10 k11 k12 k13 k14 k15 k16
  cases r : rightB j with
  | false =>
    have E := Lib.hid (show bj = (job0, 11) by rw [← HBJ.out]; unfold loseJ; rw [r]; rfl)
    go_upto_region 1 with fail
    refine wp_region_lit ?_
    refine wpList_load_all rfl 26 _ rfl (w.heap.size) l _ (by go_simp) HC.out Try.underlying26 rfl (by rw [HLEN.out]; kernel_rfl) ?_
    refine wpList_enter rfl (by go_simp) (KR.out false r U) ?_
    rintro e w2 ⟨rfl, hb2⟩
    refine ⟨_, rfl, ?_⟩
    have hle := hb2.size
    have HC2 := Lib.hid ((hb2.block _ (Array.getElem?_eq_some_iff.1 HC.out).1).trans HC.out)
    have HZ2 := Lib.hid ((hb2.block _ (Array.getElem?_eq_some_iff.1 HZ.out).1).trans HZ.out)
    have HB2 := Lib.hid (below_next HB.out hb2)
    clear hb2 hle
    go_upto_region 2 with fail
    refine wp_region_lit ?_
    refine wpList_yield (w' := w2) (v := .agg (jobC job0).toArray) rfl (by go_simp; rfl) ?_
    refine wpList_store_all rfl 26 _ _ rfl (w.heap.size + 1) (T := 26) (jobC job0) (by go_simp) (by go_simp) HZ2.out rfl (by kernel_rfl) rfl ?_
    intro w9 hw9
    have HW9 := Lib.hid hw9.there
    have HB9 := Lib.hid (hw9.below HB2.out (by omega))
    clear hw9
    go_wp2_with fail
    exact bodyPost_ret (results_all2 (jobC job0) _ Try.results11 (by go_simp) HW9.out Try.underlying26 rfl (by kernel_rfl)) rfl ⟨by rw [E.out]; rfl, HB9.out⟩
  | true =>
    go_upto_region 1 with fail
    refine wp_region_lit ?_
    refine wpList_load_all rfl 26 _ rfl (w.heap.size) l _ (by go_simp) HC.out Try.underlying26 rfl (by rw [HLEN.out]; kernel_rfl) ?_
    refine wpList_enter rfl (by go_simp) (KR.out true r U) ?_
    rintro e w2 ⟨rfl, hb2⟩
    refine ⟨_, rfl, ?_⟩
    have hle := hb2.size
    have HC2 := Lib.hid ((hb2.block _ (Array.getElem?_eq_some_iff.1 HC.out).1).trans HC.out)
    have HZ2 := Lib.hid ((hb2.block _ (Array.getElem?_eq_some_iff.1 HZ.out).1).trans HZ.out)
    have HB2 := Lib.hid (below_next HB.out hb2)
    clear hb2 hle
    have c8 := cell_of_block (o := 8) HC2.out HK8.out
    have c14 := cell_of_block (o := 14) HC2.out HK14.out
    cases hs : (j.state == 1) with
    | false =>
      have hs' : (j.state != 1) = true := by unfold bne; rw [hs]; rfl
      have E := Lib.hid (show bj = (job0, 16) by rw [← HBJ.out]; unfold loseJ; rw [r, hs]; rfl)
      go_upto_region 4 with fail
      refine wp_region_lit ?_
      refine wpList_yield (w' := w2) (v := .agg (jobC job0).toArray) rfl (by go_simp; rfl) ?_
      refine wpList_store_all rfl 26 _ _ rfl (w.heap.size + 1) (T := 26) (jobC job0) (by go_simp) (by go_simp) HZ2.out rfl (by kernel_rfl) rfl ?_
      intro w9 hw9
      have HW9 := Lib.hid hw9.there
      have HB9 := Lib.hid (hw9.below HB2.out (by omega))
      clear hw9
      go_wp2_with fail
      exact bodyPost_ret (results_all2 (jobC job0) _ Try.results11 (by go_simp) HW9.out Try.underlying26 rfl (by kernel_rfl)) rfl ⟨by rw [E.out]; rfl, HB9.out⟩
    | true =>
      have hs' : (j.state != 1) = false := by unfold bne; rw [hs]; rfl
      cases hh : hasI j.nodes node with
      | false =>
        have E := Lib.hid (show bj = (job0, 13) by rw [← HBJ.out]; unfold loseJ; rw [r, hs, hh]; rfl)
        go_upto_region 6 with (go_at_call 25; ((with_reducible refine (KH.out _ (by assumption) _).mono ?_)); rintro e w' ⟨rfl, rfl⟩)
        refine wp_region_lit ?_
        refine wpList_yield (w' := w2) (v := .agg (jobC job0).toArray) rfl (by go_simp; rfl) ?_
        refine wpList_store_all rfl 26 _ _ rfl (w.heap.size + 1) (T := 26) (jobC job0) (by go_simp) (by go_simp) HZ2.out rfl (by kernel_rfl) rfl ?_
        intro w9 hw9
        have HW9 := Lib.hid hw9.there
        have HB9 := Lib.hid (hw9.below HB2.out (by omega))
        clear hw9
        go_wp2_with fail
        exact bodyPost_ret (results_all2 (jobC job0) _ Try.results11 (by go_simp) HW9.out Try.underlying26 rfl (by kernel_rfl)) rfl ⟨by rw [E.out]; rfl, HB9.out⟩
      | true =>
        have hll : lateB j now = true ∨ lateB j now = false := by cases lateB j now; exact .inr rfl; exact .inl rfl
        rcases hll with hla | hla
        · go_upto_region 7 with (go_at_call 25; ((with_reducible refine (KH.out _ (by assumption) _).mono ?_)); rintro e w' ⟨rfl, rfl⟩)
          refine wp_region_lit ?_
          refine wpList_load_all rfl 26 _ rfl (w.heap.size) l _ (by go_simp) HC2.out Try.underlying26 rfl (by rw [HLEN.out]; kernel_rfl) ?_
          refine wpList_yield (w' := w2) (v := .int .i64 now) rfl (by first | (go_simp; done) | (go_simp; rfl)) ?_
          refine wpList_enter rfl (by go_simp) (KL.out true hla w2) ?_
          rintro e w6 ⟨rfl, hb2⟩
          refine ⟨_, rfl, ?_⟩
          have hle := hb2.size
          have HC6 := Lib.hid ((hb2.block _ (Array.getElem?_eq_some_iff.1 HC2.out).1).trans HC2.out)
          have HZ6 := Lib.hid ((hb2.block _ (Array.getElem?_eq_some_iff.1 HZ2.out).1).trans HZ2.out)
          have HB6 := Lib.hid (below_next HB2.out hb2)
          clear hb2 hle
          clear c8 c14
          have E := Lib.hid (show bj = (job0, 18) by rw [← HBJ.out]; unfold loseJ; rw [r, hs, hh, hla]; rfl)
          go_upto_region 8 with fail
          refine wp_region_lit ?_
          refine wpList_yield (w' := w6) (v := .agg (jobC job0).toArray) rfl (by go_simp; rfl) ?_
          refine wpList_store_all rfl 26 _ _ rfl (w.heap.size + 1) (T := 26) (jobC job0) (by go_simp) (by go_simp) HZ6.out rfl (by kernel_rfl) rfl ?_
          intro w9 hw9
          have HW9 := Lib.hid hw9.there
          have HB9 := Lib.hid (hw9.below HB6.out (by omega))
          clear hw9
          go_wp2_with fail
          exact bodyPost_ret (results_all2 (jobC job0) _ Try.results11 (by go_simp) HW9.out Try.underlying26 rfl (by kernel_rfl)) rfl ⟨by rw [E.out]; rfl, HB9.out⟩
        · exact absurd ⟨r, hs, hh, hla⟩ hno
set_option maxRecDepth 100000 in
set_option maxHeartbeats 4000000 in
theorem lose_end (j : JobV) (now node retries : Int) (hy : rightB j = true ∧ (j.state == 1) = true ∧ hasI j.nodes node = true ∧ lateB j now = false) (hd : decide (retries < j.tries) = true) (w : World) : Calls Try.prog 11 #[.agg (jobC j).toArray, .int .i64 now, .int .i64 node, .int .i64 retries] w fun e w' => e = .returned (.tuple #[.agg (jobC (loseJ j now node retries).1).toArray, .int .i64 (loseJ j now node retries).2]) ∧ Below w.heap.size w w' := by
  have KR := Lib.hid (fun b (h : rightB j = b) W => right_is h W)
  have KL := Lib.hid (fun b (h : lateB j now = b) W => late_is h W)
  have KH := Lib.hid (fun b (h : hasI j.nodes node = b) W => h ▸ has_any j.nodes node W)
  have KE := Lib.hid (fun W => end_any j now 3 W)
  have HLEN' := Lib.hid (jobC_len (endJ j now 3))
  have HONE' := Lib.hid (jobC_one (endJ j now 3))
  generalize hbj : loseJ j now node retries = bj
  have HBJ := Lib.hid hbj
  clear hbj
  have HLEN := Lib.hid (jobC_len j)
  have k8 : (jobC j).toArray[8]? = some (.int .i64 j.state) := rfl
  have k10 : (jobC j).toArray[10]? = some (.int .i64 j.plan) := rfl
  have k11 : (jobC j).toArray[11]? = some (.int .i64 j.promise) := rfl
  have k12 : (jobC j).toArray[12]? = some (.int .i64 j.tries) := rfl
  have k13 : (jobC j).toArray[13]? = some (.int .u64 (nv j.black)) := rfl
  have k14 : (jobC j).toArray[14]? = some (.int .u64 (nv j.nodes)) := rfl
  have k15 : (jobC j).toArray[15]? = some (.int .i64 j.start) := rfl
  have k16 : (jobC j).toArray[16]? = some (.int .i64 j.fin) := rfl
  generalize hl' : jobC (endJ j now 3) = l' at *
  have HL' := Lib.hid hl'
  clear hl'
  generalize hl : jobC j = l at *
  clear hl
  go_enter Try.func11, Try.ntmps11
  go_upto_region 1 with fail
  generalize hU : (w.alloc (.cells l.toArray 26)).alloc (.cells #[.int .i64 0, .int .i64 0, .int .i64 0, .int .i64 0, .int .i64 0, .int .i64 0, .int .i64 0, .bool false, .int .i64 0, .int .i64 0, .int .i64 0, .int .i64 0, .int .i64 0, .int .u64 0, .int .u64 0, .int .i64 0, .int .i64 0] 26) = U
  have hC : U.heap[w.heap.size]? = some (.cells l.toArray 26 (0, 0)) := by rw [← hU]; exact ((below_alloc (Below.refl _ _) _).block _ (by simp)).trans (World.alloc_heap_new w _)
  have hZ : U.heap[w.heap.size + 1]? = some (.cells #[.int .i64 0, .int .i64 0, .int .i64 0, .int .i64 0, .int .i64 0, .int .i64 0, .int .i64 0, .bool false, .int .i64 0, .int .i64 0, .int .i64 0, .int .i64 0, .int .i64 0, .int .u64 0, .int .u64 0, .int .i64 0, .int .i64 0] 26 (0, 0)) := by
    rw [← hU]
    have := World.alloc_heap_new (w.alloc (.cells l.toArray 26)) (.cells #[.int .i64 0, .int .i64 0, .int .i64 0, .int .i64 0, .int .i64 0, .int .i64 0, .int .i64 0, .bool false, .int .i64 0, .int .i64 0, .int .i64 0, .int .i64 0, .int .i64 0, .int .u64 0, .int .u64 0, .int .i64 0, .int .i64 0] 26)
    rwa [show (w.alloc (.cells l.toArray 26)).heap.size = w.heap.size + 1 by simp] at this
  have HB := Lib.hid (show Below w.heap.size w U by rw [← hU]; exact (by repeat (first | exact Below.refl _ _ | assumption | refine below_drewN ?_ _ | refine Below.drew ?_ | refine below_alloc ?_ _ | refine Below.alloc ?_ (by first | omega | (simp; done) | (simp; omega)) _ | refine Below.setCell ?_ (Below.size (by assumption)) _ | refine Below.setCell ?_ (by first | omega | (simp; done) | (simp; omega)) _ | (refine Below.trans ?_ (Below.mono (by assumption) (by first | omega | (simp; done) | (simp; omega)))) | refine below_next ?_ (by assumption))))
  have HS := Lib.hid (show U.heap.size = w.heap.size + 2 by rw [← hU]; simp)
  clear hU
  have HC := Lib.hid hC
  have HZ := Lib.hid hZ
  clear hC hZ
  have HK8 := Lib.hid k8
  have HK10 := Lib.hid k10
  have HK11 := Lib.hid k11
  have HK12 := Lib.hid k12
  have HK13 := Lib.hid k13
  have HK14 := Lib.hid k14
  have HK15 := Lib.hid k15
  have HK16 := Lib.hid k16
  clear k8 k10 k11 k12 k13 k14 k15 k16
  obtain ⟨r, hs, hh, hla⟩ := hy
  go_upto_region 1 with fail
  refine wp_region_lit ?_
  refine wpList_load_all rfl 26 _ rfl (w.heap.size) l _ (by go_simp) HC.out Try.underlying26 rfl (by rw [HLEN.out]; kernel_rfl) ?_
  refine wpList_enter rfl (by go_simp) (KR.out true r U) ?_
  rintro e w2 ⟨rfl, hb2⟩
  refine ⟨_, rfl, ?_⟩
  have hle := hb2.size
  have HC2 := Lib.hid ((hb2.block _ (Array.getElem?_eq_some_iff.1 HC.out).1).trans HC.out)
  have HZ2 := Lib.hid ((hb2.block _ (Array.getElem?_eq_some_iff.1 HZ.out).1).trans HZ.out)
  have HB2 := Lib.hid (below_next HB.out hb2)
  clear hb2 hle
  have c8 := cell_of_block (o := 8) HC2.out HK8.out
  have c14 := cell_of_block (o := 14) HC2.out HK14.out
  have hs' : (j.state != 1) = false := by unfold bne; rw [hs]; rfl
  go_upto_region 7 with (go_at_call 25; ((with_reducible refine (KH.out _ (by assumption) _).mono ?_)); rintro e w' ⟨rfl, rfl⟩)
  refine wp_region_lit ?_
  refine wpList_load_all rfl 26 _ rfl (w.heap.size) l _ (by go_simp) HC2.out Try.underlying26 rfl (by rw [HLEN.out]; kernel_rfl) ?_
  refine wpList_yield (w' := w2) (v := .int .i64 now) rfl (by first | (go_simp; done) | (go_simp; rfl)) ?_
  refine wpList_enter rfl (by go_simp) (KL.out false hla w2) ?_
  rintro e w6 ⟨rfl, hb2⟩
  refine ⟨_, rfl, ?_⟩
  have hle := hb2.size
  have HC6 := Lib.hid ((hb2.block _ (Array.getElem?_eq_some_iff.1 HC2.out).1).trans HC2.out)
  have HZ6 := Lib.hid ((hb2.block _ (Array.getElem?_eq_some_iff.1 HZ2.out).1).trans HZ2.out)
  have HB6 := Lib.hid (below_next HB2.out hb2)
  clear hb2 hle
  clear c8 c14
  have c12 := cell_of_block (o := 12) HC6.out HK12.out
  have hd' : decide (j.tries > retries) = true := hd
  have E := Lib.hid (show bj = (endJ j now 3, 0) by rw [← HBJ.out]; unfold loseJ; rw [r, hs, hh, hla, hd]; rfl)
  go_upto_region 10 with fail
  refine wp_region_lit ?_
  refine wpList_load_all rfl 26 _ rfl (w.heap.size) l _ (by go_simp) HC6.out Try.underlying26 rfl (by rw [HLEN.out]; kernel_rfl) ?_
  refine wpList_yield (w' := w6) (v := .int .i64 now) rfl (by first | (go_simp; done) | (go_simp; rfl)) ?_
  refine wpList_enter rfl (by go_simp) (KE.out w6) ?_
  rintro e w8 ⟨rfl, hb2⟩
  refine ⟨_, rfl, ?_⟩
  have hle := hb2.size
  have HC8 := Lib.hid ((hb2.block _ (Array.getElem?_eq_some_iff.1 HC6.out).1).trans HC6.out)
  have HZ8 := Lib.hid ((hb2.block _ (Array.getElem?_eq_some_iff.1 HZ6.out).1).trans HZ6.out)
  have HB8 := Lib.hid (below_next HB6.out hb2)
  clear hb2 hle
  clear c12
  refine wpList_store_all rfl 26 _ _ rfl (w.heap.size + 1) (T := 26) l' (by go_simp) (by go_simp) HZ8.out (by rw [HLEN'.out]; rfl) (by rw [HLEN'.out]; kernel_rfl) HONE'.out ?_
  intro w9 hw9
  have HW9 := Lib.hid hw9.there
  have HB9 := Lib.hid (hw9.below HB8.out (by omega))
  clear hw9
  go_wp2_with fail
  exact bodyPost_ret (results_all2 l' _ Try.results11 (by go_simp) HW9.out Try.underlying26 rfl (by rw [HLEN'.out]; kernel_rfl)) rfl ⟨by rw [E.out, ← HL'.out]; first | done | rfl, HB9.out⟩
set_option maxRecDepth 100000 in
set_option maxHeartbeats 4000000 in
theorem lose_back (j : JobV) (now node retries : Int) (hy : rightB j = true ∧ (j.state == 1) = true ∧ hasI j.nodes node = true ∧ lateB j now = false) (hd : decide (retries < j.tries) = false) (w : World) : Calls Try.prog 11 #[.agg (jobC j).toArray, .int .i64 now, .int .i64 node, .int .i64 retries] w fun e w' => e = .returned (.tuple #[.agg (jobC (loseJ j now node retries).1).toArray, .int .i64 (loseJ j now node retries).2]) ∧ Below w.heap.size w w' := by
  have KR := Lib.hid (fun b (h : rightB j = b) W => right_is h W)
  have KL := Lib.hid (fun b (h : lateB j now = b) W => late_is h W)
  have KH := Lib.hid (fun b (h : hasI j.nodes node = b) W => h ▸ has_any j.nodes node W)
  have HSET := Lib.hid (show ((((((((jobC j).toArray).setIfInBounds 8 (.int .i64 0)).setIfInBounds 14 (.int .u64 0)).setIfInBounds 15 (.int .i64 0)).setIfInBounds 16 (.int .i64 0)).setIfInBounds 10 (.int .i64 1099511627776)).setIfInBounds 11 (.int .i64 1099511627776)).setIfInBounds 13 (.int .u64 (nv (j.black ||| oneI node))) = (jobC ({ j with state := 0, nodes := 0#64, start := 0, fin := 0, plan := 1099511627776, promise := 1099511627776, black := j.black ||| oneI node })).toArray from rfl)
  have HLEN' := Lib.hid (jobC_len ({ j with state := 0, nodes := 0#64, start := 0, fin := 0, plan := 1099511627776, promise := 1099511627776, black := j.black ||| oneI node }))
  have HONE' := Lib.hid (jobC_one ({ j with state := 0, nodes := 0#64, start := 0, fin := 0, plan := 1099511627776, promise := 1099511627776, black := j.black ||| oneI node }))
  generalize hbj : loseJ j now node retries = bj
  have HBJ := Lib.hid hbj
  clear hbj
  have HLEN := Lib.hid (jobC_len j)
  have k8 : (jobC j).toArray[8]? = some (.int .i64 j.state) := rfl
  have k10 : (jobC j).toArray[10]? = some (.int .i64 j.plan) := rfl
  have k11 : (jobC j).toArray[11]? = some (.int .i64 j.promise) := rfl
  have k12 : (jobC j).toArray[12]? = some (.int .i64 j.tries) := rfl
  have k13 : (jobC j).toArray[13]? = some (.int .u64 (nv j.black)) := rfl
  have k14 : (jobC j).toArray[14]? = some (.int .u64 (nv j.nodes)) := rfl
  have k15 : (jobC j).toArray[15]? = some (.int .i64 j.start) := rfl
  have k16 : (jobC j).toArray[16]? = some (.int .i64 j.fin) := rfl
  generalize hl' : jobC ({ j with state := 0, nodes := 0#64, start := 0, fin := 0, plan := 1099511627776, promise := 1099511627776, black := j.black ||| oneI node }) = l' at *
  have HL' := Lib.hid hl'
  clear hl'
  generalize hl : jobC j = l at *
  clear hl
  go_enter Try.func11, Try.ntmps11
  go_upto_region 1 with fail
  generalize hU : (w.alloc (.cells l.toArray 26)).alloc (.cells #[.int .i64 0, .int .i64 0, .int .i64 0, .int .i64 0, .int .i64 0, .int .i64 0, .int .i64 0, .bool false, .int .i64 0, .int .i64 0, .int .i64 0, .int .i64 0, .int .i64 0, .int .u64 0, .int .u64 0, .int .i64 0, .int .i64 0] 26) = U
  have hC : U.heap[w.heap.size]? = some (.cells l.toArray 26 (0, 0)) := by rw [← hU]; exact ((below_alloc (Below.refl _ _) _).block _ (by simp)).trans (World.alloc_heap_new w _)
  have hZ : U.heap[w.heap.size + 1]? = some (.cells #[.int .i64 0, .int .i64 0, .int .i64 0, .int .i64 0, .int .i64 0, .int .i64 0, .int .i64 0, .bool false, .int .i64 0, .int .i64 0, .int .i64 0, .int .i64 0, .int .i64 0, .int .u64 0, .int .u64 0, .int .i64 0, .int .i64 0] 26 (0, 0)) := by
    rw [← hU]
    have := World.alloc_heap_new (w.alloc (.cells l.toArray 26)) (.cells #[.int .i64 0, .int .i64 0, .int .i64 0, .int .i64 0, .int .i64 0, .int .i64 0, .int .i64 0, .bool false, .int .i64 0, .int .i64 0, .int .i64 0, .int .i64 0, .int .i64 0, .int .u64 0, .int .u64 0, .int .i64 0, .int .i64 0] 26)
    rwa [show (w.alloc (.cells l.toArray 26)).heap.size = w.heap.size + 1 by simp] at this
  have HB := Lib.hid (show Below w.heap.size w U by rw [← hU]; exact (by repeat (first | exact Below.refl _ _ | assumption | refine below_drewN ?_ _ | refine Below.drew ?_ | refine below_alloc ?_ _ | refine Below.alloc ?_ (by first | omega | (simp; done) | (simp; omega)) _ | refine Below.setCell ?_ (Below.size (by assumption)) _ | refine Below.setCell ?_ (by first | omega | (simp; done) | (simp; omega)) _ | (refine Below.trans ?_ (Below.mono (by assumption) (by first | omega | (simp; done) | (simp; omega)))) | refine below_next ?_ (by assumption))))
  have HS := Lib.hid (show U.heap.size = w.heap.size + 2 by rw [← hU]; simp)
  clear hU
  have HC := Lib.hid hC
  have HZ := Lib.hid hZ
  clear hC hZ
  have HK8 := Lib.hid k8
  have HK10 := Lib.hid k10
  have HK11 := Lib.hid k11
  have HK12 := Lib.hid k12
  have HK13 := Lib.hid k13
  have HK14 := Lib.hid k14
  have HK15 := Lib.hid k15
  have HK16 := Lib.hid k16
  clear k8 k10 k11 k12 k13 k14 k15 k16
  obtain ⟨r, hs, hh, hla⟩ := hy
  go_upto_region 1 with fail
  refine wp_region_lit ?_
  refine wpList_load_all rfl 26 _ rfl (w.heap.size) l _ (by go_simp) HC.out Try.underlying26 rfl (by rw [HLEN.out]; kernel_rfl) ?_
  refine wpList_enter rfl (by go_simp) (KR.out true r U) ?_
  rintro e w2 ⟨rfl, hb2⟩
  refine ⟨_, rfl, ?_⟩
  have hle := hb2.size
  have HC2 := Lib.hid ((hb2.block _ (Array.getElem?_eq_some_iff.1 HC.out).1).trans HC.out)
  have HZ2 := Lib.hid ((hb2.block _ (Array.getElem?_eq_some_iff.1 HZ.out).1).trans HZ.out)
  have HB2 := Lib.hid (below_next HB.out hb2)
  clear hb2 hle
  have c8 := cell_of_block (o := 8) HC2.out HK8.out
  have c14 := cell_of_block (o := 14) HC2.out HK14.out
  have hs' : (j.state != 1) = false := by unfold bne; rw [hs]; rfl
  go_upto_region 7 with (go_at_call 25; ((with_reducible refine (KH.out _ (by assumption) _).mono ?_)); rintro e w' ⟨rfl, rfl⟩)
  refine wp_region_lit ?_
  refine wpList_load_all rfl 26 _ rfl (w.heap.size) l _ (by go_simp) HC2.out Try.underlying26 rfl (by rw [HLEN.out]; kernel_rfl) ?_
  refine wpList_yield (w' := w2) (v := .int .i64 now) rfl (by first | (go_simp; done) | (go_simp; rfl)) ?_
  refine wpList_enter rfl (by go_simp) (KL.out false hla w2) ?_
  rintro e w6 ⟨rfl, hb2⟩
  refine ⟨_, rfl, ?_⟩
  have hle := hb2.size
  have HC6 := Lib.hid ((hb2.block _ (Array.getElem?_eq_some_iff.1 HC2.out).1).trans HC2.out)
  have HZ6 := Lib.hid ((hb2.block _ (Array.getElem?_eq_some_iff.1 HZ2.out).1).trans HZ2.out)
  have HB6 := Lib.hid (below_next HB2.out hb2)
  clear hb2 hle
  clear c8 c14
  have c8 := cell_of_block (o := 8) HC6.out HK8.out
  have c10 := cell_of_block (o := 10) HC6.out HK10.out
  have c11 := cell_of_block (o := 11) HC6.out HK11.out
  have c12 := cell_of_block (o := 12) HC6.out HK12.out
  have c13 := cell_of_block (o := 13) HC6.out HK13.out
  have c14 := cell_of_block (o := 14) HC6.out HK14.out
  have c15 := cell_of_block (o := 15) HC6.out HK15.out
  have c16 := cell_of_block (o := 16) HC6.out HK16.out
  have f8 := free_of_block 8 HC6.out
  have f10 := free_of_block 10 HC6.out
  have f11 := free_of_block 11 HC6.out
  have f13 := free_of_block 13 HC6.out
  have f14 := free_of_block 14 HC6.out
  have f15 := free_of_block 15 HC6.out
  have f16 := free_of_block 16 HC6.out
  have hd' : decide (j.tries > retries) = false := hd
  have E := Lib.hid (show bj = ({ j with state := 0, nodes := 0#64, start := 0, fin := 0, plan := 1099511627776, promise := 1099511627776, black := j.black ||| oneI node }, 0) by rw [← HBJ.out]; unfold loseJ; rw [r, hs, hh, hla, hd]; rfl)
  go_upto_region 14 with (go_at_call 26; ((with_reducible refine (with_any _ _ _).mono ?_)); rintro e w' ⟨rfl, rfl⟩)
  have hW := (((((((wrote_refl HC6.out).set 8 (.int .i64 0)).set 14 (.int .u64 0)).set 15 (.int .i64 0)).set 16 (.int .i64 0)).set 10 (.int .i64 1099511627776)).set 11 (.int .i64 1099511627776)).set 13 (.int .u64 (nv (j.black ||| oneI node)))
  rw [HSET.out] at hW
  have HV := Lib.hid hW.there
  have HZV := Lib.hid ((hW.rest (w.heap.size + 1) (by omega)).trans HZ6.out)
  have HBV := Lib.hid (hW.below HB6.out (Nat.le_refl _))
  clear hW c8 c10 c11 c12 c13 c14 c15 c16 f8 f10 f11 f13 f14 f15 f16
  generalize (((((((w6).setCell ⟨w.heap.size, 8, none⟩ (.int .i64 0)).setCell ⟨w.heap.size, 14, none⟩ (.int .u64 0)).setCell ⟨w.heap.size, 15, none⟩ (.int .i64 0)).setCell ⟨w.heap.size, 16, none⟩ (.int .i64 0)).setCell ⟨w.heap.size, 10, none⟩ (.int .i64 1099511627776)).setCell ⟨w.heap.size, 11, none⟩ (.int .i64 1099511627776)).setCell ⟨w.heap.size, 13, none⟩ (.int .u64 (nv (j.black ||| oneI node))) = V at *
  refine wp_region_lit ?_
  refine wpList_load_all rfl 26 _ rfl (w.heap.size) l' _ (by go_simp) HV.out Try.underlying26 rfl (by rw [HLEN'.out]; kernel_rfl) ?_
  refine wpList_store_all rfl 26 _ _ rfl (w.heap.size + 1) (T := 26) l' (by go_simp) (by go_simp) HZV.out (by rw [HLEN'.out]; rfl) (by rw [HLEN'.out]; kernel_rfl) HONE'.out ?_
  intro w9 hw9
  have HW9 := Lib.hid hw9.there
  have HB9 := Lib.hid (hw9.below HBV.out (by omega))
  clear hw9
  go_wp2_with fail
  exact bodyPost_ret (results_all2 l' _ Try.results11 (by go_simp) HW9.out Try.underlying26 rfl (by rw [HLEN'.out]; kernel_rfl)) rfl ⟨by rw [E.out, ← HL'.out]; first | done | rfl, HB9.out⟩
theorem lose_any (j : JobV) (now node retries : Int) (w : World) : Calls Try.prog 11 #[.agg (jobC j).toArray, .int .i64 now, .int .i64 node, .int .i64 retries] w fun e w' => e = .returned (.tuple #[.agg (jobC (loseJ j now node retries).1).toArray, .int .i64 (loseJ j now node retries).2]) ∧ Below w.heap.size w w' := by
  by_cases h : rightB j = true ∧ (j.state == 1) = true ∧ hasI j.nodes node = true ∧ lateB j now = false
  · cases hd : decide (retries < j.tries) with
    | true => exact lose_end j now node retries h hd w
    | false => exact lose_back j now node retries h hd w
  · exact lose_no j now node retries h w
end Go.Proofs.Ytgeldpfojmkdbaa
