/- Laws that the claim uses, 5 of 9: Jg, As, Append, Fr, CodP, Cur. No condition of its own but what each theorem says. -/
import Derived.Test.YtgeldpfojmkdbaaDoorMd
import Derived.Test.YtgeldpfojmkdbaaDoorRows
import Derived.Test.YtgeldpfojmkdbaaDoorMa
import Derived.WalkKit
import Derived.ProofKit
import Derived.OpenShut
import Derived.Below
import Derived.Outline
import Derived.WalkLawsBesides
import Derived.Lib.Hide
import Derived.LaidEql
import Derived.Stop.Asserts
import Derived.RowKitTokens
import Derived.Laws.AppendOwnNone
import Derived.OwnWalk
import Derived.RegionTactic
import Derived.BigRegion
import Derived.Deep.RegionHeld3
import Derived.Deep.DrawnRows
import Derived.Deep.DeepCutAuto
import Derived.IntWalk
import Derived.Deep.Slices
import Derived.WideShapes
import Derived.Lib.SliceRun
import Derived.RangeFuncRecord
import Derived.Laws.BitsAllLaws
import Derived.RowKit
import Derived.Laws.Bits64b
import Derived.Laws.Bits64
namespace Go.Proofs.YtgeldpfojmkdbaaDoor
set_option linter.unusedVariables false
open Go.ChangeShapes Go.WideShapes Go.ChangeAt Go.RowKit
attribute [local go_sem ↓] Go.wp_at_zero Go.wp_at_succ comesTo_value_eq comesTo_skip_eq comesTo_enter_eq Rl.comesToR_value_eq Rl.comesToR_skip_eq Rl.comesToR_enter_eq

set_option maxRecDepth 100000 in
set_option maxHeartbeats 4000000 in
theorem stop_any (j : JobV) (now how : Int) (w : World) : Calls Tryd.prog 13 #[.agg (jobC j).toArray, .int .i64 now, .int .i64 how] w fun e w' => e = .returned (.tuple #[.agg (jobC (stopJ j now how).1).toArray, .int .i64 (stopJ j now how).2]) ∧ Below w.heap.size w w' := by
  have KR := Lib.hid (fun b (h : rightB j = b) W => right_is h W)
  have KL := Lib.hid (fun b (h : lateB j now = b) W => late_is h W)
  have KO := Lib.hid (fun b (h : overB j = b) W => over_is h W)
  have KE := Lib.hid (fun W => end_any j now how W)
  have HLEN' := Lib.hid (jobC_len (endJ j now how))
  have HONE' := Lib.hid (jobC_one (endJ j now how))
  generalize hbj : stopJ j now how = bj
  have HBJ := Lib.hid hbj
  clear hbj
  have HLEN := Lib.hid (jobC_len j)
  have k8 : (jobC j).toArray[8]? = some (.int .i64 j.state) := rfl
  generalize hl' : jobC (endJ j now how) = l' at *
  have HL' := Lib.hid hl'
  clear hl'
  generalize hl : jobC j = l at *
  clear hl
  go_enter Tryd.func13, Tryd.ntmps13
  go_upto_region 1 with fail
  generalize hU : (w.alloc (.cells l.toArray 26)).alloc (.cells #[.int .i64 0, .int .i64 0, .int .i64 0, .int .i64 0, .int .i64 0, .int .i64 0, .int .i64 0, .bool false, .int .i64 0, .int .i64 0, .int .i64 0, .int .i64 0, .int .i64 0, .int .u64 0, .int .u64 0, .int .i64 0, .int .i64 0] 26) = U
  have hC : U.heap[w.heap.size]? = some (.cells l.toArray 26 (0, 0)) := by rw [← hU]; exact ((below_alloc (Below.refl _ _) _).block _ (by simp)).trans (World.alloc_heap_new w _)
  have hZ : U.heap[w.heap.size + 1]? = some (.cells #[.int .i64 0, .int .i64 0, .int .i64 0, .int .i64 0, .int .i64 0, .int .i64 0, .int .i64 0, .bool false, .int .i64 0, .int .i64 0, .int .i64 0, .int .i64 0, .int .i64 0, .int .u64 0, .int .u64 0, .int .i64 0, .int .i64 0] 26 (0, 0)) := by
    rw [← hU]
    have := World.alloc_heap_new (w.alloc (.cells l.toArray 26)) (.cells #[.int .i64 0, .int .i64 0, .int .i64 0, .int .i64 0, .int .i64 0, .int .i64 0, .int .i64 0, .bool false, .int .i64 0, .int .i64 0, .int .i64 0, .int .i64 0, .int .i64 0, .int .u64 0, .int .u64 0, .int .i64 0, .int .i64 0] 26)
    rwa [show (w.alloc (.cells l.toArray 26)).heap.size = w.heap.size + 1 by simp] at this
  have HB := Lib.hid (show Below w.heap.size w U by rw [← hU]; exact (by repeat (first | exact Below.refl _ _ | assumption | refine below_drewN ?_ _ | refine Below.drew ?_ | refine below_alloc ?_ _ | refine Below.alloc ?_ (by first | omega | (simp; done) | (simp; omega)) _ | refine Below.setCell ?_ (Below.size (by assumption)) _ | refine Below.setCell ?_ (by first | omega | (simp; done) | (simp; omega)) _ | (refine Below.trans ?_ (Below.mono (by assumption) (by first | omega | (simp; done) | (simp; omega)))) | refine below_next ?_ (by assumption))))
  have HS := Lib.hid (show U.heap.size = w.heap.size + 2 by rw [← hU]; simp)
  clear hU
  have HC := Lib.hid hC
  have HZ := Lib.hid hZ
  clear hC hZ
  have HK8 := Lib.hid k8
  clear k8
  cases r : rightB j with
  | false =>
    have E := Lib.hid (show bj = (job0, 11) by rw [← HBJ.out]; unfold stopJ; rw [r]; rfl)
    go_upto_region 1 with fail
    refine wp_region_lit ?_
    refine wpList_load_all rfl 26 _ rfl (w.heap.size) l _ (by go_simp) HC.out Tryd.underlying26 rfl (by rw [HLEN.out]; kernel_rfl) ?_
    refine wpList_enter rfl (by go_simp) (KR.out false r U) ?_
    rintro e w2 ⟨rfl, hb2⟩
    refine ⟨_, rfl, ?_⟩
    have hle := hb2.size
    have HC2 := Lib.hid ((hb2.block _ (Array.getElem?_eq_some_iff.1 HC.out).1).trans HC.out)
    have HZ2 := Lib.hid ((hb2.block _ (Array.getElem?_eq_some_iff.1 HZ.out).1).trans HZ.out)
    have HB2 := Lib.hid (below_next HB.out hb2)
    clear hb2 hle
    go_upto_region 2 with fail
    refine wp_region_lit ?_
    refine wpList_yield (w' := w2) (v := .agg (jobC job0).toArray) rfl (by go_simp; rfl) ?_
    refine wpList_store_all rfl 26 _ _ rfl (w.heap.size + 1) (T := 26) (jobC job0) (by go_simp) (by go_simp) HZ2.out rfl (by kernel_rfl) rfl ?_
    intro w9 hw9
    have HW9 := Lib.hid hw9.there
    have HB9 := Lib.hid (hw9.below HB2.out (by omega))
    clear hw9
    go_wp2_with fail
    exact bodyPost_ret (results_all2 (jobC job0) _ Tryd.results13 (by go_simp) HW9.out Tryd.underlying26 rfl (by kernel_rfl)) rfl ⟨by rw [E.out]; rfl, HB9.out⟩
  | true =>
    go_upto_region 1 with fail
    refine wp_region_lit ?_
    refine wpList_load_all rfl 26 _ rfl (w.heap.size) l _ (by go_simp) HC.out Tryd.underlying26 rfl (by rw [HLEN.out]; kernel_rfl) ?_
    refine wpList_enter rfl (by go_simp) (KR.out true r U) ?_
    rintro e w2 ⟨rfl, hb2⟩
    refine ⟨_, rfl, ?_⟩
    have hle := hb2.size
    have HC2 := Lib.hid ((hb2.block _ (Array.getElem?_eq_some_iff.1 HC.out).1).trans HC.out)
    have HZ2 := Lib.hid ((hb2.block _ (Array.getElem?_eq_some_iff.1 HZ.out).1).trans HZ.out)
    have HB2 := Lib.hid (below_next HB.out hb2)
    clear hb2 hle
    cases hw : inI how 2 5 with
    | false =>
      have E := Lib.hid (show bj = (job0, 2) by rw [← HBJ.out]; unfold stopJ; rw [r, hw]; rfl)
      go_upto_region 4 with (go_at_call 32; ((with_reducible refine (within_is (by assumption) _).mono ?_)); rintro e w' ⟨rfl, rfl⟩)
      refine wp_region_lit ?_
      refine wpList_yield (w' := w2) (v := .agg (jobC job0).toArray) rfl (by go_simp; rfl) ?_
      refine wpList_store_all rfl 26 _ _ rfl (w.heap.size + 1) (T := 26) (jobC job0) (by go_simp) (by go_simp) HZ2.out rfl (by kernel_rfl) rfl ?_
      intro w9 hw9
      have HW9 := Lib.hid hw9.there
      have HB9 := Lib.hid (hw9.below HB2.out (by omega))
      clear hw9
      go_wp2_with fail
      exact bodyPost_ret (results_all2 (jobC job0) _ Tryd.results13 (by go_simp) HW9.out Tryd.underlying26 rfl (by kernel_rfl)) rfl ⟨by rw [E.out]; rfl, HB9.out⟩
    | true =>
      have hoo : overB j = true ∨ overB j = false := by cases overB j; exact .inr rfl; exact .inl rfl
      rcases hoo with ho | ho
      · go_upto_region 5 with (go_at_call 32; ((with_reducible refine (within_is (by assumption) _).mono ?_)); rintro e w' ⟨rfl, rfl⟩)
        refine wp_region_lit ?_
        refine wpList_load_all rfl 26 _ rfl (w.heap.size) l _ (by go_simp) HC2.out Tryd.underlying26 rfl (by rw [HLEN.out]; kernel_rfl) ?_
        refine wpList_enter rfl (by go_simp) (KO.out true ho w2) ?_
        rintro e w4 ⟨rfl, hb2⟩
        refine ⟨_, rfl, ?_⟩
        have hle := hb2.size
        have HC4 := Lib.hid ((hb2.block _ (Array.getElem?_eq_some_iff.1 HC2.out).1).trans HC2.out)
        have HZ4 := Lib.hid ((hb2.block _ (Array.getElem?_eq_some_iff.1 HZ2.out).1).trans HZ2.out)
        have HB4 := Lib.hid (below_next HB2.out hb2)
        clear hb2 hle
        have E := Lib.hid (show bj = (job0, 16) by rw [← HBJ.out]; unfold stopJ; rw [r, hw, ho]; rfl)
        go_upto_region 6 with fail
        refine wp_region_lit ?_
        refine wpList_yield (w' := w4) (v := .agg (jobC job0).toArray) rfl (by go_simp; rfl) ?_
        refine wpList_store_all rfl 26 _ _ rfl (w.heap.size + 1) (T := 26) (jobC job0) (by go_simp) (by go_simp) HZ4.out rfl (by kernel_rfl) rfl ?_
        intro w9 hw9
        have HW9 := Lib.hid hw9.there
        have HB9 := Lib.hid (hw9.below HB4.out (by omega))
        clear hw9
        go_wp2_with fail
        exact bodyPost_ret (results_all2 (jobC job0) _ Tryd.results13 (by go_simp) HW9.out Tryd.underlying26 rfl (by kernel_rfl)) rfl ⟨by rw [E.out]; rfl, HB9.out⟩
      · go_upto_region 5 with (go_at_call 32; ((with_reducible refine (within_is (by assumption) _).mono ?_)); rintro e w' ⟨rfl, rfl⟩)
        refine wp_region_lit ?_
        refine wpList_load_all rfl 26 _ rfl (w.heap.size) l _ (by go_simp) HC2.out Tryd.underlying26 rfl (by rw [HLEN.out]; kernel_rfl) ?_
        refine wpList_enter rfl (by go_simp) (KO.out false ho w2) ?_
        rintro e w4 ⟨rfl, hb2⟩
        refine ⟨_, rfl, ?_⟩
        have hle := hb2.size
        have HC4 := Lib.hid ((hb2.block _ (Array.getElem?_eq_some_iff.1 HC2.out).1).trans HC2.out)
        have HZ4 := Lib.hid ((hb2.block _ (Array.getElem?_eq_some_iff.1 HZ2.out).1).trans HZ2.out)
        have HB4 := Lib.hid (below_next HB2.out hb2)
        clear hb2 hle
        have c8 := cell_of_block (o := 8) HC4.out HK8.out
        cases hs : (j.state == 0) with
        | false =>
          have hll : lateB j now = true ∨ lateB j now = false := by cases lateB j now; exact .inr rfl; exact .inl rfl
          rcases hll with hla | hla
          · go_upto_region 7 with fail
            refine wp_region_lit ?_
            refine wpList_load_all rfl 26 _ rfl (w.heap.size) l _ (by go_simp) HC4.out Tryd.underlying26 rfl (by rw [HLEN.out]; kernel_rfl) ?_
            refine wpList_yield (w' := w4) (v := .int .i64 now) rfl (by first | (go_simp; done) | (go_simp; rfl)) ?_
            refine wpList_enter rfl (by go_simp) (KL.out true hla w4) ?_
            rintro e w6 ⟨rfl, hb2⟩
            refine ⟨_, rfl, ?_⟩
            have hle := hb2.size
            have HC6 := Lib.hid ((hb2.block _ (Array.getElem?_eq_some_iff.1 HC4.out).1).trans HC4.out)
            have HZ6 := Lib.hid ((hb2.block _ (Array.getElem?_eq_some_iff.1 HZ4.out).1).trans HZ4.out)
            have HB6 := Lib.hid (below_next HB4.out hb2)
            clear hb2 hle
            clear c8
            have E := Lib.hid (show bj = (job0, 18) by rw [← HBJ.out]; unfold stopJ; rw [r, hw, ho, hs, hla]; rfl)
            go_upto_region 8 with fail
            refine wp_region_lit ?_
            refine wpList_yield (w' := w6) (v := .agg (jobC job0).toArray) rfl (by go_simp; rfl) ?_
            refine wpList_store_all rfl 26 _ _ rfl (w.heap.size + 1) (T := 26) (jobC job0) (by go_simp) (by go_simp) HZ6.out rfl (by kernel_rfl) rfl ?_
            intro w9 hw9
            have HW9 := Lib.hid hw9.there
            have HB9 := Lib.hid (hw9.below HB6.out (by omega))
            clear hw9
            go_wp2_with fail
            exact bodyPost_ret (results_all2 (jobC job0) _ Tryd.results13 (by go_simp) HW9.out Tryd.underlying26 rfl (by kernel_rfl)) rfl ⟨by rw [E.out]; rfl, HB9.out⟩
          · go_upto_region 7 with fail
            refine wp_region_lit ?_
            refine wpList_load_all rfl 26 _ rfl (w.heap.size) l _ (by go_simp) HC4.out Tryd.underlying26 rfl (by rw [HLEN.out]; kernel_rfl) ?_
            refine wpList_yield (w' := w4) (v := .int .i64 now) rfl (by first | (go_simp; done) | (go_simp; rfl)) ?_
            refine wpList_enter rfl (by go_simp) (KL.out false hla w4) ?_
            rintro e w6 ⟨rfl, hb2⟩
            refine ⟨_, rfl, ?_⟩
            have hle := hb2.size
            have HC6 := Lib.hid ((hb2.block _ (Array.getElem?_eq_some_iff.1 HC4.out).1).trans HC4.out)
            have HZ6 := Lib.hid ((hb2.block _ (Array.getElem?_eq_some_iff.1 HZ4.out).1).trans HZ4.out)
            have HB6 := Lib.hid (below_next HB4.out hb2)
            clear hb2 hle
            clear c8
            have E := Lib.hid (show bj = (endJ j now how, 0) by rw [← HBJ.out]; unfold stopJ; rw [r, hw, ho, hs, hla]; rfl)
            go_upto_region 9 with fail
            refine wp_region_lit ?_
            refine wpList_load_all rfl 26 _ rfl (w.heap.size) l _ (by go_simp) HC6.out Tryd.underlying26 rfl (by rw [HLEN.out]; kernel_rfl) ?_
            refine wpList_yield (w' := w6) (v := .int .i64 now) rfl (by first | (go_simp; done) | (go_simp; rfl)) ?_
            refine wpList_yield (w' := w6) (v := .int .i64 how) rfl (by first | (go_simp; done) | (go_simp; rfl)) ?_
            refine wpList_enter rfl (by go_simp) (KE.out w6) ?_
            rintro e w8 ⟨rfl, hb2⟩
            refine ⟨_, rfl, ?_⟩
            have hle := hb2.size
            have HC8 := Lib.hid ((hb2.block _ (Array.getElem?_eq_some_iff.1 HC6.out).1).trans HC6.out)
            have HZ8 := Lib.hid ((hb2.block _ (Array.getElem?_eq_some_iff.1 HZ6.out).1).trans HZ6.out)
            have HB8 := Lib.hid (below_next HB6.out hb2)
            clear hb2 hle
            refine wpList_store_all rfl 26 _ _ rfl (w.heap.size + 1) (T := 26) l' (by go_simp) (by go_simp) HZ8.out (by rw [HLEN'.out]; rfl) (by rw [HLEN'.out]; kernel_rfl) HONE'.out ?_
            intro w9 hw9
            have HW9 := Lib.hid hw9.there
            have HB9 := Lib.hid (hw9.below HB8.out (by omega))
            clear hw9
            go_wp2_with fail
            exact bodyPost_ret (results_all2 l' _ Tryd.results13 (by go_simp) HW9.out Tryd.underlying26 rfl (by rw [HLEN'.out]; kernel_rfl)) rfl ⟨by rw [E.out, ← HL'.out]; first | done | rfl, HB9.out⟩
        | true =>
          cases h2 : (how == 2) with
          | true =>
            have E := Lib.hid (show bj = (job0, 16) by rw [← HBJ.out]; unfold stopJ; rw [r, hw, ho, hs, h2]; rfl)
            go_upto_region 6 with fail
            refine wp_region_lit ?_
            refine wpList_yield (w' := w4) (v := .agg (jobC job0).toArray) rfl (by go_simp; rfl) ?_
            refine wpList_store_all rfl 26 _ _ rfl (w.heap.size + 1) (T := 26) (jobC job0) (by go_simp) (by go_simp) HZ4.out rfl (by kernel_rfl) rfl ?_
            intro w9 hw9
            have HW9 := Lib.hid hw9.there
            have HB9 := Lib.hid (hw9.below HB4.out (by omega))
            clear hw9
            go_wp2_with fail
            exact bodyPost_ret (results_all2 (jobC job0) _ Tryd.results13 (by go_simp) HW9.out Tryd.underlying26 rfl (by kernel_rfl)) rfl ⟨by rw [E.out]; rfl, HB9.out⟩
          | false =>
            cases h5 : (how == 5) with
            | true =>
              have E := Lib.hid (show bj = (job0, 16) by rw [← HBJ.out]; unfold stopJ; rw [r, hw, ho, hs, h2, h5]; rfl)
              go_upto_region 6 with fail
              refine wp_region_lit ?_
              refine wpList_yield (w' := w4) (v := .agg (jobC job0).toArray) rfl (by go_simp; rfl) ?_
              refine wpList_store_all rfl 26 _ _ rfl (w.heap.size + 1) (T := 26) (jobC job0) (by go_simp) (by go_simp) HZ4.out rfl (by kernel_rfl) rfl ?_
              intro w9 hw9
              have HW9 := Lib.hid hw9.there
              have HB9 := Lib.hid (hw9.below HB4.out (by omega))
              clear hw9
              go_wp2_with fail
              exact bodyPost_ret (results_all2 (jobC job0) _ Tryd.results13 (by go_simp) HW9.out Tryd.underlying26 rfl (by kernel_rfl)) rfl ⟨by rw [E.out]; rfl, HB9.out⟩
            | false =>
              have hll : lateB j now = true ∨ lateB j now = false := by cases lateB j now; exact .inr rfl; exact .inl rfl
              rcases hll with hla | hla
              · go_upto_region 7 with fail
                refine wp_region_lit ?_
                refine wpList_load_all rfl 26 _ rfl (w.heap.size) l _ (by go_simp) HC4.out Tryd.underlying26 rfl (by rw [HLEN.out]; kernel_rfl) ?_
                refine wpList_yield (w' := w4) (v := .int .i64 now) rfl (by first | (go_simp; done) | (go_simp; rfl)) ?_
                refine wpList_enter rfl (by go_simp) (KL.out true hla w4) ?_
                rintro e w6 ⟨rfl, hb2⟩
                refine ⟨_, rfl, ?_⟩
                have hle := hb2.size
                have HC6 := Lib.hid ((hb2.block _ (Array.getElem?_eq_some_iff.1 HC4.out).1).trans HC4.out)
                have HZ6 := Lib.hid ((hb2.block _ (Array.getElem?_eq_some_iff.1 HZ4.out).1).trans HZ4.out)
                have HB6 := Lib.hid (below_next HB4.out hb2)
                clear hb2 hle
                clear c8
                have E := Lib.hid (show bj = (job0, 18) by rw [← HBJ.out]; unfold stopJ; rw [r, hw, ho, hs, h2, h5, hla]; rfl)
                go_upto_region 8 with fail
                refine wp_region_lit ?_
                refine wpList_yield (w' := w6) (v := .agg (jobC job0).toArray) rfl (by go_simp; rfl) ?_
                refine wpList_store_all rfl 26 _ _ rfl (w.heap.size + 1) (T := 26) (jobC job0) (by go_simp) (by go_simp) HZ6.out rfl (by kernel_rfl) rfl ?_
                intro w9 hw9
                have HW9 := Lib.hid hw9.there
                have HB9 := Lib.hid (hw9.below HB6.out (by omega))
                clear hw9
                go_wp2_with fail
                exact bodyPost_ret (results_all2 (jobC job0) _ Tryd.results13 (by go_simp) HW9.out Tryd.underlying26 rfl (by kernel_rfl)) rfl ⟨by rw [E.out]; rfl, HB9.out⟩
              · go_upto_region 7 with fail
                refine wp_region_lit ?_
                refine wpList_load_all rfl 26 _ rfl (w.heap.size) l _ (by go_simp) HC4.out Tryd.underlying26 rfl (by rw [HLEN.out]; kernel_rfl) ?_
                refine wpList_yield (w' := w4) (v := .int .i64 now) rfl (by first | (go_simp; done) | (go_simp; rfl)) ?_
                refine wpList_enter rfl (by go_simp) (KL.out false hla w4) ?_
                rintro e w6 ⟨rfl, hb2⟩
                refine ⟨_, rfl, ?_⟩
                have hle := hb2.size
                have HC6 := Lib.hid ((hb2.block _ (Array.getElem?_eq_some_iff.1 HC4.out).1).trans HC4.out)
                have HZ6 := Lib.hid ((hb2.block _ (Array.getElem?_eq_some_iff.1 HZ4.out).1).trans HZ4.out)
                have HB6 := Lib.hid (below_next HB4.out hb2)
                clear hb2 hle
                clear c8
                have E := Lib.hid (show bj = (endJ j now how, 0) by rw [← HBJ.out]; unfold stopJ; rw [r, hw, ho, hs, h2, h5, hla]; rfl)
                go_upto_region 9 with fail
                refine wp_region_lit ?_
                refine wpList_load_all rfl 26 _ rfl (w.heap.size) l _ (by go_simp) HC6.out Tryd.underlying26 rfl (by rw [HLEN.out]; kernel_rfl) ?_
                refine wpList_yield (w' := w6) (v := .int .i64 now) rfl (by first | (go_simp; done) | (go_simp; rfl)) ?_
                refine wpList_yield (w' := w6) (v := .int .i64 how) rfl (by first | (go_simp; done) | (go_simp; rfl)) ?_
                refine wpList_enter rfl (by go_simp) (KE.out w6) ?_
                rintro e w8 ⟨rfl, hb2⟩
                refine ⟨_, rfl, ?_⟩
                have hle := hb2.size
                have HC8 := Lib.hid ((hb2.block _ (Array.getElem?_eq_some_iff.1 HC6.out).1).trans HC6.out)
                have HZ8 := Lib.hid ((hb2.block _ (Array.getElem?_eq_some_iff.1 HZ6.out).1).trans HZ6.out)
                have HB8 := Lib.hid (below_next HB6.out hb2)
                clear hb2 hle
                refine wpList_store_all rfl 26 _ _ rfl (w.heap.size + 1) (T := 26) l' (by go_simp) (by go_simp) HZ8.out (by rw [HLEN'.out]; rfl) (by rw [HLEN'.out]; kernel_rfl) HONE'.out ?_
                intro w9 hw9
                have HW9 := Lib.hid hw9.there
                have HB9 := Lib.hid (hw9.below HB8.out (by omega))
                clear hw9
                go_wp2_with fail
                exact bodyPost_ret (results_all2 l' _ Tryd.results13 (by go_simp) HW9.out Tryd.underlying26 rfl (by rw [HLEN'.out]; kernel_rfl)) rfl ⟨by rw [E.out, ← HL'.out]; first | done | rfl, HB9.out⟩
set_option maxRecDepth 100000 in
set_option maxHeartbeats 4000000 in
theorem lose_no (j : JobV) (now node retries : Int) (hno : ¬ (rightB j = true ∧ (j.state == 1) = true ∧ hasI j.nodes node = true ∧ lateB j now = false)) (w : World) : Calls Tryd.prog 14 #[.agg (jobC j).toArray, .int .i64 now, .int .i64 node, .int .i64 retries] w fun e w' => e = .returned (.tuple #[.agg (jobC (loseJ j now node retries).1).toArray, .int .i64 (loseJ j now node retries).2]) ∧ Below w.heap.size w w' := by
  have KR := Lib.hid (fun b (h : rightB j = b) W => right_is h W)
  have KL := Lib.hid (fun b (h : lateB j now = b) W => late_is h W)
  have KH := Lib.hid (fun b (h : hasI j.nodes node = b) W => h ▸ has_any j.nodes node W)
  have HLEN' := Lib.hid (jobC_len (job0))
  have HONE' := Lib.hid (jobC_one (job0))
  generalize hbj : loseJ j now node retries = bj
  have HBJ := Lib.hid hbj
  clear hbj
  have HLEN := Lib.hid (jobC_len j)
  have k8 : (jobC j).toArray[8]? = some (.int .i64 j.state) := rfl
  have k10 : (jobC j).toArray[10]? = some (.int .i64 j.plan) := rfl
  have k11 : (jobC j).toArray[11]? = some (.int .i64 j.promise) := rfl
  have k12 : (jobC j).toArray[12]? = some (.int .i64 j.tries) := rfl
  have k13 : (jobC j).toArray[13]? = some (.int .u64 (nv j.black)) := rfl
  have k14 : (jobC j).toArray[14]? = some (.int .u64 (nv j.nodes)) := rfl
  have k15 : (jobC j).toArray[15]? = some (.int .i64 j.start) := rfl
  have k16 : (jobC j).toArray[16]? = some (.int .i64 j.fin) := rfl
  generalize hl' : jobC (job0) = l' at *
  have HL' := Lib.hid hl'
  clear hl'
  generalize hl : jobC j = l at *
  clear hl
  go_enter Tryd.func14, Tryd.ntmps14
  go_upto_region 1 with fail
  generalize hU : (w.alloc (.cells l.toArray 26)).alloc (.cells #[.int .i64 0, .int .i64 0, .int .i64 0, .int .i64 0, .int .i64 0, .int .i64 0, .int .i64 0, .bool false, .int .i64 0, .int .i64 0, .int .i64 0, .int .i64 0, .int .i64 0, .int .u64 0, .int .u64 0, .int .i64 0, .int .i64 0] 26) = U
  have hC : U.heap[w.heap.size]? = some (.cells l.toArray 26 (0, 0)) := by rw [← hU]; exact ((below_alloc (Below.refl _ _) _).block _ (by simp)).trans (World.alloc_heap_new w _)
  have hZ : U.heap[w.heap.size + 1]? = some (.cells #[.int .i64 0, .int .i64 0, .int .i64 0, .int .i64 0, .int .i64 0, .int .i64 0, .int .i64 0, .bool false, .int .i64 0, .int .i64 0, .int .i64 0, .int .i64 0, .int .i64 0, .int .u64 0, .int .u64 0, .int .i64 0, .int .i64 0] 26 (0, 0)) := by
    rw [← hU]
    have := World.alloc_heap_new (w.alloc (.cells l.toArray 26)) (.cells #[.int .i64 0, .int .i64 0, .int .i64 0, .int .i64 0, .int .i64 0, .int .i64 0, .int .i64 0, .bool false, .int .i64 0, .int .i64 0, .int .i64 0, .int .i64 0, .int .i64 0, .int .u64 0, .int .u64 0, .int .i64 0, .int .i64 0] 26)
    rwa [show (w.alloc (.cells l.toArray 26)).heap.size = w.heap.size + 1 by simp] at this
  have HB := Lib.hid (show Below w.heap.size w U by rw [← hU]; exact (by repeat (first | exact Below.refl _ _ | assumption | refine below_drewN ?_ _ | refine Below.drew ?_ | refine below_alloc ?_ _ | refine Below.alloc ?_ (by first | omega | (simp; done) | (simp; omega)) _ | refine Below.setCell ?_ (Below.size (by assumption)) _ | refine Below.setCell ?_ (by first | omega | (simp; done) | (simp; omega)) _ | (refine Below.trans ?_ (Below.mono (by assumption) (by first | omega | (simp; done) | (simp; omega)))) | refine below_next ?_ (by assumption))))
  have HS := Lib.hid (show U.heap.size = w.heap.size + 2 by rw [← hU]; simp)
  clear hU
  have HC := Lib.hid hC
  have HZ := Lib.hid hZ
  clear hC hZ
  have HK8 := Lib.hid k8
  have HK10 := Lib.hid k10
  have HK11 := Lib.hid k11
  have HK12 := Lib.hid k12
  have HK13 := Lib.hid k13
  have HK14 := Lib.hid k14
  have HK15 := Lib.hid k15
  have HK16 := Lib.hid k16
  clear k8 k10 k11 k12 k13 k14 k15 k16
  cases r : rightB j with
  | false =>
    have E := Lib.hid (show bj = (job0, 11) by rw [← HBJ.out]; unfold loseJ; rw [r]; rfl)
    go_upto_region 1 with fail
    refine wp_region_lit ?_
    refine wpList_load_all rfl 26 _ rfl (w.heap.size) l _ (by go_simp) HC.out Tryd.underlying26 rfl (by rw [HLEN.out]; kernel_rfl) ?_
    refine wpList_enter rfl (by go_simp) (KR.out false r U) ?_
    rintro e w2 ⟨rfl, hb2⟩
    refine ⟨_, rfl, ?_⟩
    have hle := hb2.size
    have HC2 := Lib.hid ((hb2.block _ (Array.getElem?_eq_some_iff.1 HC.out).1).trans HC.out)
    have HZ2 := Lib.hid ((hb2.block _ (Array.getElem?_eq_some_iff.1 HZ.out).1).trans HZ.out)
    have HB2 := Lib.hid (below_next HB.out hb2)
    clear hb2 hle
    go_upto_region 2 with fail
    refine wp_region_lit ?_
    refine wpList_yield (w' := w2) (v := .agg (jobC job0).toArray) rfl (by go_simp; rfl) ?_
    refine wpList_store_all rfl 26 _ _ rfl (w.heap.size + 1) (T := 26) (jobC job0) (by go_simp) (by go_simp) HZ2.out rfl (by kernel_rfl) rfl ?_
    intro w9 hw9
    have HW9 := Lib.hid hw9.there
    have HB9 := Lib.hid (hw9.below HB2.out (by omega))
    clear hw9
    go_wp2_with fail
    exact bodyPost_ret (results_all2 (jobC job0) _ Tryd.results14 (by go_simp) HW9.out Tryd.underlying26 rfl (by kernel_rfl)) rfl ⟨by rw [E.out]; rfl, HB9.out⟩
  | true =>
    go_upto_region 1 with fail
    refine wp_region_lit ?_
    refine wpList_load_all rfl 26 _ rfl (w.heap.size) l _ (by go_simp) HC.out Tryd.underlying26 rfl (by rw [HLEN.out]; kernel_rfl) ?_
    refine wpList_enter rfl (by go_simp) (KR.out true r U) ?_
    rintro e w2 ⟨rfl, hb2⟩
    refine ⟨_, rfl, ?_⟩
    have hle := hb2.size
    have HC2 := Lib.hid ((hb2.block _ (Array.getElem?_eq_some_iff.1 HC.out).1).trans HC.out)
    have HZ2 := Lib.hid ((hb2.block _ (Array.getElem?_eq_some_iff.1 HZ.out).1).trans HZ.out)
    have HB2 := Lib.hid (below_next HB.out hb2)
    clear hb2 hle
    have c8 := cell_of_block (o := 8) HC2.out HK8.out
    have c14 := cell_of_block (o := 14) HC2.out HK14.out
    cases hs : (j.state == 1) with
    | false =>
      have hs' : (j.state != 1) = true := by unfold bne; rw [hs]; rfl
      have E := Lib.hid (show bj = (job0, 16) by rw [← HBJ.out]; unfold loseJ; rw [r, hs]; rfl)
      go_upto_region 4 with fail
      refine wp_region_lit ?_
      refine wpList_yield (w' := w2) (v := .agg (jobC job0).toArray) rfl (by go_simp; rfl) ?_
      refine wpList_store_all rfl 26 _ _ rfl (w.heap.size + 1) (T := 26) (jobC job0) (by go_simp) (by go_simp) HZ2.out rfl (by kernel_rfl) rfl ?_
      intro w9 hw9
      have HW9 := Lib.hid hw9.there
      have HB9 := Lib.hid (hw9.below HB2.out (by omega))
      clear hw9
      go_wp2_with fail
      exact bodyPost_ret (results_all2 (jobC job0) _ Tryd.results14 (by go_simp) HW9.out Tryd.underlying26 rfl (by kernel_rfl)) rfl ⟨by rw [E.out]; rfl, HB9.out⟩
    | true =>
      have hs' : (j.state != 1) = false := by unfold bne; rw [hs]; rfl
      cases hh : hasI j.nodes node with
      | false =>
        have E := Lib.hid (show bj = (job0, 13) by rw [← HBJ.out]; unfold loseJ; rw [r, hs, hh]; rfl)
        go_upto_region 6 with (go_at_call 38; ((with_reducible refine (KH.out _ (by assumption) _).mono ?_)); rintro e w' ⟨rfl, rfl⟩)
        refine wp_region_lit ?_
        refine wpList_yield (w' := w2) (v := .agg (jobC job0).toArray) rfl (by go_simp; rfl) ?_
        refine wpList_store_all rfl 26 _ _ rfl (w.heap.size + 1) (T := 26) (jobC job0) (by go_simp) (by go_simp) HZ2.out rfl (by kernel_rfl) rfl ?_
        intro w9 hw9
        have HW9 := Lib.hid hw9.there
        have HB9 := Lib.hid (hw9.below HB2.out (by omega))
        clear hw9
        go_wp2_with fail
        exact bodyPost_ret (results_all2 (jobC job0) _ Tryd.results14 (by go_simp) HW9.out Tryd.underlying26 rfl (by kernel_rfl)) rfl ⟨by rw [E.out]; rfl, HB9.out⟩
      | true =>
        have hll : lateB j now = true ∨ lateB j now = false := by cases lateB j now; exact .inr rfl; exact .inl rfl
        rcases hll with hla | hla
        · go_upto_region 7 with (go_at_call 38; ((with_reducible refine (KH.out _ (by assumption) _).mono ?_)); rintro e w' ⟨rfl, rfl⟩)
          refine wp_region_lit ?_
          refine wpList_load_all rfl 26 _ rfl (w.heap.size) l _ (by go_simp) HC2.out Tryd.underlying26 rfl (by rw [HLEN.out]; kernel_rfl) ?_
          refine wpList_yield (w' := w2) (v := .int .i64 now) rfl (by first | (go_simp; done) | (go_simp; rfl)) ?_
          refine wpList_enter rfl (by go_simp) (KL.out true hla w2) ?_
          rintro e w6 ⟨rfl, hb2⟩
          refine ⟨_, rfl, ?_⟩
          have hle := hb2.size
          have HC6 := Lib.hid ((hb2.block _ (Array.getElem?_eq_some_iff.1 HC2.out).1).trans HC2.out)
          have HZ6 := Lib.hid ((hb2.block _ (Array.getElem?_eq_some_iff.1 HZ2.out).1).trans HZ2.out)
          have HB6 := Lib.hid (below_next HB2.out hb2)
          clear hb2 hle
          clear c8 c14
          have E := Lib.hid (show bj = (job0, 18) by rw [← HBJ.out]; unfold loseJ; rw [r, hs, hh, hla]; rfl)
          go_upto_region 8 with fail
          refine wp_region_lit ?_
          refine wpList_yield (w' := w6) (v := .agg (jobC job0).toArray) rfl (by go_simp; rfl) ?_
          refine wpList_store_all rfl 26 _ _ rfl (w.heap.size + 1) (T := 26) (jobC job0) (by go_simp) (by go_simp) HZ6.out rfl (by kernel_rfl) rfl ?_
          intro w9 hw9
          have HW9 := Lib.hid hw9.there
          have HB9 := Lib.hid (hw9.below HB6.out (by omega))
          clear hw9
          go_wp2_with fail
          exact bodyPost_ret (results_all2 (jobC job0) _ Tryd.results14 (by go_simp) HW9.out Tryd.underlying26 rfl (by kernel_rfl)) rfl ⟨by rw [E.out]; rfl, HB9.out⟩
        · exact absurd ⟨r, hs, hh, hla⟩ hno
set_option maxRecDepth 100000 in
set_option maxHeartbeats 4000000 in
theorem lose_end (j : JobV) (now node retries : Int) (hy : rightB j = true ∧ (j.state == 1) = true ∧ hasI j.nodes node = true ∧ lateB j now = false) (hd : decide (retries < j.tries) = true) (w : World) : Calls Tryd.prog 14 #[.agg (jobC j).toArray, .int .i64 now, .int .i64 node, .int .i64 retries] w fun e w' => e = .returned (.tuple #[.agg (jobC (loseJ j now node retries).1).toArray, .int .i64 (loseJ j now node retries).2]) ∧ Below w.heap.size w w' := by
  have KR := Lib.hid (fun b (h : rightB j = b) W => right_is h W)
  have KL := Lib.hid (fun b (h : lateB j now = b) W => late_is h W)
  have KH := Lib.hid (fun b (h : hasI j.nodes node = b) W => h ▸ has_any j.nodes node W)
  have KE := Lib.hid (fun W => end_any j now 3 W)
  have HLEN' := Lib.hid (jobC_len (endJ j now 3))
  have HONE' := Lib.hid (jobC_one (endJ j now 3))
  generalize hbj : loseJ j now node retries = bj
  have HBJ := Lib.hid hbj
  clear hbj
  have HLEN := Lib.hid (jobC_len j)
  have k8 : (jobC j).toArray[8]? = some (.int .i64 j.state) := rfl
  have k10 : (jobC j).toArray[10]? = some (.int .i64 j.plan) := rfl
  have k11 : (jobC j).toArray[11]? = some (.int .i64 j.promise) := rfl
  have k12 : (jobC j).toArray[12]? = some (.int .i64 j.tries) := rfl
  have k13 : (jobC j).toArray[13]? = some (.int .u64 (nv j.black)) := rfl
  have k14 : (jobC j).toArray[14]? = some (.int .u64 (nv j.nodes)) := rfl
  have k15 : (jobC j).toArray[15]? = some (.int .i64 j.start) := rfl
  have k16 : (jobC j).toArray[16]? = some (.int .i64 j.fin) := rfl
  generalize hl' : jobC (endJ j now 3) = l' at *
  have HL' := Lib.hid hl'
  clear hl'
  generalize hl : jobC j = l at *
  clear hl
  go_enter Tryd.func14, Tryd.ntmps14
  go_upto_region 1 with fail
  generalize hU : (w.alloc (.cells l.toArray 26)).alloc (.cells #[.int .i64 0, .int .i64 0, .int .i64 0, .int .i64 0, .int .i64 0, .int .i64 0, .int .i64 0, .bool false, .int .i64 0, .int .i64 0, .int .i64 0, .int .i64 0, .int .i64 0, .int .u64 0, .int .u64 0, .int .i64 0, .int .i64 0] 26) = U
  have hC : U.heap[w.heap.size]? = some (.cells l.toArray 26 (0, 0)) := by rw [← hU]; exact ((below_alloc (Below.refl _ _) _).block _ (by simp)).trans (World.alloc_heap_new w _)
  have hZ : U.heap[w.heap.size + 1]? = some (.cells #[.int .i64 0, .int .i64 0, .int .i64 0, .int .i64 0, .int .i64 0, .int .i64 0, .int .i64 0, .bool false, .int .i64 0, .int .i64 0, .int .i64 0, .int .i64 0, .int .i64 0, .int .u64 0, .int .u64 0, .int .i64 0, .int .i64 0] 26 (0, 0)) := by
    rw [← hU]
    have := World.alloc_heap_new (w.alloc (.cells l.toArray 26)) (.cells #[.int .i64 0, .int .i64 0, .int .i64 0, .int .i64 0, .int .i64 0, .int .i64 0, .int .i64 0, .bool false, .int .i64 0, .int .i64 0, .int .i64 0, .int .i64 0, .int .i64 0, .int .u64 0, .int .u64 0, .int .i64 0, .int .i64 0] 26)
    rwa [show (w.alloc (.cells l.toArray 26)).heap.size = w.heap.size + 1 by simp] at this
  have HB := Lib.hid (show Below w.heap.size w U by rw [← hU]; exact (by repeat (first | exact Below.refl _ _ | assumption | refine below_drewN ?_ _ | refine Below.drew ?_ | refine below_alloc ?_ _ | refine Below.alloc ?_ (by first | omega | (simp; done) | (simp; omega)) _ | refine Below.setCell ?_ (Below.size (by assumption)) _ | refine Below.setCell ?_ (by first | omega | (simp; done) | (simp; omega)) _ | (refine Below.trans ?_ (Below.mono (by assumption) (by first | omega | (simp; done) | (simp; omega)))) | refine below_next ?_ (by assumption))))
  have HS := Lib.hid (show U.heap.size = w.heap.size + 2 by rw [← hU]; simp)
  clear hU
  have HC := Lib.hid hC
  have HZ := Lib.hid hZ
  clear hC hZ
  have HK8 := Lib.hid k8
  have HK10 := Lib.hid k10
  have HK11 := Lib.hid k11
  have HK12 := Lib.hid k12
  have HK13 := Lib.hid k13
  have HK14 := Lib.hid k14
  have HK15 := Lib.hid k15
  have HK16 := Lib.hid k16
  clear k8 k10 k11 k12 k13 k14 k15 k16
  obtain ⟨r, hs, hh, hla⟩ := hy
  go_upto_region 1 with fail
  refine wp_region_lit ?_
  refine wpList_load_all rfl 26 _ rfl (w.heap.size) l _ (by go_simp) HC.out Tryd.underlying26 rfl (by rw [HLEN.out]; kernel_rfl) ?_
  refine wpList_enter rfl (by go_simp) (KR.out true r U) ?_
  rintro e w2 ⟨rfl, hb2⟩
  refine ⟨_, rfl, ?_⟩
  have hle := hb2.size
  have HC2 := Lib.hid ((hb2.block _ (Array.getElem?_eq_some_iff.1 HC.out).1).trans HC.out)
  have HZ2 := Lib.hid ((hb2.block _ (Array.getElem?_eq_some_iff.1 HZ.out).1).trans HZ.out)
  have HB2 := Lib.hid (below_next HB.out hb2)
  clear hb2 hle
  have c8 := cell_of_block (o := 8) HC2.out HK8.out
  have c14 := cell_of_block (o := 14) HC2.out HK14.out
  have hs' : (j.state != 1) = false := by unfold bne; rw [hs]; rfl
  go_upto_region 7 with (go_at_call 38; ((with_reducible refine (KH.out _ (by assumption) _).mono ?_)); rintro e w' ⟨rfl, rfl⟩)
  refine wp_region_lit ?_
  refine wpList_load_all rfl 26 _ rfl (w.heap.size) l _ (by go_simp) HC2.out Tryd.underlying26 rfl (by rw [HLEN.out]; kernel_rfl) ?_
  refine wpList_yield (w' := w2) (v := .int .i64 now) rfl (by first | (go_simp; done) | (go_simp; rfl)) ?_
  refine wpList_enter rfl (by go_simp) (KL.out false hla w2) ?_
  rintro e w6 ⟨rfl, hb2⟩
  refine ⟨_, rfl, ?_⟩
  have hle := hb2.size
  have HC6 := Lib.hid ((hb2.block _ (Array.getElem?_eq_some_iff.1 HC2.out).1).trans HC2.out)
  have HZ6 := Lib.hid ((hb2.block _ (Array.getElem?_eq_some_iff.1 HZ2.out).1).trans HZ2.out)
  have HB6 := Lib.hid (below_next HB2.out hb2)
  clear hb2 hle
  clear c8 c14
  have c12 := cell_of_block (o := 12) HC6.out HK12.out
  have hd' : decide (j.tries > retries) = true := hd
  have E := Lib.hid (show bj = (endJ j now 3, 0) by rw [← HBJ.out]; unfold loseJ; rw [r, hs, hh, hla, hd]; rfl)
  go_upto_region 10 with fail
  refine wp_region_lit ?_
  refine wpList_load_all rfl 26 _ rfl (w.heap.size) l _ (by go_simp) HC6.out Tryd.underlying26 rfl (by rw [HLEN.out]; kernel_rfl) ?_
  refine wpList_yield (w' := w6) (v := .int .i64 now) rfl (by first | (go_simp; done) | (go_simp; rfl)) ?_
  refine wpList_enter rfl (by go_simp) (KE.out w6) ?_
  rintro e w8 ⟨rfl, hb2⟩
  refine ⟨_, rfl, ?_⟩
  have hle := hb2.size
  have HC8 := Lib.hid ((hb2.block _ (Array.getElem?_eq_some_iff.1 HC6.out).1).trans HC6.out)
  have HZ8 := Lib.hid ((hb2.block _ (Array.getElem?_eq_some_iff.1 HZ6.out).1).trans HZ6.out)
  have HB8 := Lib.hid (below_next HB6.out hb2)
  clear hb2 hle
  clear c12
  refine wpList_store_all rfl 26 _ _ rfl (w.heap.size + 1) (T := 26) l' (by go_simp) (by go_simp) HZ8.out (by rw [HLEN'.out]; rfl) (by rw [HLEN'.out]; kernel_rfl) HONE'.out ?_
  intro w9 hw9
  have HW9 := Lib.hid hw9.there
  have HB9 := Lib.hid (hw9.below HB8.out (by omega))
  clear hw9
  go_wp2_with fail
  exact bodyPost_ret (results_all2 l' _ Tryd.results14 (by go_simp) HW9.out Tryd.underlying26 rfl (by rw [HLEN'.out]; kernel_rfl)) rfl ⟨by rw [E.out, ← HL'.out]; first | done | rfl, HB9.out⟩
set_option maxRecDepth 100000 in
set_option maxHeartbeats 4000000 in
theorem lose_back (j : JobV) (now node retries : Int) (hy : rightB j = true ∧ (j.state == 1) = true ∧ hasI j.nodes node = true ∧ lateB j now = false) (hd : decide (retries < j.tries) = false) (w : World) : Calls Tryd.prog 14 #[.agg (jobC j).toArray, .int .i64 now, .int .i64 node, .int .i64 retries] w fun e w' => e = .returned (.tuple #[.agg (jobC (loseJ j now node retries).1).toArray, .int .i64 (loseJ j now node retries).2]) ∧ Below w.heap.size w w' := by
  have KR := Lib.hid (fun b (h : rightB j = b) W => right_is h W)
  have KL := Lib.hid (fun b (h : lateB j now = b) W => late_is h W)
  have KH := Lib.hid (fun b (h : hasI j.nodes node = b) W => h ▸ has_any j.nodes node W)
  have HSET := Lib.hid (show ((((((((jobC j).toArray).setIfInBounds 8 (.int .i64 0)).setIfInBounds 14 (.int .u64 0)).setIfInBounds 15 (.int .i64 0)).setIfInBounds 16 (.int .i64 0)).setIfInBounds 10 (.int .i64 1099511627776)).setIfInBounds 11 (.int .i64 1099511627776)).setIfInBounds 13 (.int .u64 (nv (j.black ||| oneI node))) = (jobC ({ j with state := 0, nodes := 0#64, start := 0, fin := 0, plan := 1099511627776, promise := 1099511627776, black := j.black ||| oneI node })).toArray from rfl)
  have HLEN' := Lib.hid (jobC_len ({ j with state := 0, nodes := 0#64, start := 0, fin := 0, plan := 1099511627776, promise := 1099511627776, black := j.black ||| oneI node }))
  have HONE' := Lib.hid (jobC_one ({ j with state := 0, nodes := 0#64, start := 0, fin := 0, plan := 1099511627776, promise := 1099511627776, black := j.black ||| oneI node }))
  generalize hbj : loseJ j now node retries = bj
  have HBJ := Lib.hid hbj
  clear hbj
  have HLEN := Lib.hid (jobC_len j)
  have k8 : (jobC j).toArray[8]? = some (.int .i64 j.state) := rfl
  have k10 : (jobC j).toArray[10]? = some (.int .i64 j.plan) := rfl
  have k11 : (jobC j).toArray[11]? = some (.int .i64 j.promise) := rfl
  have k12 : (jobC j).toArray[12]? = some (.int .i64 j.tries) := rfl
  have k13 : (jobC j).toArray[13]? = some (.int .u64 (nv j.black)) := rfl
  have k14 : (jobC j).toArray[14]? = some (.int .u64 (nv j.nodes)) := rfl
  have k15 : (jobC j).toArray[15]? = some (.int .i64 j.start) := rfl
  have k16 : (jobC j).toArray[16]? = some (.int .i64 j.fin) := rfl
  generalize hl' : jobC ({ j with state := 0, nodes := 0#64, start := 0, fin := 0, plan := 1099511627776, promise := 1099511627776, black := j.black ||| oneI node }) = l' at *
  have HL' := Lib.hid hl'
  clear hl'
  generalize hl : jobC j = l at *
  clear hl
  go_enter Tryd.func14, Tryd.ntmps14
  go_upto_region 1 with fail
  generalize hU : (w.alloc (.cells l.toArray 26)).alloc (.cells #[.int .i64 0, .int .i64 0, .int .i64 0, .int .i64 0, .int .i64 0, .int .i64 0, .int .i64 0, .bool false, .int .i64 0, .int .i64 0, .int .i64 0, .int .i64 0, .int .i64 0, .int .u64 0, .int .u64 0, .int .i64 0, .int .i64 0] 26) = U
  have hC : U.heap[w.heap.size]? = some (.cells l.toArray 26 (0, 0)) := by rw [← hU]; exact ((below_alloc (Below.refl _ _) _).block _ (by simp)).trans (World.alloc_heap_new w _)
  have hZ : U.heap[w.heap.size + 1]? = some (.cells #[.int .i64 0, .int .i64 0, .int .i64 0, .int .i64 0, .int .i64 0, .int .i64 0, .int .i64 0, .bool false, .int .i64 0, .int .i64 0, .int .i64 0, .int .i64 0, .int .i64 0, .int .u64 0, .int .u64 0, .int .i64 0, .int .i64 0] 26 (0, 0)) := by
    rw [← hU]
    have := World.alloc_heap_new (w.alloc (.cells l.toArray 26)) (.cells #[.int .i64 0, .int .i64 0, .int .i64 0, .int .i64 0, .int .i64 0, .int .i64 0, .int .i64 0, .bool false, .int .i64 0, .int .i64 0, .int .i64 0, .int .i64 0, .int .i64 0, .int .u64 0, .int .u64 0, .int .i64 0, .int .i64 0] 26)
    rwa [show (w.alloc (.cells l.toArray 26)).heap.size = w.heap.size + 1 by simp] at this
  have HB := Lib.hid (show Below w.heap.size w U by rw [← hU]; exact (by repeat (first | exact Below.refl _ _ | assumption | refine below_drewN ?_ _ | refine Below.drew ?_ | refine below_alloc ?_ _ | refine Below.alloc ?_ (by first | omega | (simp; done) | (simp; omega)) _ | refine Below.setCell ?_ (Below.size (by assumption)) _ | refine Below.setCell ?_ (by first | omega | (simp; done) | (simp; omega)) _ | (refine Below.trans ?_ (Below.mono (by assumption) (by first | omega | (simp; done) | (simp; omega)))) | refine below_next ?_ (by assumption))))
  have HS := Lib.hid (show U.heap.size = w.heap.size + 2 by rw [← hU]; simp)
  clear hU
  have HC := Lib.hid hC
  have HZ := Lib.hid hZ
  clear hC hZ
  have HK8 := Lib.hid k8
  have HK10 := Lib.hid k10
  have HK11 := Lib.hid k11
  have HK12 := Lib.hid k12
  have HK13 := Lib.hid k13
  have HK14 := Lib.hid k14
  have HK15 := Lib.hid k15
  have HK16 := Lib.hid k16
  clear k8 k10 k11 k12 k13 k14 k15 k16
  obtain ⟨r, hs, hh, hla⟩ := hy
  go_upto_region 1 with fail
  refine wp_region_lit ?_
  refine wpList_load_all rfl 26 _ rfl (w.heap.size) l _ (by go_simp) HC.out Tryd.underlying26 rfl (by rw [HLEN.out]; kernel_rfl) ?_
  refine wpList_enter rfl (by go_simp) (KR.out true r U) ?_
  rintro e w2 ⟨rfl, hb2⟩
  refine ⟨_, rfl, ?_⟩
  have hle := hb2.size
  have HC2 := Lib.hid ((hb2.block _ (Array.getElem?_eq_some_iff.1 HC.out).1).trans HC.out)
  have HZ2 := Lib.hid ((hb2.block _ (Array.getElem?_eq_some_iff.1 HZ.out).1).trans HZ.out)
  have HB2 := Lib.hid (below_next HB.out hb2)
  clear hb2 hle
  have c8 := cell_of_block (o := 8) HC2.out HK8.out
  have c14 := cell_of_block (o := 14) HC2.out HK14.out
  have hs' : (j.state != 1) = false := by unfold bne; rw [hs]; rfl
  go_upto_region 7 with (go_at_call 38; ((with_reducible refine (KH.out _ (by assumption) _).mono ?_)); rintro e w' ⟨rfl, rfl⟩)
  refine wp_region_lit ?_
  refine wpList_load_all rfl 26 _ rfl (w.heap.size) l _ (by go_simp) HC2.out Tryd.underlying26 rfl (by rw [HLEN.out]; kernel_rfl) ?_
  refine wpList_yield (w' := w2) (v := .int .i64 now) rfl (by first | (go_simp; done) | (go_simp; rfl)) ?_
  refine wpList_enter rfl (by go_simp) (KL.out false hla w2) ?_
  rintro e w6 ⟨rfl, hb2⟩
  refine ⟨_, rfl, ?_⟩
  have hle := hb2.size
  have HC6 := Lib.hid ((hb2.block _ (Array.getElem?_eq_some_iff.1 HC2.out).1).trans HC2.out)
  have HZ6 := Lib.hid ((hb2.block _ (Array.getElem?_eq_some_iff.1 HZ2.out).1).trans HZ2.out)
  have HB6 := Lib.hid (below_next HB2.out hb2)
  clear hb2 hle
  clear c8 c14
  have c8 := cell_of_block (o := 8) HC6.out HK8.out
  have c10 := cell_of_block (o := 10) HC6.out HK10.out
  have c11 := cell_of_block (o := 11) HC6.out HK11.out
  have c12 := cell_of_block (o := 12) HC6.out HK12.out
  have c13 := cell_of_block (o := 13) HC6.out HK13.out
  have c14 := cell_of_block (o := 14) HC6.out HK14.out
  have c15 := cell_of_block (o := 15) HC6.out HK15.out
  have c16 := cell_of_block (o := 16) HC6.out HK16.out
  have f8 := free_of_block 8 HC6.out
  have f10 := free_of_block 10 HC6.out
  have f11 := free_of_block 11 HC6.out
  have f13 := free_of_block 13 HC6.out
  have f14 := free_of_block 14 HC6.out
  have f15 := free_of_block 15 HC6.out
  have f16 := free_of_block 16 HC6.out
  have hd' : decide (j.tries > retries) = false := hd
  have E := Lib.hid (show bj = ({ j with state := 0, nodes := 0#64, start := 0, fin := 0, plan := 1099511627776, promise := 1099511627776, black := j.black ||| oneI node }, 0) by rw [← HBJ.out]; unfold loseJ; rw [r, hs, hh, hla, hd]; rfl)
  go_upto_region 14 with (go_at_call 39; ((with_reducible refine (with_any _ _ _).mono ?_)); rintro e w' ⟨rfl, rfl⟩)
  have hW := (((((((wrote_refl HC6.out).set 8 (.int .i64 0)).set 14 (.int .u64 0)).set 15 (.int .i64 0)).set 16 (.int .i64 0)).set 10 (.int .i64 1099511627776)).set 11 (.int .i64 1099511627776)).set 13 (.int .u64 (nv (j.black ||| oneI node)))
  rw [HSET.out] at hW
  have HV := Lib.hid hW.there
  have HZV := Lib.hid ((hW.rest (w.heap.size + 1) (by omega)).trans HZ6.out)
  have HBV := Lib.hid (hW.below HB6.out (Nat.le_refl _))
  clear hW c8 c10 c11 c12 c13 c14 c15 c16 f8 f10 f11 f13 f14 f15 f16
  generalize (((((((w6).setCell ⟨w.heap.size, 8, none⟩ (.int .i64 0)).setCell ⟨w.heap.size, 14, none⟩ (.int .u64 0)).setCell ⟨w.heap.size, 15, none⟩ (.int .i64 0)).setCell ⟨w.heap.size, 16, none⟩ (.int .i64 0)).setCell ⟨w.heap.size, 10, none⟩ (.int .i64 1099511627776)).setCell ⟨w.heap.size, 11, none⟩ (.int .i64 1099511627776)).setCell ⟨w.heap.size, 13, none⟩ (.int .u64 (nv (j.black ||| oneI node))) = V at *
  refine wp_region_lit ?_
  refine wpList_load_all rfl 26 _ rfl (w.heap.size) l' _ (by go_simp) HV.out Tryd.underlying26 rfl (by rw [HLEN'.out]; kernel_rfl) ?_
  refine wpList_store_all rfl 26 _ _ rfl (w.heap.size + 1) (T := 26) l' (by go_simp) (by go_simp) HZV.out (by rw [HLEN'.out]; rfl) (by rw [HLEN'.out]; kernel_rfl) HONE'.out ?_
  intro w9 hw9
  have HW9 := Lib.hid hw9.there
  have HB9 := Lib.hid (hw9.below HBV.out (by omega))
  clear hw9
  go_wp2_with fail
  exact bodyPost_ret (results_all2 l' _ Tryd.results14 (by go_simp) HW9.out Tryd.underlying26 rfl (by rw [HLEN'.out]; kernel_rfl)) rfl ⟨by rw [E.out, ← HL'.out]; first | done | rfl, HB9.out⟩
theorem lose_any (j : JobV) (now node retries : Int) (w : World) : Calls Tryd.prog 14 #[.agg (jobC j).toArray, .int .i64 now, .int .i64 node, .int .i64 retries] w fun e w' => e = .returned (.tuple #[.agg (jobC (loseJ j now node retries).1).toArray, .int .i64 (loseJ j now node retries).2]) ∧ Below w.heap.size w w' := by
  by_cases h : rightB j = true ∧ (j.state == 1) = true ∧ hasI j.nodes node = true ∧ lateB j now = false
  · cases hd : decide (retries < j.tries) with
    | true => exact lose_end j now node retries h hd w
    | false => exact lose_back j now node retries h hd w
  · exact lose_no j now node retries h w
end Go.Proofs.YtgeldpfojmkdbaaDoor
namespace Go.Proofs.YtgeldpfojmkdbaaDoor
set_option linter.unusedVariables false
open Go.RowKit Go.Extern.Stop Go.Stop Go.Extern Go.ChangeShapes Go.WideShapes Go.ChangeAt

/-- the handle of a type -/
def hdl (t : Nat) : Value := .pointer (some ⟨1, t, none⟩)
/-- the one cell of errors.errorType -/
def ErrAt (w : World) : Prop := w.cell? ⟨0, 0, none⟩ = some (.iface 107 (.agg #[.pointer (some ⟨1, 76, none⟩)]))

/-- errors.As(nil, target). -/
theorem as_nil (t : Value) (w : World) :
    Calls Tryd.prog 44 #[.nilIface, t] w fun e w' => e = .returned (.bool false) ∧ w' = w := by
  go_enter Tryd.func44, Tryd.ntmps44
  go_wp2
  go_ret
  exact ⟨rfl, rfl⟩

namespace As
theorem valueOfP (t : Addr) (w : World) : (ReflectliteValue.unpack (.iface 82 (.pointer (some t)))).run Tryd.prog w
    = .ok (.agg #[.pointer (some ⟨1, 82, none⟩), .pointer (some ⟨w.heap.size, 0, none⟩), .int .u64 150]) (w.alloc (.cells #[.pointer (some t)] 82)) := by kernel_rfl
theorem typeP (a : Addr) (w : World) : (ReflectliteValue.methodAny (ReflectliteValue.valueError "reflectlite.Value.Type" 0) (fun t _ _ _ => ReflectliteType.toType t) #[.agg #[.pointer (some ⟨1, 82, none⟩), .pointer (some a), .int .u64 150]]).run Tryd.prog w
    = .ok (.iface 107 (.agg #[.pointer (some ⟨1, 82, none⟩)])) w := by kernel_rfl
theorem methodKind (h : Value) (w : World) : (Go.method 250 107 (.agg #[h]) "Kind").run Tryd.prog w = .ok (80, h) w := by kernel_rfl
theorem kindP (w : World) : ((ReflectliteType.abiMethod fun t => (fun a : Nat => Value.int IntKind.u8 (a : Int)) <$> Rtype.kind t) #[.pointer (some ⟨1, 82, none⟩)]).run Tryd.prog w = .ok (.int .u8 22) w := by kernel_rfl
theorem kindN (w : World) : ((ReflectliteType.abiMethod fun t => (fun a : Nat => Value.int IntKind.u8 (a : Int)) <$> Rtype.kind t) #[.pointer (some ⟨1, 28, none⟩)]).run Tryd.prog w = .ok (.int .u8 2) w := by kernel_rfl
theorem rlm (z : Sem Value) (f : TypeId → Addr → Nat → Nat → Sem Value) (v : Value) :
    ReflectliteValue.method z f #[v] = (do match ← ReflectliteValue.parts v with | none => z | some (t, a, fl) => f t a fl (fl % 32)) := rfl
theorem partsP (a : Addr) (w : World) : (ReflectliteValue.parts (.agg #[.pointer (some ⟨1, 82, none⟩), .pointer (some a), .int .u64 150])).run Tryd.prog w = .ok (some (82, a, 150)) w := by kernel_rfl
/-- (Value).IsNil at the Value of a target that is not nil. -/
theorem isNilP (a p : Addr) (W : World) (ha : W.cell? a = some (.pointer (some p))) :
    (ReflectliteValue.method (ReflectliteValue.valueError "reflectlite.Value.IsNil" 0) ReflectliteValue.isNil #[.agg #[.pointer (some ⟨1, 82, none⟩), .pointer (some a), .int .u64 150]]).run Tryd.prog W = .ok (.bool false) W := by
  rw [rlm]
  simp only [Sem.run_bind, partsP, Result.andThen]
  simp [ReflectliteValue.isNil, loadVar, isAgg, underlying, Tryd.underlying82, ha, Result.andThen]
theorem methodElem (h : Value) (w : World) : (Go.method 250 107 (.agg #[h]) "Elem").run Tryd.prog w = .ok (92, .agg #[h]) w := by kernel_rfl
theorem methodImplements (h : Value) (w : World) : (Go.method 250 107 (.agg #[h]) "Implements").run Tryd.prog w = .ok (93, .agg #[h]) w := by kernel_rfl
theorem methodAssignableTo (h : Value) (w : World) : (Go.method 250 107 (.agg #[h]) "AssignableTo").run Tryd.prog w = .ok (90, .agg #[h]) w := by kernel_rfl
theorem elemP (w : World) : (ReflectliteType.method ReflectliteType.elem #[.agg #[.pointer (some ⟨1, 82, none⟩)]]).run Tryd.prog w = .ok (.iface 107 (.agg #[.pointer (some ⟨1, 28, none⟩)])) w := by kernel_rfl
theorem implementsN (w : World) : (ReflectliteType.relation "Implements" ReflectliteType.implements_ #[.agg #[.pointer (some ⟨1, 28, none⟩)], .iface 107 (.agg #[.pointer (some ⟨1, 76, none⟩)])]).run Tryd.prog w = .ok (.bool true) w := by kernel_rfl
theorem typeOfN (v : Value) (w : World) : (ReflectliteType.typeOf #[.iface 28 v]).run Tryd.prog w = .ok (.iface 107 (.agg #[.pointer (some ⟨1, 28, none⟩)])) w := by kernel_rfl
theorem assignableN (w : World) : (ReflectliteType.relation "AssignableTo" ReflectliteType.assignableTo #[.agg #[.pointer (some ⟨1, 28, none⟩)], .iface 107 (.agg #[.pointer (some ⟨1, 28, none⟩)])]).run Tryd.prog w = .ok (.bool true) w := by kernel_rfl
theorem valueOfN (n : Int) (w : World) : (ReflectliteValue.unpack (.iface 28 (.int .i64 n))).run Tryd.prog w
    = .ok (.agg #[.pointer (some ⟨1, 28, none⟩), .pointer (some ⟨w.heap.size, 0, none⟩), .int .u64 130]) (w.alloc (.cells #[.int .i64 n] 28)) := by kernel_rfl
theorem elemOfP (w : World) : (Rtype.elem? 82).run Tryd.prog w = .ok (some 28) w := by kernel_rfl
theorem mkN (p : Addr) (w : World) : (ReflectliteValue.mk 28 p ReflectliteValue.flagAddr).run Tryd.prog w = .ok (.agg #[.pointer (some ⟨1, 28, none⟩), .pointer (some p), .int .u64 386]) w := by kernel_rfl
/-- (Value).Elem at the Value of the target: the Value of what it points to, addressable. -/
theorem elemVP (a p : Addr) (W : World) (ha : W.cell? a = some (.pointer (some p))) :
    (ReflectliteValue.method (ReflectliteValue.valueError "reflectlite.Value.Elem" 0) ReflectliteValue.elem #[.agg #[.pointer (some ⟨1, 82, none⟩), .pointer (some a), .int .u64 150]]).run Tryd.prog W
      = .ok (.agg #[.pointer (some ⟨1, 28, none⟩), .pointer (some p), .int .u64 386]) W := by
  rw [rlm]
  simp only [Sem.run_bind, partsP, Result.andThen]
  simp [ReflectliteValue.elem, loadVar, isAgg, underlying, Tryd.underlying82, ha, Result.andThen, elemOfP, mkN]
theorem rls (v x : Value) : ReflectliteValue.set #[v, x] = (do
    let (some (dst, a, fl), some (src, b, _)) := (← ReflectliteValue.parts v, ← ReflectliteValue.parts x)
      | unsupported (.noEntry "extern/(internal/reflectlite.Value).Set.zeroValue")
    if fl / ReflectliteValue.flagAddr % 2 == 0 then unsupported (.noEntry "extern/(internal/reflectlite.Value).Set.unaddressable")
    let val ← loadVar src b
    if ← Rtype.directlyAssignable dst src then storeVar dst a val
    else if ← Rtype.implements dst src then
      if (← Rtype.kind src) == 20 then
        match val with
        | .nilIface => unsupported (.noEntry "extern/reflectlite: a nil value of one interface type handed on as a value of another")
        | _ => storeVar dst a val
      else storeVar dst a (.iface src val)
    else panicString ("reflectlite.Set: value of type " ++ (← Rtype.spelt src) ++ " is not assignable to type " ++ (← Rtype.spelt dst))
    pure (.tuple #[])) := rfl
theorem partsNa (a : Addr) (w : World) : (ReflectliteValue.parts (.agg #[.pointer (some ⟨1, 28, none⟩), .pointer (some a), .int .u64 386])).run Tryd.prog w = .ok (some (28, a, 386)) w := by kernel_rfl
theorem partsN (a : Addr) (w : World) : (ReflectliteValue.parts (.agg #[.pointer (some ⟨1, 28, none⟩), .pointer (some a), .int .u64 130])).run Tryd.prog w = .ok (some (28, a, 130)) w := by kernel_rfl
theorem directN (w : World) : (Rtype.directlyAssignable 28 28).run Tryd.prog w = .ok true w := by kernel_rfl
theorem sizeN (w : World) : (sizeOf 28).run Tryd.prog w = .ok 1 w := by kernel_rfl
/-- (Value).Set: the number at the target gets what the Value's own variable 'b' holds. -/
theorem setN (ta b : Addr) (n : Int) (old : Value) (W : World) (hb : W.cell? b = some (.int .i64 n)) (ht : W.cell? ta = some old) (hf : W.frozen? ta = false) :
    (ReflectliteValue.set #[.agg #[.pointer (some ⟨1, 28, none⟩), .pointer (some ta), .int .u64 386], .agg #[.pointer (some ⟨1, 28, none⟩), .pointer (some b), .int .u64 130]]).run Tryd.prog W
      = .ok (.tuple #[]) (W.setCell ta (.int .i64 n)) := by
  rw [rls]
  simp only [Sem.run_bind, partsNa, partsN, Result.andThen]
  simp [ReflectliteValue.flagAddr, loadVar, isAgg, underlying, Tryd.underlying28, hb, Result.andThen, directN, storeVar, Value.cells, storeCells, Addr.add]
  rw [run_store Tryd.prog W ta _ _ (by rfl)]
  simp [ht, hf]
end As

set_option maxHeartbeats 4000000 in
theorem as_hit (n : Int) (t : Addr) (old : Value) (w : World) (hg : ErrAt w) (ht0 : w.cell? t = some old) (hf0 : w.frozen? t = false) :
    Calls Tryd.prog 44 #[.iface 28 (.int .i64 n), .iface 82 (.pointer (some t))] w fun ev w' => ev = .returned (.bool true) ∧ w' = ((((w.alloc (.cells #[.pointer (some t)] 82)).alloc (.cells #[.pointer (some ⟨1, 82, none⟩), .pointer (some ⟨w.heap.size, 0, none⟩), .int .u64 150] 94)).alloc (.cells #[.pointer (some ⟨1, 82, none⟩), .pointer (some ⟨w.heap.size, 0, none⟩), .int .u64 150] 94)).alloc (.cells #[.int .i64 n] 28)).setCell t (.int .i64 n) := by
  unfold ErrAt at hg
  have h6 := @run_callFunc_extern Tryd.prog 55 _ (fun args => ReflectliteValue.unpack (args.getD 0 (.tuple #[]))) Tryd.func55 (by kernel_rfl) (by kernel_rfl) (by kernel_rfl) (by kernel_rfl)
  have h7 := @run_callFunc_extern Tryd.prog 56 _ (ReflectliteValue.methodAny (ReflectliteValue.valueError "reflectlite.Value.Type" 0) (fun t _ _ _ => ReflectliteType.toType t)) Tryd.func56 (by kernel_rfl) (by kernel_rfl) (by kernel_rfl) (by kernel_rfl)
  have h8 := @run_callFunc_extern Tryd.prog 57 _ (ReflectliteValue.method (ReflectliteValue.valueError "reflectlite.Value.IsNil" 0) ReflectliteValue.isNil) Tryd.func57 (by kernel_rfl) (by kernel_rfl) (by kernel_rfl) (by kernel_rfl)
  have h27 := @run_callFunc_extern Tryd.prog 80 _ (ReflectliteType.abiMethod fun t => do pure (.int .u8 (← Rtype.kind t))) Tryd.func80 (by kernel_rfl) (by kernel_rfl) (by kernel_rfl) (by kernel_rfl)
  have h37 := @run_callFunc_extern Tryd.prog 92 _ (ReflectliteType.method ReflectliteType.elem) Tryd.func92 (by kernel_rfl) (by kernel_rfl) (by kernel_rfl) (by kernel_rfl)
  have h38 := @run_callFunc_extern Tryd.prog 93 _ (ReflectliteType.relation "Implements" ReflectliteType.implements_) Tryd.func93 (by kernel_rfl) (by kernel_rfl) (by kernel_rfl) (by kernel_rfl)
  have h10 := @run_callFunc_extern Tryd.prog 63 _ ReflectliteType.typeOf Tryd.func63 (by kernel_rfl) (by kernel_rfl) (by kernel_rfl) (by kernel_rfl)
  have h35 := @run_callFunc_extern Tryd.prog 90 _ (ReflectliteType.relation "AssignableTo" ReflectliteType.assignableTo) Tryd.func90 (by kernel_rfl) (by kernel_rfl) (by kernel_rfl) (by kernel_rfl)
  have h11 := @run_callFunc_extern Tryd.prog 64 _ (ReflectliteValue.method (ReflectliteValue.valueError "reflectlite.Value.Elem" 0) ReflectliteValue.elem) Tryd.func64 (by kernel_rfl) (by kernel_rfl) (by kernel_rfl) (by kernel_rfl)
  have h12 := @run_callFunc_extern Tryd.prog 65 _ ReflectliteValue.set Tryd.func65 (by kernel_rfl) (by kernel_rfl) (by kernel_rfl) (by kernel_rfl)
  have tO := As.typeOfN
  have mA := As.methodAssignableTo
  have a25 := As.assignableN
  have v25 := As.valueOfN
  have f6 := As.valueOfP
  have f7 := As.typeP
  have mK := As.methodKind
  have mE := As.methodElem
  have mI := As.methodImplements
  have k27 := As.kindP
  have k25 := As.kindN
  have e27 := As.elemP
  have i25 := As.implementsN
  have n8 := As.isNilP ⟨w.heap.size, 0, none⟩ t ((w.alloc (.cells #[.pointer (some t)] 82)).alloc (.cells #[.pointer (some ⟨1, 82, none⟩), .pointer (some ⟨w.heap.size, 0, none⟩), .int .u64 150] 94)) (by simp)
  have hlt : 0 < w.heap.size := World.block_lt_of_cell? w _ hg
  have hg2 : ((w.alloc (.cells #[.pointer (some t)] 82)).alloc (.cells #[.pointer (some ⟨1, 82, none⟩), .pointer (some ⟨w.heap.size, 0, none⟩), .int .u64 150] 94)).cell? ⟨0, 0, none⟩ = some (.iface 107 (.agg #[.pointer (some ⟨1, 76, none⟩)])) := by
    rw [World.cell?_alloc_lt _ _ ⟨0, 0, none⟩ (by first | (simp; done) | (simp; omega)), World.cell?_alloc_lt _ _ ⟨0, 0, none⟩ hlt]; exact hg
  have htl : t.block < w.heap.size := by
    rcases Nat.lt_or_ge t.block w.heap.size with h | h
    · exact h
    · simp [World.cell?, Array.getElem?_eq_none h] at ht0
  have el := As.elemVP ⟨w.heap.size, 0, none⟩ t (((w.alloc (.cells #[.pointer (some t)] 82)).alloc (.cells #[.pointer (some ⟨1, 82, none⟩), .pointer (some ⟨w.heap.size, 0, none⟩), .int .u64 150] 94)).alloc (.cells #[.pointer (some ⟨1, 82, none⟩), .pointer (some ⟨w.heap.size, 0, none⟩), .int .u64 150] 94)) (by rw [World.cell?_alloc_lt _ _ ⟨w.heap.size, 0, none⟩ (by simp; omega)]; simp)
  have st := As.setN t ⟨w.heap.size + 1 + 1 + 1, 0, none⟩ n old ((((w.alloc (.cells #[.pointer (some t)] 82)).alloc (.cells #[.pointer (some ⟨1, 82, none⟩), .pointer (some ⟨w.heap.size, 0, none⟩), .int .u64 150] 94)).alloc (.cells #[.pointer (some ⟨1, 82, none⟩), .pointer (some ⟨w.heap.size, 0, none⟩), .int .u64 150] 94)).alloc (.cells #[.int .i64 n] 28))
    (by rw [World.cell?_alloc_at _ _ _ _ (by simp)]; rfl)
    (by rw [World.cell?_alloc_lt _ _ t (by simp; omega), World.cell?_alloc_lt _ _ t (by simp; omega), World.cell?_alloc_lt _ _ t (by simp; omega), World.cell?_alloc_lt _ _ t htl]; exact ht0)
    (by rw [World.frozen?_alloc_old _ _ t (by simp; omega), World.frozen?_alloc_old _ _ t (by simp; omega), World.frozen?_alloc_old _ _ t (by simp; omega), World.frozen?_alloc_old _ _ t (Nat.ne_of_lt htl)]; exact hf0)
  go_enter Tryd.func44, Tryd.ntmps44
  go_wp2
  refine wp_loop_rounds 1 ?_
  rw [rounds_succ]
  go_wp2
  go_ret
  exact ⟨rfl, rfl⟩
end Go.Proofs.YtgeldpfojmkdbaaDoor
namespace Go.Proofs.YtgeldpfojmkdbaaDoor
set_option linter.unusedVariables false
open Go.ChangeShapes Go.WideShapes Go.ChangeAt Go.RowKit

theorem info_u8 : (Tryd.prog.info? 5).map (fun i => (i.zero, i.size, i.bytes)) = some (some (.int .u8 0), 1, 1) := by kernel_rfl
/-- numbers as the cells of bytes -/
def cellsOf8 (xs : List Int) : List Value := xs.map (Value.int .u8)
theorem cellsOf8_append (xs ys : List Int) : cellsOf8 (xs ++ ys) = cellsOf8 xs ++ cellsOf8 ys := by simp [cellsOf8]
/-- a slice of bytes of the call's own, from block B on -/
structure OwnTxt (w : World) (B : Nat) (v : Value) (xs : List Int) : Prop where
  own : w.ownsRow B 5 1 v xs.length (cellsOf8 xs)
  lo : ∀ k, k < xs.length → 0 ≤ xs.getD k 0
  hi : ∀ k, k < xs.length → xs.getD k 0 ≤ 255
theorem OwnTxt.len {w : World} {B : Nat} {v : Value} {xs : List Int} (h : OwnTxt w B v xs) : xs.length ≤ 9223372036854775807 := by
  rcases h.own.2 with ⟨_, h0⟩ | ⟨g, cap, cur, _, _, _, h1, h2, _⟩
  · omega
  · unfold maxLen at h2; omega
theorem OwnTxt.at {w : World} {B : Nat} {v : Value} {xs : List Int} (h : OwnTxt w B v xs) : TxtAt w v xs := by
  have hlen := h.len
  by_cases h0 : xs.length = 0
  · have hx : xs = [] := List.eq_nil_of_length_eq_zero h0
    subst hx
    rcases h.own.2 with ⟨rfl, _⟩ | ⟨g, cap, cur, rfl, _⟩
    · exact .inr ⟨rfl, none, 0, rfl, fun _ => rfl⟩
    · exact .inr ⟨rfl, some _, cap, rfl, fun h => by cases h⟩
  · rcases h.own.2 with ⟨_, h1⟩ | ⟨g, cap, cur, rfl, hb, hg, _⟩
    · omega
    · refine .inl ⟨g, 0, cap, rfl, by omega, ⟨fun k hk => ?_, h.lo, h.hi, hlen⟩⟩
      have := h.own.cells (g := g) rfl k (.int .u8 (xs.getD k 0)) (by simp [cellsOf8, hk])
      have hplain : (⟨g, 0, none⟩ : Addr).add k = ⟨g, 0 + k, none⟩ := by unfold Addr.add; split <;> simp_all
      rwa [hplain] at this
theorem OwnTxt.new {w : World} {B : Nat} (hB : B ≤ w.heap.size) : OwnTxt (w.alloc (.cells #[] 5)) B (.slice (some ⟨w.heap.size, 0, none⟩) 0 0) [] :=
  ⟨⟨rfl, .inr ⟨w.heap.size, 0, #[], rfl, hB, by show (w.heap.push _)[w.heap.size]? = _; simp, Nat.le_refl _, Nat.zero_le _, rfl, rfl⟩⟩, fun k hk => by simp at hk, fun k hk => by simp at hk⟩
theorem OwnTxt.nil {w : World} {B : Nat} : OwnTxt w B (.slice none 0 0) [] :=
  ⟨⟨rfl, .inl ⟨rfl, rfl⟩⟩, fun k hk => by simp at hk, fun k hk => by simp at hk⟩
/-- in a world that has grown by another row -/
theorem OwnTxt.below {w w' : World} {B : Nat} {v : Value} {xs : List Int} (h : OwnTxt w B v xs) (hb : Below w.heap.size w w') : OwnTxt w' B v xs := by
  refine ⟨⟨h.own.1, ?_⟩, h.lo, h.hi⟩
  rcases h.own.2 with hn | ⟨g, cap, cur, hv, hB, hg, rest⟩
  · exact .inl hn
  · refine .inr ⟨g, cap, cur, hv, hB, ?_, rest⟩
    have hlt : g < w.heap.size := by
      rcases Nat.lt_or_ge g w.heap.size with h | h
      · exact h
      · rw [Array.getElem?_eq_none h] at hg; cases hg
    rw [hb.block g hlt]; exact hg

section
variable {ops : Array Oper} {rest : List Oper} {o : Oper} {a : Act} {w : World} {Q : Exit → Act → World → Prop}
/-- APPEND of a text: what stands behind it is the call's own, and holds both. -/
theorem wpList_append_txt (hgd : o.guard = none) (s x : Operand)
    (ho : o.op = .call { callee := .builtin .append, args := #[s, x], argTypes := #[27, 27] })
    (B : Nat) (v : Value) (xs : List Int) (hs : a.eval s = v) (hown : OwnTxt w B v xs) (u : Value) (ys : List Int) (hx : a.eval x = u) (ht : TxtAt w u ys)
    (h63 : xs.length + ys.length ≤ 140737488355328) (hB : B ≤ w.heap.size)
    (h' : ∀ (ad : Option Addr) (n c : Nat) (w' : World), OwnTxt w' B (.slice ad n c) (xs ++ ys) → Below B w w' → w.grownBy w' v.ownBlock → wpList Tryd.prog ops Q rest (a.put o.dst (.slice ad n c)) w') : wpList Tryd.prog ops Q (o :: rest) a w := by
  have h : ∀ v' w', OwnTxt w' B v' (xs ++ ys) → Below B w w' → w.grownBy w' v.ownBlock → wpList Tryd.prog ops Q rest (a.put o.dst v') w' := fun v' w' h1 h2 h3 => by
    rcases h1.own.2 with ⟨e, _⟩ | ⟨g, cap, cur, e, _⟩
    · subst e; exact h' none 0 0 w' h1 h2 h3
    · subst e; exact h' _ _ cap w' h1 h2 h3
  obtain ⟨i0, hi, hz0, hz1, hz2⟩ := info_parts info_u8
  have hblk : ∀ k, v.ownBlock = some k → B ≤ k := fun k hk => by
    rcases hown.own.2 with ⟨rfl, _⟩ | ⟨g, cap, cur, rfl, hg, _⟩
    · cases hk
    · simp only [Value.ownBlock, Option.some.injEq] at hk; omega
  have hgd0 : ∀ k, k < ys.length → (xs ++ ys).getD (xs.length + k) 0 = ys.getD k 0 := fun k hk => by simp [List.getD, List.getElem?_append_right]
  rcases ht with ⟨b, off, cap, rfl, h0, hr⟩ | ⟨rfl, ad, cap, rfl, hnil⟩
  · refine wpList_append_own _ hgd s x 27 ho B 5 i0 (.int .u8 0) 1 1 Tryd.underlying27 hi hz0 hz1 hz2 rfl (by decide) v xs.length (cellsOf8 xs) hs hown.own
      ⟨b, off, none⟩ ys.length cap (cellsOf8 ys) hx (by simp [cellsOf8]) (fun j u hj => ?_) (fun u hu => ?_) (by unfold maxLen; omega) (by omega) hB (fun v' w' h1 h2 _ => ?_)
    · have hjl : j < ys.length := by
        rcases Nat.lt_or_ge j ys.length with h | h
        · exact h
        · rw [List.getElem?_eq_none (by simpa [cellsOf8] using h)] at hj; cases hj
      have hplain : (⟨b, off, none⟩ : Addr).add j = ⟨b, off + j, none⟩ := by unfold Addr.add; split <;> simp_all
      rw [hplain, hr.cell j hjl]
      simp [cellsOf8, hjl] at hj
      simp [List.getD, hjl, hj]
    · simp [cellsOf8] at hu
      obtain ⟨n, _, rfl⟩ := hu
      rfl
    · refine h v' w' ⟨by rw [List.length_append, cellsOf8_append]; exact h1, fun k hk => ?_, fun k hk => ?_⟩ (Below.grown (Below.refl _ _) h2 hB hblk) h2
      · rw [List.length_append] at hk
        by_cases hlt : k < xs.length
        · rw [show (xs ++ ys).getD k 0 = xs.getD k 0 by simp [List.getD, List.getElem?_append_left, hlt]]; exact hown.lo k hlt
        · rw [show k = xs.length + (k - xs.length) by omega, hgd0 _ (by omega)]; exact hr.lo _ (by omega)
      · rw [List.length_append] at hk
        by_cases hlt : k < xs.length
        · rw [show (xs ++ ys).getD k 0 = xs.getD k 0 by simp [List.getD, List.getElem?_append_left, hlt]]; exact hown.hi k hlt
        · rw [show k = xs.length + (k - xs.length) by omega, hgd0 _ (by omega)]; exact hr.hi _ (by omega)
  · cases ad with
    | none =>
      obtain rfl := hnil rfl
      exact wpList_append_own_none hgd s x 27 ho B 5 i0 1 Tryd.underlying27 hi v xs.length (cellsOf8 xs) hs hown.own hx (h v w (by rw [List.append_nil]; exact hown) (Below.refl _ _) ⟨rfl, rfl, rfl, Nat.le_refl _, fun _ _ _ => rfl⟩)
    | some ad =>
      refine wpList_append_own _ hgd s x 27 ho B 5 i0 (.int .u8 0) 1 1 Tryd.underlying27 hi hz0 hz1 hz2 rfl (by decide) v xs.length (cellsOf8 xs) hs hown.own
        ad 0 cap [] hx rfl (fun j u hj => by cases hj) (fun u hu => by cases hu) (by unfold maxLen; simp at h63; omega) (by simp at h63; omega) hB (fun v' w' h1 h2 _ => ?_)
      exact h v' w' ⟨by simpa using h1, by simpa using hown.lo, by simpa using hown.hi⟩ (Below.grown (Below.refl _ _) h2 hB hblk) h2
end
end Go.Proofs.YtgeldpfojmkdbaaDoor
namespace Go.Proofs.YtgeldpfojmkdbaaDoor
set_option linter.unusedVariables false
open Go.ChangeShapes Go.WideShapes Go.ChangeAt Go.RowKit
attribute [local go_sem ↓] Go.wp_at_zero Go.wp_at_succ comesTo_value_eq comesTo_skip_eq comesTo_enter_eq

/-- of the blocks that were there just those of F may have turned -/
structure Fr (F : Nat → Prop) (w w' : World) : Prop where
  os : w'.os = w.os
  tape : w'.tape = w.tape
  output : w'.output = w.output
  size : w.heap.size ≤ w'.heap.size
  block : ∀ j, j < w.heap.size → ¬ F j → w'.heap[j]? = w.heap[j]?
theorem Fr.refl (F : Nat → Prop) (w : World) : Fr F w w := ⟨rfl, rfl, rfl, Nat.le_refl _, fun _ _ _ => rfl⟩
theorem Fr.trans {F G : Nat → Prop} {a b c : World} (h : Fr F a b) (k : Fr G b c) (hG : ∀ j, G j → F j ∨ a.heap.size ≤ j) : Fr F a c :=
  ⟨k.os.trans h.os, k.tape.trans h.tape, k.output.trans h.output, Nat.le_trans h.size k.size, fun j hj hn =>
    (k.block j (Nat.lt_of_lt_of_le hj h.size) (fun g => by rcases hG j g with h1 | h1; exact hn h1; omega)).trans (h.block j hj hn)⟩
theorem Fr.below {F : Nat → Prop} {B : Nat} {w w' : World} (h : Fr F w w') (hB : B ≤ w.heap.size) (hF : ∀ j, F j → B ≤ j) : Below B w w' :=
  ⟨h.os, h.tape, h.output, h.size, fun k hk => h.block k (by omega) (fun g => by have := hF k g; omega)⟩
theorem Fr.of_below {F : Nat → Prop} {w w' : World} (h : Below w.heap.size w w') : Fr F w w' := ⟨h.os, h.tape, h.output, h.size, fun j hj _ => h.block j hj⟩
theorem Fr.of_under {B : Nat} {w w' : World} (h : Below B w w') : Fr (fun j => B ≤ j) w w' := ⟨h.os, h.tape, h.output, h.size, fun j _ hn => h.block j (Nat.lt_of_not_le hn)⟩
theorem Fr.set {F : Nat → Prop} {w w' : World} (h : Fr F w w') {D : Nat} (hD : F D) (o : Nat) (v : Value) : Fr F w (w'.setCell ⟨D, o, none⟩ v) :=
  ⟨h.os, h.tape, h.output, by simpa [World.setCell] using h.size, fun j hj hn => by
    rw [Below.heap_setCell _ _ _ _ (fun e => hn (by rw [show j = D from e]; exact hD))]; exact h.block j hj hn⟩
theorem Fr.grown {F : Nat → Prop} {w w1 w' : World} (h : Fr F w w1) {row : Option Nat} (hg : w1.grownBy w' row) (hr : ∀ k, row = some k → F k ∨ w.heap.size ≤ k) : Fr F w w' :=
  ⟨hg.os.trans h.os, hg.tape.trans h.tape, hg.output.trans h.output, Nat.le_trans h.size hg.size, fun j hj hn =>
    (hg.block j (Nat.lt_of_lt_of_le hj h.size) (fun e => by rcases hr j e.symm with h1 | h1; exact hn h1; omega)).trans (h.block j hj hn)⟩

theorem ownBlock_lt {w : World} {B : Nat} {v : Value} {xs : List Int} (h : OwnTxt w B v xs) {g : Nat} (hg : v.ownBlock = some g) : g < w.heap.size := by
  rcases h.own.2 with ⟨rfl, _⟩ | ⟨g', cap, cur, rfl, _, hh, _⟩
  · cases hg
  · simp only [Value.ownBlock, Option.some.injEq] at hg
    subst hg
    exact (Array.getElem?_eq_some_iff.1 hh).1
/-- an own row where its block is as it was -/
theorem OwnTxt.of_block {w w' : World} {B : Nat} {v : Value} {xs : List Int} (h : OwnTxt w B v xs) (hb : ∀ g, v.ownBlock = some g → w'.heap[g]? = w.heap[g]?) : OwnTxt w' B v xs := by
  refine ⟨⟨h.own.1, ?_⟩, h.lo, h.hi⟩
  rcases h.own.2 with hn | ⟨g, cap, cur, rfl, hB, hg, rest⟩
  · exact .inl hn
  · exact .inr ⟨g, cap, cur, rfl, hB, (hb g rfl).trans hg, rest⟩
theorem OwnTxt.base {w : World} {B B' : Nat} {v : Value} {xs : List Int} (h : OwnTxt w B v xs) (hB : B' ≤ B) : OwnTxt w B' v xs := by
  refine ⟨⟨h.own.1, ?_⟩, h.lo, h.hi⟩
  rcases h.own.2 with hn | ⟨g, cap, cur, rfl, hB, hg, rest⟩
  · exact .inl hn
  · exact .inr ⟨g, cap, cur, rfl, by omega, hg, rest⟩
theorem OwnTxt.blockGe {w : World} {B : Nat} {v : Value} {xs : List Int} (h : OwnTxt w B v xs) {g : Nat} (hg : v.ownBlock = some g) : B ≤ g := by
  rcases h.own.2 with ⟨rfl, _⟩ | ⟨g', cap, cur, rfl, hB, _⟩
  · cases hg
  · simp only [Value.ownBlock, Option.some.injEq] at hg; omega
/-- the first ones of an own row -/
theorem OwnTxt.take {w : World} {B : Nat} {ad : Option Addr} {n c : Nat} {xs : List Int} (h : OwnTxt w B (.slice ad n c) xs) {k : Nat} (hk : k ≤ xs.length) : OwnTxt w B (.slice ad k c) (xs.take k) := by
  have hl : (xs.take k).length = k := by simp; omega
  refine ⟨⟨by simp [cellsOf8], ?_⟩, fun j hj => ?_, fun j hj => ?_⟩
  · rcases h.own.2 with ⟨e, h0⟩ | ⟨g, cap, cur, e, hB, hg, h1, h2, h3, h4⟩
    · cases e
      refine .inl ⟨by rw [show k = 0 by omega], by omega⟩
    · cases e
      refine .inr ⟨g, c, cur, by rw [hl], hB, hg, by omega, h2, h3, ?_⟩
      rw [hl]
      have : (cellsOf8 xs).take k = cellsOf8 (xs.take k) := by simp [cellsOf8]
      rw [← this, ← h4, List.take_take]
      congr 1
      omega
  · rw [hl] at hj
    have := h.lo j (by omega)
    simpa [List.getD, List.getElem?_take, hj] using this
  · rw [hl] at hj
    have := h.hi j (by omega)
    simpa [List.getD, List.getElem?_take, hj] using this
theorem OwnTxt.form {w : World} {B : Nat} {v : Value} {xs : List Int} (h : OwnTxt w B v xs) : (v = .slice none 0 0 ∧ xs = []) ∨ ∃ g c, v = .slice (some ⟨g, 0, none⟩) xs.length c ∧ xs.length ≤ c ∧ c ≤ maxLen := by
  rcases h.own.2 with ⟨rfl, h0⟩ | ⟨g, cap, cur, rfl, _, _, h1, h2, _⟩
  · exact .inl ⟨rfl, List.eq_nil_of_length_eq_zero h0⟩
  · exact .inr ⟨g, cap, rfl, h1, h2⟩

/-- what a copy of bytes leaves -/
def Cloned (w : World) (xs : List Int) (e : Ending) (w' : World) : Prop := ∃ u, e = .returned u ∧ OwnTxt w' w.heap.size u xs ∧ Below w.heap.size w w' ∧ w.grownBy w' none
/-- a copy of bytes: a row of the call's own, or none of none -/
theorem clone_bytes {w : World} {v : Value} {xs : List Int} (h : TxtAt w v xs) (hl : xs.length ≤ 140737488355328) : Calls Tryd.prog 41 #[v] w fun e w' => Cloned w xs e w' := by
  have H := Lib.hid h
  have hn : v = .slice none 0 0 ∧ xs = [] ∨ ∃ a n c, v = .slice (some a) n c := by
    rcases h with ⟨b, off, cap, rfl, _, _⟩ | ⟨rfl, a, cap, rfl, hc⟩
    · exact .inr ⟨_, _, _, rfl⟩
    · cases a with
      | none => obtain rfl := hc rfl; exact .inl ⟨rfl, rfl⟩
      | some a => exact .inr ⟨_, _, _, rfl⟩
  clear h
  have hq : ∀ (W : World) (a : Option Addr) (n c : Nat), Sem.run Tryd.prog (binOp .eql 27 (.slice a n c) (.slice none 0 0)) W = .ok (.bool a.isNone) W := fun W a n c => Lib.run_eql_slice_nil W 27 5 a n c 0 0 Tryd.underlying27
  rcases hn with ⟨rfl, rfl⟩ | ⟨a, n, c, rfl⟩
  · go_enter Tryd.func41, Tryd.ntmps41
    go_wp2
    go_ret
    exact ⟨_, rfl, OwnTxt.nil, Below.refl _ _, World.grownBy.refl _ _⟩
  · have hA := below_alloc (Below.refl _ w) (.cells #[] 5)
    have HA := Lib.hid (World.grownBy_alloc w (.cells #[] 5) none)
    have HO := Lib.hid (OwnTxt.new (w := w) (B := w.heap.size) (Nat.le_refl _))
    have HT := Lib.hid (H.out.below hA)
    have HB := Lib.hid hA
    clear hA
    go_enter Tryd.func41, Tryd.ntmps41
    go_wp2_with (at_builtin; go_loud (refine wpList_append_txt (by rfl) _ _ (by rfl) w.heap.size (.slice (some ⟨w.heap.size, 0, none⟩) 0 0) [] (by rfl) HO.out (.slice (some a) n c) xs (by rfl) HT.out (by simpa using hl) (by simp) ?_; intro ad n' c' w1 o1 b1 g1; have O1 := Lib.hid o1; have B1 := Lib.hid b1; have G1 := Lib.hid g1; clear o1 b1 g1))
    go_ret
    refine ⟨_, rfl, by simpa using O1.out, HB.out.trans B1.out, ?_⟩
    have g := G1.out
    refine ⟨g.os, g.tape, g.output, Nat.le_trans HB.out.size g.size, fun k hk _ => ?_⟩
    exact (g.block k (by simp; omega) (by simp [Value.ownBlock]; omega)).trans (HB.out.block k hk)
theorem bytesOf_inj {s t : ByteArray} (h : bytesOf s = bytesOf t) : s = t := by
  rcases s with ⟨⟨a⟩⟩
  rcases t with ⟨⟨b⟩⟩
  unfold bytesOf at h
  have h2 : a = b := by
    refine List.map_inj_right (fun x y e => ?_) |>.1 h
    exact UInt8.toNat_inj.1 (by exact_mod_cast e)
  subst h2
  rfl
/-- bytes as a text, at any later world -/
theorem txt_conv {w : World} {v : Value} {zs : List Int} (h : TxtAt w v zs) (w' : World) (hb : Below w.heap.size w w') : (convert 27 9 v).run Tryd.prog w' = .ok (.string (strOfNums zs)) w' := by
  obtain ⟨s, hs, _, hc⟩ := txt_convert h
  rw [hc w' hb]
  have hz : bytesOf (strOfNums zs) = zs := by
    rcases h with ⟨b, off, cap, rfl, h2, h3⟩ | ⟨rfl, _⟩
    · exact bytesOf_str zs h3.lo h3.hi
    · rfl
  rw [bytesOf_inj (hs.trans hz.symm)]
theorem TxtAt.of_fr {F : Nat → Prop} {w w' : World} {v : Value} {zs : List Int} (h : TxtAt w v zs) (hf : Fr F w w') (hv : ∀ b off n c, v = .slice (some ⟨b, off, none⟩) n c → 0 < n → b < w.heap.size → ¬ F b) : TxtAt w' v zs := by
  rcases h with ⟨b, off, cap, h1, h2, h3⟩ | h
  · refine .inl ⟨b, off, cap, h1, h2, ?_⟩
    have hlt : b < w.heap.size := World.block_lt_of_cell? w _ (h3.cell 0 h2)
    exact ⟨fun k hk => (World.cell?_of_block (w := w) (a := ⟨b, off + k, none⟩) (hf.block b hlt (hv b off _ cap h1 h2 hlt))).trans (h3.cell k hk), h3.lo, h3.hi, h3.len⟩
  · exact .inr h
/-- bytes that lie below B stay where just blocks from B on may have turned -/
theorem TxtAt.low {F : Nat → Prop} {w0 w w' : World} {v : Value} {zs : List Int} {B : Nat} (h : TxtAt w0 v zs) (hb : Below w0.heap.size w0 w) (hB : w0.heap.size ≤ B) (hF : ∀ j, F j → B ≤ j) (hf : Fr F w w') : TxtAt w' v zs := by
  refine (h.below hb).of_fr hf fun b off n c e hn hlt hFb => ?_
  rcases h with ⟨b', off', cap', h1, h2, h3⟩ | ⟨_, a, cap, h1, _⟩
  · rw [h1] at e
    cases e
    have := World.block_lt_of_cell? w0 _ (h3.cell 0 h2)
    have := hF b hFb
    simp at *
    omega
  · rw [h1] at e
    cases e
    omega
theorem OwnTxt.shape {w : World} {B : Nat} {v : Value} {xs : List Int} (h : OwnTxt w B v xs) : ∃ ad c, v = .slice ad xs.length c ∧ ((ad = none ∧ xs.length = 0 ∧ c = 0) ∨ ∃ g, ad = some ⟨g, 0, none⟩) ∧ xs.length ≤ c := by
  rcases h.form with ⟨rfl, h0⟩ | ⟨g, c, rfl, h2, _⟩
  · exact ⟨none, 0, by rw [h0]; rfl, .inl ⟨rfl, by rw [h0]; rfl, rfl⟩, by rw [h0]; exact Nat.le_refl _⟩
  · exact ⟨_, c, rfl, .inr ⟨g, rfl⟩, h2⟩
/-- the first ones of bytes that came in -/
theorem slice_to_any {ad : Option Addr} {n c s : Nat} (h : ∃ g o, ad = some ⟨g, o, none⟩) (hs : s ≤ c) (h0 : 0 < c) (W : World) : Sem.run Tryd.prog (Instr.slice 27 (.slice ad n c) none (some (.int .i64 (s : Int))) none) W = .ok (.slice ad s c) W := by
  obtain ⟨g, o, rfl⟩ := h
  have hne : ¬ c = 0 := by omega
  go_simp
theorem slice_to {ad : Option Addr} {n c s : Nat} (h : (ad = none ∧ n = 0 ∧ c = 0) ∨ ∃ g, ad = some ⟨g, 0, none⟩) (hs : s ≤ c) (W : World) : Sem.run Tryd.prog (Instr.slice 27 (.slice ad n c) none (some (.int .i64 (s : Int))) none) W = .ok (.slice ad s c) W := by
  rcases h with ⟨rfl, rfl, rfl⟩ | ⟨g, rfl⟩
  · obtain rfl : s = 0 := by omega
    go_simp
  · go_simp
end Go.Proofs.YtgeldpfojmkdbaaDoor
namespace Go.Proofs.YtgeldpfojmkdbaaDoor
set_option linter.unusedVariables false
open Go Go.RowKit

/-- a number's sign, folded and unfolded -/
def foldF (v : Int) : Nat := if v < 0 then (-2 * v - 1).toNat else (2 * v).toNat
def unfoldF (u : Nat) : Int := if u % 2 = 1 then -((u / 2 : Nat) : Int) - 1 else ((u / 2 : Nat) : Int)
theorem unfold_fold (v : Int) : unfoldF (foldF v) = v := by unfold unfoldF foldF; split <;> split <;> omega
theorem fold_lt {v : Int} (h : -9223372036854775808 ≤ v ∧ v ≤ 9223372036854775807) : foldF v < 18446744073709551616 := by unfold foldF; split <;> omega
theorem fold_inj {v x : Int} (h : foldF v = foldF x) : v = x := by rw [← unfold_fold v, h, unfold_fold]
theorem unfold_in {u : Nat} (h : u < 18446744073709551616) : -9223372036854775808 ≤ unfoldF u ∧ unfoldF u ≤ 9223372036854775807 := by unfold unfoldF; split <;> omega

theorem xor_zero_i64 (x : Int) (h : 0 ≤ x ∧ x < 9223372036854775808) : bits .xor .i64 x 0 = x := by
  show IntKind.i64.wrap ((BitVec.ofInt 64 x ^^^ BitVec.ofInt 64 0).toNat : Int) = _
  rw [show BitVec.ofInt 64 0 = 0#64 from rfl, BitVec.xor_zero, BitVec.toNat_ofInt]
  simp [IntKind.wrap, IntKind.bits, IntKind.signed]
  omega
theorem xor_ones_i64 (x : Int) (h : 0 ≤ x ∧ x < 9223372036854775808) : bits .xor .i64 x (-1) = -x - 1 := by
  show IntKind.i64.wrap ((BitVec.ofInt 64 x ^^^ BitVec.ofInt 64 (-1)).toNat : Int) = _
  rw [show BitVec.ofInt 64 (-1) = BitVec.allOnes 64 from by decide, BitVec.xor_allOnes, BitVec.toNat_not, BitVec.toNat_ofInt]
  simp [IntKind.wrap, IntKind.bits, IntKind.signed]
  split <;> omega
theorem unfold_bits {u : Nat} (hu : u < 18446744073709551616) : bits .xor .i64 ((u : Int) / 2) (wrap64 (-wrap64 (bits .and .u64 (u : Int) 1))) = unfoldF u := by
  have h1 : bits .and .u64 (u : Int) 1 = ((u % 2 : Nat) : Int) := by
    have := u64_and_nat u 1 hu (by decide)
    rw [nat_mask1] at this
    exact this
  rw [h1]
  unfold unfoldF
  rcases (by omega : u % 2 = 0 ∨ u % 2 = 1) with h | h
  · rw [h, if_neg (by decide), show wrap64 (-wrap64 ((0 : Nat) : Int)) = 0 by decide +kernel, xor_zero_i64 _ (by omega)]
    omega
  · rw [h, if_pos rfl, show wrap64 (-wrap64 ((1 : Nat) : Int)) = -1 by decide +kernel, xor_ones_i64 _ (by omega)]
    omega
theorem xor_ones_u64 (x : Nat) (h : x < 18446744073709551616) : bits .xor .u64 (x : Int) 18446744073709551615 = 18446744073709551615 - (x : Int) := by
  show IntKind.u64.wrap ((BitVec.ofInt 64 (x : Int) ^^^ BitVec.ofInt 64 18446744073709551615).toNat : Int) = _
  rw [show BitVec.ofInt 64 18446744073709551615 = BitVec.allOnes 64 from by decide, BitVec.xor_allOnes, BitVec.toNat_not, BitVec.toNat_ofInt, IntKind.wrap_u64]
  omega
theorem fold_bits {v : Int} (h : -9223372036854775808 ≤ v ∧ v ≤ 9223372036854775807) :
    bits .xor .u64 (IntKind.u64.wrap (IntKind.u64.wrap v * 2)) (IntKind.u64.wrap (v / 9223372036854775808)) = (foldF v : Int) := by
  simp only [IntKind.wrap_u64]
  unfold foldF
  by_cases hv : v < 0
  · rw [if_pos hv, show v / 9223372036854775808 = -1 by omega, show (-1 : Int) % 18446744073709551616 = 18446744073709551615 by decide]
    have e : v % 18446744073709551616 * 2 % 18446744073709551616 = (((2 * v + 18446744073709551616).toNat : Nat) : Int) := by omega
    rw [e, xor_ones_u64 _ (by omega)]
    omega
  · rw [if_neg hv, show v / 9223372036854775808 = 0 by omega, show (0 : Int) % 18446744073709551616 = ((0 : Nat) : Int) by decide]
    have e : v % 18446744073709551616 * 2 % 18446744073709551616 = (((2 * v).toNat : Nat) : Int) := by omega
    rw [e, u64_xor_nat _ _ (by omega) (by decide), Nat.xor_zero]

/-- a number in groups -/
def putU (u : Nat) : List Int := if h : u < 128 then [(u : Int)] else ((u % 128 + 128 : Nat) : Int) :: putU (u / 128)
termination_by u
decreasing_by omega
theorem putU_lt {u : Nat} (h : u < 128) : putU u = [(u : Int)] := by rw [putU, dif_pos h]
theorem putU_ge {u : Nat} (h : ¬ u < 128) : putU u = ((u % 128 + 128 : Nat) : Int) :: putU (u / 128) := by rw [putU, dif_neg h]
def putI (v : Int) : List Int := putU (foldF v)
theorem putU_bytes (u : Nat) : ∀ x ∈ putU u, 0 ≤ x ∧ x ≤ 255 := by
  induction u using putU.induct with
  | case1 u h => rw [putU_lt h]; intro x hx; simp at hx; omega
  | case2 u h ih =>
    rw [putU_ge h]
    intro x hx
    rcases List.mem_cons.1 hx with rfl | hx
    · omega
    · exact ih x hx
theorem putU_len (u : Nat) : 1 ≤ (putU u).length := by
  by_cases h : u < 128
  · rw [putU_lt h]; simp
  · rw [putU_ge h]; simp
theorem putU_le (k : Nat) : ∀ u : Nat, u < 128 ^ (k + 1) → (putU u).length ≤ k + 1 := by
  induction k with
  | zero => intro u h; rw [putU_lt (by simpa using h)]; simp
  | succ k ih =>
    intro u h
    by_cases hu : u < 128
    · rw [putU_lt hu]; simp
    · rw [putU_ge hu]
      have := ih (u / 128) (by rw [Nat.div_lt_iff_lt_mul (by decide), ← Nat.pow_succ]; exact h)
      simp; omega
theorem putI_len {v : Int} (h : -9223372036854775808 ≤ v ∧ v ≤ 9223372036854775807) : (putI v).length ≤ 10 := putU_le 9 _ (Nat.lt_of_lt_of_le (fold_lt h) (by decide))
/-- a text, and numbers -/
def putT (s : List Int) : List Int := putI s.length ++ s
def putL (l : List Int) : List Int := putI l.length ++ l.flatMap putI

/-- what a reading of a number leaves: the rest, what is wrong, the number -/
def scan : Nat → Nat → List Int → List Int × Int × Int
  | _, _, [] => ([], 10, 0)
  | i, u, x :: xs =>
    if i = 9 ∧ 1 < x then ([], 11, 0)
    else if 128 ≤ x then scan (i + 1) (u + (x - 128).toNat * 2 ^ (7 * i)) xs
    else if 0 < i ∧ x = 0 then ([], 11, 0)
    else (xs, 0, unfoldF (u + x.toNat * 2 ^ (7 * i)))
theorem scan_bad (i u : Nat) (xs : List Int) : (scan i u xs).2.1 = 0 ∨ (scan i u xs).1 = [] ∧ (scan i u xs).2.2 = 0 := by
  induction xs generalizing i u with
  | nil => exact .inr ⟨rfl, rfl⟩
  | cons x xs ih =>
    unfold scan
    split
    · exact .inr ⟨rfl, rfl⟩
    · split
      · exact ih _ _
      · split
        · exact .inr ⟨rfl, rfl⟩
        · exact .inl rfl
theorem scan_put (u : Nat) : ∀ (i a : Nat) (ys : List Int), i ≤ 9 → u * 2 ^ (7 * i) < 18446744073709551616 → (0 < i → 0 < u) → scan i a (putU u ++ ys) = (ys, 0, unfoldF (a + u * 2 ^ (7 * i))) := by
  induction u using putU.induct with
  | case1 u h =>
    intro i a ys hi hu h0
    rw [putU_lt h]
    show scan i a ((u : Int) :: ys) = _
    unfold scan
    rw [if_neg, if_neg (by omega), if_neg (by omega)]
    · simp
    · rintro ⟨rfl, h1⟩
      have : 2 * 2 ^ (7 * 9) ≤ u * 2 ^ (7 * 9) := Nat.mul_le_mul_right _ (by omega)
      simp at this hu
      omega
  | case2 u h ih =>
    intro i a ys hi hu h0
    rw [putU_ge h]
    show scan i a (((u % 128 + 128 : Nat) : Int) :: (putU (u / 128) ++ ys)) = _
    have h9 : i ≠ 9 := by
      rintro rfl
      have : 2 * 2 ^ (7 * 9) ≤ u * 2 ^ (7 * 9) := Nat.mul_le_mul_right _ (by omega)
      simp at this hu
      omega
    have hp : 2 ^ (7 * (i + 1)) = 128 * 2 ^ (7 * i) := by rw [show 7 * (i + 1) = 7 + 7 * i by omega, Nat.pow_add]
    have hd : u / 128 * (128 * 2 ^ (7 * i)) + u % 128 * 2 ^ (7 * i) = u * 2 ^ (7 * i) := by
      have h1 : u / 128 * (128 * 2 ^ (7 * i)) = (128 * (u / 128)) * 2 ^ (7 * i) := by rw [← Nat.mul_assoc, Nat.mul_comm (u / 128) 128]
      rw [h1, ← Nat.add_mul, Nat.div_add_mod]
    unfold scan
    rw [if_neg (by omega), if_pos (by omega), ih (i + 1) _ ys (by omega) (by rw [hp]; omega) (fun _ => by omega), hp]
    rw [show (((u % 128 + 128 : Nat) : Int) - 128).toNat = u % 128 by omega, show a + u % 128 * 2 ^ (7 * i) + u / 128 * (128 * 2 ^ (7 * i)) = a + u * 2 ^ (7 * i) by omega]
theorem scan_putI {v : Int} (h : -9223372036854775808 ≤ v ∧ v ≤ 9223372036854775807) (ys : List Int) : scan 0 0 (putI v ++ ys) = (ys, 0, v) := by
  have := scan_put (foldF v) 0 0 ys (by decide) (by simpa using fold_lt h) (fun h => by omega)
  rw [show putI v = putU (foldF v) from rfl, this]
  simp [unfold_fold]
/-- cut off -/
theorem scan_cut (u : Nat) : ∀ (i a k : Nat), i ≤ 9 → u * 2 ^ (7 * i) < 18446744073709551616 → k < (putU u).length → scan i a ((putU u).take k) = ([], 10, 0) := by
  induction u using putU.induct with
  | case1 u h =>
    intro i a k hi hu hk
    rw [putU_lt h] at hk ⊢
    simp at hk
    subst hk
    rfl
  | case2 u h ih =>
    intro i a k hi hu hk
    rw [putU_ge h] at hk ⊢
    cases k with
    | zero => rfl
    | succ k =>
      have h9 : i ≠ 9 := by
        rintro rfl
        have : 2 * 2 ^ (7 * 9) ≤ u * 2 ^ (7 * 9) := Nat.mul_le_mul_right _ (by omega)
        simp at this hu
        omega
      have hp : 2 ^ (7 * (i + 1)) = 128 * 2 ^ (7 * i) := by rw [show 7 * (i + 1) = 7 + 7 * i by omega, Nat.pow_add]
      have hd : u / 128 * (128 * 2 ^ (7 * i)) + u % 128 * 2 ^ (7 * i) = u * 2 ^ (7 * i) := by
        have h1 : u / 128 * (128 * 2 ^ (7 * i)) = (128 * (u / 128)) * 2 ^ (7 * i) := by rw [← Nat.mul_assoc, Nat.mul_comm (u / 128) 128]
        rw [h1, ← Nat.add_mul, Nat.div_add_mod]
      rw [List.take_succ_cons]
      unfold scan
      rw [if_neg (by omega), if_pos (by omega), ih (i + 1) _ k (by omega) (by rw [hp]; omega) (by simpa using hk)]
/-- what is read is one of 64 bits -/
theorem scan_in (xs : List Int) : ∀ (i u : Nat), (∀ x ∈ xs, 0 ≤ x ∧ x ≤ 255) → i ≤ 9 → u < 2 ^ (7 * i) → -9223372036854775808 ≤ (scan i u xs).2.2 ∧ (scan i u xs).2.2 ≤ 9223372036854775807 := by
  induction xs with
  | nil => intro i u _ _ _; simp [scan]
  | cons x xs ih =>
    intro i u hb hi hu
    have hx := hb x List.mem_cons_self
    have hp : 2 ^ (7 * (i + 1)) = 128 * 2 ^ (7 * i) := by rw [show 7 * (i + 1) = 7 + 7 * i by omega, Nat.pow_add]
    unfold scan
    split
    · exact ⟨by decide, by decide⟩
    · rename_i h9
      split
      · rename_i h128
        have hm : (x - 128).toNat * 2 ^ (7 * i) ≤ 127 * 2 ^ (7 * i) := Nat.mul_le_mul_right _ (by omega)
        exact ih (i + 1) _ (fun y hy => hb y (List.mem_cons_of_mem _ hy)) (by omega) (by omega)
      · split
        · exact ⟨by decide, by decide⟩
        · refine unfold_in ?_
          rcases (by omega : i = 9 ∨ i < 9) with rfl | h
          · have hm : x.toNat * 2 ^ (7 * 9) ≤ 1 * 2 ^ (7 * 9) := Nat.mul_le_mul_right _ (by omega)
            simp at hm hu
            omega
          · have hm : x.toNat * 2 ^ (7 * i) ≤ 127 * 2 ^ (7 * i) := Nat.mul_le_mul_right _ (by omega)
            have hq : 2 ^ (7 * i) ≤ 2 ^ 56 := Nat.pow_le_pow_right (by decide) (by omega)
            simp at hq
            omega
theorem scan_suffix (xs : List Int) : ∀ (i u : Nat), (scan i u xs).1 <:+ xs := by
  induction xs with
  | nil => intro i u; exact List.suffix_refl _
  | cons x xs ih =>
    intro i u
    unfold scan
    split
    · exact List.nil_suffix
    · split
      · exact (ih _ _).trans (List.suffix_cons _ _)
      · split
        · exact List.nil_suffix
        · exact List.suffix_cons _ _
theorem putU_inj (u : Nat) : ∀ v, putU u = putU v → u = v := by
  induction u using putU.induct with
  | case1 u h =>
    intro v hv
    by_cases h' : v < 128
    · rw [putU_lt h, putU_lt h'] at hv; simp at hv; omega
    · rw [putU_lt h, putU_ge h'] at hv
      have := (List.cons.inj hv).1
      omega
  | case2 u h ih =>
    intro v hv
    by_cases h' : v < 128
    · rw [putU_ge h, putU_lt h'] at hv
      have := (List.cons.inj hv).1
      omega
    · rw [putU_ge h, putU_ge h'] at hv
      have h1 := (List.cons.inj hv).1
      have h2 := ih _ (List.cons.inj hv).2
      omega
theorem putI_inj {v x : Int} (h : putI v = putI x) : v = x := fold_inj (putU_inj _ _ h)
end Go.Proofs.YtgeldpfojmkdbaaDoor
namespace Go.Proofs.YtgeldpfojmkdbaaDoor
set_option linter.unusedVariables false
open Go.ChangeShapes Go.WideShapes Go.ChangeAt Go.RowKit
attribute [local go_sem ↓] Go.wp_at_zero Go.wp_at_succ comesTo_value_eq comesTo_skip_eq comesTo_enter_eq

/-- an error, as it is held -/
def badV (e : Int) : Value := if e = 0 then .nilIface else .iface 28 (.int .i64 e)
/-- what a cursor holds: what is left, what was wrong -/
structure CS where
  xs : List Int
  bad : Int
/-- a cursor in block C, its bytes in a block of F -/
structure Cur (w : World) (C : Nat) (F : Nat → Prop) (st : CS) : Prop where
  mem : F C
  none_ : st.bad ≠ 0 → st.xs = []
  fits : st.xs.length ≤ 1099511627775
  at_ : ∃ ad n c, w.heap[C]? = some (.cells #[.slice ad n c, badV st.bad] 78 (0, 0)) ∧ TxtAt w (.slice ad n c) st.xs ∧ n ≤ c ∧ ∀ p, ad = some p → p.block ≠ C ∧ F p.block ∧ p.block < w.heap.size
theorem TxtAt.form {w : World} {ad : Option Addr} {n c : Nat} {xs : List Int} (h : TxtAt w (.slice ad n c) xs) : n = xs.length ∧ ((ad = none ∧ xs = []) ∨ (xs = [] ∧ ad.isSome) ∨ ∃ b o, ad = some ⟨b, o, none⟩ ∧ 0 < n ∧ BytesRow w b o xs) := by
  rcases h with ⟨b, o, cap, h1, h2, h3⟩ | ⟨rfl, a, cap, h1, h2⟩
  · injection h1 with e1 e2 e3
    subst e1 e2 e3
    exact ⟨rfl, .inr (.inr ⟨b, o, rfl, h2, h3⟩)⟩
  · injection h1 with e1 e2 e3
    subst e1 e2 e3
    cases ad with
    | none => exact ⟨rfl, .inl ⟨rfl, rfl⟩⟩
    | some p => exact ⟨rfl, .inr (.inl ⟨rfl, rfl⟩)⟩
/-- bytes where their block is as it was -/
theorem TxtAt.of_blocks {w w' : World} {ad : Option Addr} {n c : Nat} {xs : List Int} (h : TxtAt w (.slice ad n c) xs) (hb : ∀ p, ad = some p → p.block < w.heap.size → w'.heap[p.block]? = w.heap[p.block]?) : TxtAt w' (.slice ad n c) xs := by
  rcases h with ⟨b, o, cap, h1, h2, h3⟩ | h
  · refine .inl ⟨b, o, cap, h1, h2, ⟨fun k hk => ?_, h3.lo, h3.hi, h3.len⟩⟩
    injection h1 with e1 e2 e3
    subst e1 e2 e3
    have hlt := World.block_lt_of_cell? w _ (h3.cell 0 (by omega))
    have := hb _ rfl hlt
    have hc := h3.cell k hk
    simp only [World.cell?, this] at hc ⊢
    exact hc
  · exact .inr h
theorem Fr.cur {w w' : World} {C : Nat} {F G : Nat → Prop} {st : CS} (h : Cur w C F st) (hf : Fr G w w') (hG : ∀ j, F j → j < w.heap.size → ¬ G j) : Cur w' C F st := by
  obtain ⟨hm, hn, hft, ad, n, c, hb, ht, hc, hp⟩ := h
  have hlt : C < w.heap.size := (Array.getElem?_eq_some_iff.1 hb).1
  exact ⟨hm, hn, hft, ad, n, c, (hf.block C hlt (hG C hm hlt)).trans hb, ht.of_blocks fun p e hlt => hf.block _ hlt (hG _ (hp p e).2.1 hlt), hc, fun p e => ⟨(hp p e).1, (hp p e).2.1, Nat.lt_of_lt_of_le (hp p e).2.2 hf.size⟩⟩
theorem Cur.below {w w' : World} {C : Nat} {F : Nat → Prop} {st : CS} (h : Cur w C F st) (hb : Below w.heap.size w w') : Cur w' C F st :=
  Fr.cur (G := fun _ => False) h ⟨hb.os, hb.tape, hb.output, hb.size, fun j hj _ => hb.block j hj⟩ (fun _ _ _ => id)
theorem Cur.more {w : World} {C : Nat} {F G : Nat → Prop} {st : CS} (h : Cur w C F st) (hG : ∀ j, F j → G j) : Cur w C G st := by
  obtain ⟨hm, hn, hft, ad, n, c, hb, ht, hc, hp⟩ := h
  exact ⟨hG _ hm, hn, hft, ad, n, c, hb, ht, hc, fun p e => ⟨(hp p e).1, hG _ (hp p e).2.1, (hp p e).2.2⟩⟩
/-- its blocks are there -/
theorem Cur.tight {w : World} {C : Nat} {F : Nat → Prop} {st : CS} (h : Cur w C F st) : Cur w C (fun j => F j ∧ j < w.heap.size) st := by
  obtain ⟨hm, hn, hft, ad, n, c, hb, ht, hc, hp⟩ := h
  exact ⟨⟨hm, (Array.getElem?_eq_some_iff.1 hb).1⟩, hn, hft, ad, n, c, hb, ht, hc, fun p e => ⟨(hp p e).1, ⟨(hp p e).2.1, (hp p e).2.2⟩, (hp p e).2.2⟩⟩
theorem Cur.lt {w : World} {C : Nat} {F : Nat → Prop} {st : CS} (h : Cur w C F st) : C < w.heap.size := by
  obtain ⟨_, _, _, ad, n, c, hb, _⟩ := h
  exact (Array.getElem?_eq_some_iff.1 hb).1
/-- what a writing of the cursor's block leaves -/
theorem Cur.wrote {w w' : World} {C : Nat} {F : Nat → Prop} {st st' : CS} (h : Cur w C F st) {ad : Option Addr} {n c : Nat} (hw : WroteTo C 78 #[.slice ad n c, badV st'.bad] w w') (hn : st'.bad ≠ 0 → st'.xs = []) (hl : st'.xs.length ≤ st.xs.length)
    (ht : TxtAt w (.slice ad n c) st'.xs) (hc : n ≤ c) (hp : ∀ p, ad = some p → p.block ≠ C ∧ F p.block ∧ p.block < w.heap.size) : Cur w' C F st' ∧ Fr (fun j => j = C) w w' :=
  ⟨⟨h.mem, hn, Nat.le_trans hl h.fits, ad, n, c, hw.there, ht.of_blocks fun p e _ => hw.rest _ (hp p e).1, hc, fun p e => ⟨(hp p e).1, (hp p e).2.1, by rw [hw.size]; exact (hp p e).2.2⟩⟩, ⟨hw.os, hw.tape, hw.output, Nat.le_of_eq hw.size.symm, fun j _ hj => hw.rest j hj⟩⟩

def failF (st : CS) (e : Int) : CS := if st.bad = 0 then ⟨[], e⟩ else st
theorem fail_cur {w : World} {C : Nat} {F : Nat → Prop} {st : CS} (h : Cur w C F st) (e : Int) (he : e ≠ 0) :
    Calls Tryd.prog 42 #[.pointer (some ⟨C, 0, none⟩), .int .i64 e] w fun r w' => r = .returned (.int .i64 0) ∧ Cur w' C F (failF st e) ∧ Fr (fun j => j = C) w w' := by
  obtain ⟨ad, n, c, hb, ht, hc, hp⟩ := h.at_
  unfold failF
  by_cases h0 : st.bad = 0
  · rw [if_pos h0]
    rw [h0, show badV 0 = .nilIface from rfl] at hb
    have c0 := cell_of_block (o := 0) hb rfl
    have c1 := cell_of_block (o := 1) hb rfl
    have f0 := free_of_block 0 hb
    have f1 := free_of_block 1 hb
    have H := Lib.hid h
    have HB := Lib.hid hb
    have HE := Lib.hid he
    clear ht hc hp h h0 hb he
    go_enter Tryd.func42, Tryd.ntmps42
    go_wp2
    go_ret
    refine ⟨rfl, H.out.wrote (st' := ⟨[], e⟩) (ad := none) (n := 0) (c := 0) ?_ (fun _ => rfl) (Nat.zero_le _) (.inr ⟨rfl, none, 0, rfl, fun _ => rfl⟩) (Nat.le_refl _) (fun p hp => by cases hp)⟩
    have := ((wrote_refl HB.out).set 1 (.iface 28 (.int .i64 e))).set 0 (.slice none 0 0)
    rw [show badV e = .iface 28 (.int .i64 e) from if_neg HE.out]
    simpa using this
  · rw [if_neg h0]
    rw [show badV st.bad = .iface 28 (.int .i64 st.bad) from if_neg h0] at hb
    have c1 := cell_of_block (o := 1) hb rfl
    have H := Lib.hid h
    clear ht hc hp h h0 hb
    go_enter Tryd.func42, Tryd.ntmps42
    go_wp2
    go_ret
    exact ⟨rfl, H.out, Fr.refl _ _⟩
theorem rest_cur {w : World} {C : Nat} {F : Nat → Prop} {st : CS} (h : Cur w C F st) :
    Calls Tryd.prog 24 #[.pointer (some ⟨C, 0, none⟩)] w fun r w' => r = .returned (.int .i64 (st.xs.length : Int)) ∧ w = w' := by
  obtain ⟨ad, n, c, hb, ht, hc, hp⟩ := h.at_
  have hn := ht.form.1
  by_cases h0 : st.bad = 0
  · rw [h0, show badV 0 = .nilIface from rfl] at hb
    have c0 := cell_of_block (o := 0) hb rfl
    have c1 := cell_of_block (o := 1) hb rfl
    subst hn
    generalize st.xs.length = n at *
    clear ht hc hp h h0 hb
    go_enter Tryd.func24, Tryd.ntmps24
    go_wp2
    go_ret
    exact ⟨rfl, rfl⟩
  · rw [show badV st.bad = .iface 28 (.int .i64 st.bad) from if_neg h0] at hb
    rw [h.none_ h0]
    have c1 := cell_of_block (o := 1) hb rfl
    clear ht hc hp h h0 hb hn
    go_enter Tryd.func24, Tryd.ntmps24
    go_wp2
    go_ret
    exact ⟨rfl, rfl⟩
theorem unfold_any {u : Nat} (hu : u < 18446744073709551616) (w : World) : Calls Tryd.prog 43 #[.int .u64 (u : Int)] w fun e w' => e = .returned (.int .i64 (unfoldF u)) ∧ w = w' := by
  have H := Lib.hid (unfold_bits hu)
  go_enter Tryd.func43, Tryd.ntmps43
  go_wp2
  go_ret
  rw [← H.out]
  exact ⟨rfl, rfl⟩
theorem fold_any {v : Int} (hv : -9223372036854775808 ≤ v ∧ v ≤ 9223372036854775807) (w : World) : Calls Tryd.prog 62 #[.int .i64 v] w fun e w' => e = .returned (.int .u64 (foldF v : Int)) ∧ w = w' := by
  have H := Lib.hid (fold_bits hv)
  clear hv
  go_enter Tryd.func62, Tryd.ntmps62
  go_wp2
  go_ret
  rw [← H.out]
  exact ⟨rfl, rfl⟩
theorem bad_cur {w : World} {C : Nat} {F : Nat → Prop} {st : CS} (h : Cur w C F st) (hE : ErrAt w) :
    Calls Tryd.prog 23 #[.pointer (some ⟨C, 0, none⟩)] w fun r w' => r = .returned (.int .i64 st.bad) ∧ Below w.heap.size w w' := by
  obtain ⟨ad, n, c, hb, ht, hc, hp⟩ := h.at_
  have hlt := h.lt
  have hA := below_alloc (Below.refl _ w) (.cells #[.int .i64 0] 28)
  by_cases h0 : st.bad = 0
  · rw [h0, show badV 0 = .nilIface from rfl] at hb
    have c1 : (w.alloc (.cells #[.int .i64 0] 28)).cell? ⟨C, 1, none⟩ = some .nilIface := (hA.cell (p := ⟨C, 1, none⟩) hlt).trans (cell_of_block (o := 1) hb rfl)
    rw [h0]
    have HA := Lib.hid hA
    clear ht hc hp h h0 hb hA hE hlt
    go_enter Tryd.func23, Tryd.ntmps23
    go_wp2_with (go_at_call 44; refine (as_nil _ _).mono ?_; rintro e w' ⟨rfl, rfl⟩)
    go_ret
    exact ⟨rfl, HA.out⟩
  · rw [show badV st.bad = .iface 28 (.int .i64 st.bad) from if_neg h0] at hb
    have c1 : (w.alloc (.cells #[.int .i64 0] 28)).cell? ⟨C, 1, none⟩ = some (.iface 28 (.int .i64 st.bad)) := (hA.cell (p := ⟨C, 1, none⟩) hlt).trans (cell_of_block (o := 1) hb rfl)
    generalize st.bad = e at *
    have HE : ErrAt (w.alloc (.cells #[.int .i64 0] 28)) := by
      unfold ErrAt at hE ⊢
      exact (hA.cell (p := ⟨_, 0, none⟩) (World.block_lt_of_cell? w _ hE)).trans hE
    have hN : (w.alloc (.cells #[.int .i64 0] 28)).heap[w.heap.size]? = some (.cells #[.int .i64 0] 28 (0, 0)) := World.alloc_heap_new w _
    have K := Lib.hid (as_hit e ⟨w.heap.size, 0, none⟩ (.int .i64 0) _ HE (cell_of_block (o := 0) hN rfl) (free_of_block 0 hN))
    have HA := Lib.hid hA
    clear ht hc hp h h0 hb hA hE hlt HE
    go_enter Tryd.func23, Tryd.ntmps23
    go_wp2_with fail
    refine K.out.mono ?_
    rintro r w' ⟨rfl, rfl⟩
    generalize hX : (w.alloc (.cells #[.int .i64 0] 28)) = W1 at *
    have hs : W1.heap.size = w.heap.size + 1 := by rw [← hX]; simp
    have hb1 := below_alloc (below_alloc (below_alloc (below_alloc (Below.refl _ W1) (.cells #[.pointer (some ⟨w.heap.size, 0, none⟩)] 82)) (.cells #[.pointer (some ⟨1, 82, none⟩), .pointer (some ⟨W1.heap.size, 0, none⟩), .int .u64 150] 94)) (.cells #[.pointer (some ⟨1, 82, none⟩), .pointer (some ⟨W1.heap.size, 0, none⟩), .int .u64 150] 94)) (.cells #[.int .i64 e] 28)
    generalize (((W1.alloc (.cells #[.pointer (some ⟨w.heap.size, 0, none⟩)] 82)).alloc (.cells #[.pointer (some ⟨1, 82, none⟩), .pointer (some ⟨W1.heap.size, 0, none⟩), .int .u64 150] 94)).alloc (.cells #[.pointer (some ⟨1, 82, none⟩), .pointer (some ⟨W1.heap.size, 0, none⟩), .int .u64 150] 94)).alloc (.cells #[.int .i64 e] 28) = W2 at *
    have hN2 : W2.heap[w.heap.size]? = some (.cells #[.int .i64 0] 28 (0, 0)) := (hb1.block _ (by omega)).trans hN
    have hw := (wrote_refl hN2).set 0 (.int .i64 e)
    have r0 : (W2.setCell ⟨w.heap.size, 0, none⟩ (.int .i64 e)).cell? ⟨w.heap.size, 0, none⟩ = some (.int .i64 e) := cell_of_block (o := 0) hw.there rfl
    have HF : Below w.heap.size w (W2.setCell ⟨w.heap.size, 0, none⟩ (.int .i64 e)) := by
      exact Below.setCell (below_next HA.out hb1) (show w.heap.size ≤ (⟨w.heap.size, 0, none⟩ : Addr).block from Nat.le_refl _) _
    have HF := Lib.hid HF
    generalize W2.setCell ⟨w.heap.size, 0, none⟩ (.int .i64 e) = W3 at *
    clear hw hN2 hb1 hs hN HA K c1 hX
    go_wp2
    go_ret
    exact ⟨rfl, HF.out⟩
end Go.Proofs.YtgeldpfojmkdbaaDoor
