/- A job's smaller contracts (layer 15): Over, Until, late, end at any job. No condition but that its numbers fit their kinds. -/
import Derived.Test.YtgeldpfojmkdbaaJd
namespace Go.Proofs.Ytgeldpfojmkdbaa
set_option linter.unusedVariables false
open Go.ChangeShapes Go.WideShapes Go.ChangeAt Go.RowKit
attribute [local go_sem ↓] Go.wp_at_zero Go.wp_at_succ comesTo_value_eq comesTo_skip_eq comesTo_enter_eq Rl.comesToR_value_eq Rl.comesToR_skip_eq Rl.comesToR_enter_eq

set_option maxRecDepth 100000 in
set_option maxHeartbeats 4000000 in
theorem over_any (j : JobV) (w : World) : Calls Try.prog 13 #[.agg (jobC j).toArray] w fun e w' => e = .returned (.bool (overB j)) ∧ Below w.heap.size w w' := by
  have E := Lib.hid (show inI j.state 2 5 = overB j from rfl)
  have hmx : Try.prog.follows .mixedOrders = true := by kernel_rfl
  have HLEN := Lib.hid (jobC_len j)
  have k8 : (jobC j).toArray[8]? = some (.int .i64 j.state) := rfl
  generalize hl : jobC j = l at *
  clear hl
  go_enter Try.func13, Try.ntmps13
  go_upto_region 1 with fail
  have hC := World.alloc_heap_new w (.cells l.toArray 26)
  have HB := Lib.hid (below_alloc (Below.refl _ w) (.cells l.toArray 26))
  have l0 : w.heap.size < (w.alloc (.cells l.toArray 26)).heap.size := by simp
  generalize w.alloc (.cells l.toArray 26) = U at *
  have c8 := cell_of_block (o := 8) hC k8
  have HC := Lib.hid hC
  have L0 := Lib.hid l0
  have HK8 := Lib.hid k8
  clear hC k8
  go_wp2_with (go_at_call 15; refine (within_any _ _ _ _).mono ?_; rintro e w' ⟨rfl, rfl⟩)
  go_ret
  exact ⟨by rw [← E.out]; rfl, HB.out⟩
theorem over_is {j : JobV} {b : Bool} (h : overB j = b) (w : World) : Calls Try.prog 13 #[.agg (jobC j).toArray] w fun e w' => e = .returned (.bool b) ∧ Below w.heap.size w w' := h ▸ over_any j w
set_option maxRecDepth 100000 in
set_option maxHeartbeats 4000000 in
theorem until_any (j : JobV) (w : World) : Calls Try.prog 32 #[.agg (jobC j).toArray] w fun e w' => e = .returned (.int .i64 (untilJ j)) ∧ Below w.heap.size w w' := by
  have hs : (j.state == 1) = true ∨ (j.state == 1) = false := by cases (j.state == 1); exact .inr rfl; exact .inl rfl
  have hmx : Try.prog.follows .mixedOrders = true := by kernel_rfl
  have HLEN := Lib.hid (jobC_len j)
  have k4 : (jobC j).toArray[4]? = some (.int .i64 j.limit) := rfl
  have k8 : (jobC j).toArray[8]? = some (.int .i64 j.state) := rfl
  have k15 : (jobC j).toArray[15]? = some (.int .i64 j.start) := rfl
  generalize hl : jobC j = l at *
  clear hl
  go_enter Try.func32, Try.ntmps32
  go_upto_region 1 with fail
  have hC := World.alloc_heap_new w (.cells l.toArray 26)
  have HB := Lib.hid (below_alloc (Below.refl _ w) (.cells l.toArray 26))
  have l0 : w.heap.size < (w.alloc (.cells l.toArray 26)).heap.size := by simp
  generalize w.alloc (.cells l.toArray 26) = U at *
  have c4 := cell_of_block (o := 4) hC k4
  have c8 := cell_of_block (o := 8) hC k8
  have c15 := cell_of_block (o := 15) hC k15
  have HC := Lib.hid hC
  have L0 := Lib.hid l0
  have HK4 := Lib.hid k4
  have HK8 := Lib.hid k8
  have HK15 := Lib.hid k15
  clear hC k4 k8 k15
  rcases hs with hs | hs
  · have E := Lib.hid (show untilJ j = addI j.start j.limit by unfold untilJ; rw [hs]; rfl)
    go_wp2_with (go_at_call 38; refine (add_any _ _ _).mono ?_; rintro e w' ⟨rfl, rfl⟩)
    go_ret
    exact ⟨by rw [E.out]; rfl, HB.out⟩
  · have E := Lib.hid (show untilJ j = 0 by unfold untilJ; rw [hs]; rfl)
    go_wp2
    go_ret
    exact ⟨by rw [E.out]; rfl, HB.out⟩
set_option maxRecDepth 100000 in
set_option maxHeartbeats 4000000 in
theorem late_any (j : JobV) (now : Int) (w : World) : Calls Try.prog 22 #[.agg (jobC j).toArray, .int .i64 now] w fun e w' => e = .returned (.bool (lateB j now)) ∧ Below w.heap.size w w' := by
  have hs : (j.state == 1) = true ∨ (j.state == 1) = false := by cases (j.state == 1); exact .inr rfl; exact .inl rfl
  have hmx : Try.prog.follows .mixedOrders = true := by kernel_rfl
  have HLEN := Lib.hid (jobC_len j)
  have k8 : (jobC j).toArray[8]? = some (.int .i64 j.state) := rfl
  have k15 : (jobC j).toArray[15]? = some (.int .i64 j.start) := rfl
  generalize hl : jobC j = l at *
  clear hl
  go_enter Try.func22, Try.ntmps22
  go_upto_region 1 with fail
  have hC := World.alloc_heap_new w (.cells l.toArray 26)
  have HB := Lib.hid (below_alloc (Below.refl _ w) (.cells l.toArray 26))
  have l0 : w.heap.size < (w.alloc (.cells l.toArray 26)).heap.size := by simp
  generalize w.alloc (.cells l.toArray 26) = U at *
  have c8 := cell_of_block (o := 8) hC k8
  have c15 := cell_of_block (o := 15) hC k15
  have HC := Lib.hid hC
  have L0 := Lib.hid l0
  have HK8 := Lib.hid k8
  have HK15 := Lib.hid k15
  clear hC k8 k15
  cases ht : timeB now with
  | false =>
    have E := Lib.hid (show lateB j now = true by unfold lateB; rw [ht]; rfl)
    go_wp2_with (go_at_call 16; ((with_reducible refine (istime_is (by assumption) _).mono ?_)); rintro e w' ⟨rfl, rfl⟩)
    go_ret
    exact ⟨by rw [E.out]; rfl, HB.out⟩
  | true =>
    rcases hs with hs | hs
    · have E := Lib.hid (show lateB j now = decide (now < j.start) by unfold lateB; rw [ht, hs]; rfl)
      go_wp2_with (go_at_call 16; ((with_reducible refine (istime_is (by assumption) _).mono ?_)); rintro e w' ⟨rfl, rfl⟩)
      go_ret
      exact ⟨by rw [E.out]; rfl, HB.out⟩
    · have E := Lib.hid (show lateB j now = false by unfold lateB; rw [ht, hs]; rfl)
      go_wp2_with (go_at_call 16; ((with_reducible refine (istime_is (by assumption) _).mono ?_)); rintro e w' ⟨rfl, rfl⟩)
      go_ret
      exact ⟨by rw [E.out]; rfl, HB.out⟩
theorem late_is {j : JobV} {now : Int} {b : Bool} (h : lateB j now = b) (w : World) : Calls Try.prog 22 #[.agg (jobC j).toArray, .int .i64 now] w fun e w' => e = .returned (.bool b) ∧ Below w.heap.size w w' := h ▸ late_any j now w
set_option maxRecDepth 100000 in
set_option maxHeartbeats 4000000 in
theorem end_wait (j : JobV) (now how : Int) (hs : j.state = 0) (w : World) : Calls Try.prog 23 #[.agg (jobC j).toArray, .int .i64 now, .int .i64 how] w fun e w' => e = .returned (.agg (jobC (endJ j now how)).toArray) ∧ Below w.heap.size w w' := by
  have he : endJ j now how = { j with start := now, tries := 0, state := how, fin := now } := by unfold endJ; rw [hs]; rfl
  rw [he]
  clear he
  have HSET := Lib.hid (show (((((jobC j).toArray).setIfInBounds 15 (.int .i64 now)).setIfInBounds 12 (.int .i64 0)).setIfInBounds 8 (.int .i64 how)).setIfInBounds 16 (.int .i64 now) = (jobC ({ j with start := now, tries := 0, state := how, fin := now })).toArray from rfl)
  have HLEN' := Lib.hid (jobC_len ({ j with start := now, tries := 0, state := how, fin := now }))
  have HONE' := Lib.hid (jobC_one ({ j with start := now, tries := 0, state := how, fin := now }))
  have HLEN := Lib.hid (jobC_len j)
  have k8 : (jobC j).toArray[8]? = some (.int .i64 j.state) := rfl
  have k15 : (jobC j).toArray[15]? = some (.int .i64 j.start) := rfl
  have k12 : (jobC j).toArray[12]? = some (.int .i64 j.tries) := rfl
  have k16 : (jobC j).toArray[16]? = some (.int .i64 j.fin) := rfl
  generalize hl' : jobC ({ j with start := now, tries := 0, state := how, fin := now }) = l' at *
  clear hl'
  generalize hl : jobC j = l at *
  clear hl
  go_enter Try.func23, Try.ntmps23
  go_upto_region 1 with fail
  generalize hU : (w.alloc (.cells l.toArray 26)).alloc (.cells #[.int .i64 0, .int .i64 0, .int .i64 0, .int .i64 0, .int .i64 0, .int .i64 0, .int .i64 0, .bool false, .int .i64 0, .int .i64 0, .int .i64 0, .int .i64 0, .int .i64 0, .int .u64 0, .int .u64 0, .int .i64 0, .int .i64 0] 26) = U
  have hC : U.heap[w.heap.size]? = some (.cells l.toArray 26 (0, 0)) := by rw [← hU]; exact ((below_alloc (Below.refl _ _) _).block _ (by simp)).trans (World.alloc_heap_new w _)
  have hZ : U.heap[w.heap.size + 1]? = some (.cells #[.int .i64 0, .int .i64 0, .int .i64 0, .int .i64 0, .int .i64 0, .int .i64 0, .int .i64 0, .bool false, .int .i64 0, .int .i64 0, .int .i64 0, .int .i64 0, .int .i64 0, .int .u64 0, .int .u64 0, .int .i64 0, .int .i64 0] 26 (0, 0)) := by
    rw [← hU]
    have := World.alloc_heap_new (w.alloc (.cells l.toArray 26)) (.cells #[.int .i64 0, .int .i64 0, .int .i64 0, .int .i64 0, .int .i64 0, .int .i64 0, .int .i64 0, .bool false, .int .i64 0, .int .i64 0, .int .i64 0, .int .i64 0, .int .i64 0, .int .u64 0, .int .u64 0, .int .i64 0, .int .i64 0] 26)
    rwa [show (w.alloc (.cells l.toArray 26)).heap.size = w.heap.size + 1 by simp] at this
  have HB := Lib.hid (show Below w.heap.size w U by rw [← hU]; exact (by repeat (first | exact Below.refl _ _ | assumption | refine below_drewN ?_ _ | refine Below.drew ?_ | refine below_alloc ?_ _ | refine Below.alloc ?_ (by first | omega | (simp; done) | (simp; omega)) _ | refine Below.setCell ?_ (Below.size (by assumption)) _ | refine Below.setCell ?_ (by first | omega | (simp; done) | (simp; omega)) _ | (refine Below.trans ?_ (Below.mono (by assumption) (by first | omega | (simp; done) | (simp; omega)))) | refine below_next ?_ (by assumption))))
  have HS := Lib.hid (show U.heap.size = w.heap.size + 2 by rw [← hU]; simp)
  clear hU
  have HC := Lib.hid hC
  have HZ := Lib.hid hZ
  clear hC hZ
  have HK8 := Lib.hid k8
  have HK15 := Lib.hid k15
  have HK12 := Lib.hid k12
  have HK16 := Lib.hid k16
  clear k8 k15 k12 k16
  have c8 := cell_of_block (o := 8) HC.out HK8.out
  have c15 := cell_of_block (o := 15) HC.out HK15.out
  have c12 := cell_of_block (o := 12) HC.out HK12.out
  have c16 := cell_of_block (o := 16) HC.out HK16.out
  have f15 := free_of_block 15 HC.out
  have f12 := free_of_block 12 HC.out
  have f8 := free_of_block 8 HC.out
  have f16 := free_of_block 16 HC.out
  rw [hs] at c8
  clear hs
  go_upto_region 6 with fail
  have hW := ((((wrote_refl HC.out).set 15 (.int .i64 now)).set 12 (.int .i64 0)).set 8 (.int .i64 how)).set 16 (.int .i64 now)
  rw [HSET.out] at hW
  have HV := Lib.hid hW.there
  have HZV := Lib.hid ((hW.rest (w.heap.size + 1) (by omega)).trans HZ.out)
  have HBV := Lib.hid (hW.below HB.out (Nat.le_refl _))
  clear hW c8 c15 c12 c16 f15 f12 f8 f16
  generalize ((((U).setCell ⟨w.heap.size, 15, none⟩ (.int .i64 now)).setCell ⟨w.heap.size, 12, none⟩ (.int .i64 0)).setCell ⟨w.heap.size, 8, none⟩ (.int .i64 how)).setCell ⟨w.heap.size, 16, none⟩ (.int .i64 now) = V at *
  refine wp_region_lit ?_
  refine wpList_load_all rfl 26 _ rfl (w.heap.size) l' _ (by go_simp) HV.out Try.underlying26 rfl (by rw [HLEN'.out]; kernel_rfl) ?_
  refine wpList_store_all rfl 26 _ _ rfl (w.heap.size + 1) (T := 26) l' (by go_simp) (by go_simp) HZV.out (by rw [HLEN'.out]; rfl) (by rw [HLEN'.out]; kernel_rfl) HONE'.out ?_
  intro w9 hw9
  have HW9 := Lib.hid hw9.there
  have HB9 := Lib.hid (hw9.below HBV.out (by omega))
  clear hw9
  go_wp2_with fail
  exact bodyPost_ret (results_all l' _ Try.results23 (by go_simp) HW9.out Try.underlying26 rfl (by rw [HLEN'.out]; kernel_rfl)) rfl ⟨rfl, HB9.out⟩
set_option maxRecDepth 100000 in
set_option maxHeartbeats 4000000 in
theorem end_run (j : JobV) (now how : Int) (hs : j.state = 1) (w : World) : Calls Try.prog 23 #[.agg (jobC j).toArray, .int .i64 now, .int .i64 how] w fun e w' => e = .returned (.agg (jobC (endJ j now how)).toArray) ∧ Below w.heap.size w w' := by
  have he : endJ j now how = { j with state := how, fin := now } := by unfold endJ; rw [hs]; rfl
  rw [he]
  clear he
  have HSET := Lib.hid (show (((jobC j).toArray).setIfInBounds 8 (.int .i64 how)).setIfInBounds 16 (.int .i64 now) = (jobC ({ j with state := how, fin := now })).toArray from rfl)
  have HLEN' := Lib.hid (jobC_len ({ j with state := how, fin := now }))
  have HONE' := Lib.hid (jobC_one ({ j with state := how, fin := now }))
  have HLEN := Lib.hid (jobC_len j)
  have k8 : (jobC j).toArray[8]? = some (.int .i64 j.state) := rfl
  have k16 : (jobC j).toArray[16]? = some (.int .i64 j.fin) := rfl
  generalize hl' : jobC ({ j with state := how, fin := now }) = l' at *
  clear hl'
  generalize hl : jobC j = l at *
  clear hl
  go_enter Try.func23, Try.ntmps23
  go_upto_region 1 with fail
  generalize hU : (w.alloc (.cells l.toArray 26)).alloc (.cells #[.int .i64 0, .int .i64 0, .int .i64 0, .int .i64 0, .int .i64 0, .int .i64 0, .int .i64 0, .bool false, .int .i64 0, .int .i64 0, .int .i64 0, .int .i64 0, .int .i64 0, .int .u64 0, .int .u64 0, .int .i64 0, .int .i64 0] 26) = U
  have hC : U.heap[w.heap.size]? = some (.cells l.toArray 26 (0, 0)) := by rw [← hU]; exact ((below_alloc (Below.refl _ _) _).block _ (by simp)).trans (World.alloc_heap_new w _)
  have hZ : U.heap[w.heap.size + 1]? = some (.cells #[.int .i64 0, .int .i64 0, .int .i64 0, .int .i64 0, .int .i64 0, .int .i64 0, .int .i64 0, .bool false, .int .i64 0, .int .i64 0, .int .i64 0, .int .i64 0, .int .i64 0, .int .u64 0, .int .u64 0, .int .i64 0, .int .i64 0] 26 (0, 0)) := by
    rw [← hU]
    have := World.alloc_heap_new (w.alloc (.cells l.toArray 26)) (.cells #[.int .i64 0, .int .i64 0, .int .i64 0, .int .i64 0, .int .i64 0, .int .i64 0, .int .i64 0, .bool false, .int .i64 0, .int .i64 0, .int .i64 0, .int .i64 0, .int .i64 0, .int .u64 0, .int .u64 0, .int .i64 0, .int .i64 0] 26)
    rwa [show (w.alloc (.cells l.toArray 26)).heap.size = w.heap.size + 1 by simp] at this
  have HB := Lib.hid (show Below w.heap.size w U by rw [← hU]; exact (by repeat (first | exact Below.refl _ _ | assumption | refine below_drewN ?_ _ | refine Below.drew ?_ | refine below_alloc ?_ _ | refine Below.alloc ?_ (by first | omega | (simp; done) | (simp; omega)) _ | refine Below.setCell ?_ (Below.size (by assumption)) _ | refine Below.setCell ?_ (by first | omega | (simp; done) | (simp; omega)) _ | (refine Below.trans ?_ (Below.mono (by assumption) (by first | omega | (simp; done) | (simp; omega)))) | refine below_next ?_ (by assumption))))
  have HS := Lib.hid (show U.heap.size = w.heap.size + 2 by rw [← hU]; simp)
  clear hU
  have HC := Lib.hid hC
  have HZ := Lib.hid hZ
  clear hC hZ
  have HK8 := Lib.hid k8
  have HK16 := Lib.hid k16
  clear k8 k16
  have c8 := cell_of_block (o := 8) HC.out HK8.out
  have c16 := cell_of_block (o := 16) HC.out HK16.out
  have f8 := free_of_block 8 HC.out
  have f16 := free_of_block 16 HC.out
  rw [hs] at c8
  clear hs
  go_upto_region 6 with fail
  have hW := ((wrote_refl HC.out).set 8 (.int .i64 how)).set 16 (.int .i64 now)
  rw [HSET.out] at hW
  have HV := Lib.hid hW.there
  have HZV := Lib.hid ((hW.rest (w.heap.size + 1) (by omega)).trans HZ.out)
  have HBV := Lib.hid (hW.below HB.out (Nat.le_refl _))
  clear hW c8 c16 f8 f16
  generalize ((U).setCell ⟨w.heap.size, 8, none⟩ (.int .i64 how)).setCell ⟨w.heap.size, 16, none⟩ (.int .i64 now) = V at *
  refine wp_region_lit ?_
  refine wpList_load_all rfl 26 _ rfl (w.heap.size) l' _ (by go_simp) HV.out Try.underlying26 rfl (by rw [HLEN'.out]; kernel_rfl) ?_
  refine wpList_store_all rfl 26 _ _ rfl (w.heap.size + 1) (T := 26) l' (by go_simp) (by go_simp) HZV.out (by rw [HLEN'.out]; rfl) (by rw [HLEN'.out]; kernel_rfl) HONE'.out ?_
  intro w9 hw9
  have HW9 := Lib.hid hw9.there
  have HB9 := Lib.hid (hw9.below HBV.out (by omega))
  clear hw9
  go_wp2_with fail
  exact bodyPost_ret (results_all l' _ Try.results23 (by go_simp) HW9.out Try.underlying26 rfl (by rw [HLEN'.out]; kernel_rfl)) rfl ⟨rfl, HB9.out⟩
set_option maxRecDepth 100000 in
set_option maxHeartbeats 4000000 in
theorem end_over (j : JobV) (now how : Int) (h0 : (j.state == 0) = false) (h1 : (j.state == 1) = false) (w : World) : Calls Try.prog 23 #[.agg (jobC j).toArray, .int .i64 now, .int .i64 how] w fun e w' => e = .returned (.agg (jobC (endJ j now how)).toArray) ∧ Below w.heap.size w w' := by
  have he : endJ j now how = j := by unfold endJ; rw [h0, h1]; rfl
  rw [he]
  clear he
  have HSET := Lib.hid (show (jobC j).toArray = (jobC (j)).toArray from rfl)
  have HLEN' := Lib.hid (jobC_len (j))
  have HONE' := Lib.hid (jobC_one (j))
  have HLEN := Lib.hid (jobC_len j)
  have k8 : (jobC j).toArray[8]? = some (.int .i64 j.state) := rfl
  generalize hl : jobC j = l at *
  clear hl
  go_enter Try.func23, Try.ntmps23
  go_upto_region 1 with fail
  generalize hU : (w.alloc (.cells l.toArray 26)).alloc (.cells #[.int .i64 0, .int .i64 0, .int .i64 0, .int .i64 0, .int .i64 0, .int .i64 0, .int .i64 0, .bool false, .int .i64 0, .int .i64 0, .int .i64 0, .int .i64 0, .int .i64 0, .int .u64 0, .int .u64 0, .int .i64 0, .int .i64 0] 26) = U
  have hC : U.heap[w.heap.size]? = some (.cells l.toArray 26 (0, 0)) := by rw [← hU]; exact ((below_alloc (Below.refl _ _) _).block _ (by simp)).trans (World.alloc_heap_new w _)
  have hZ : U.heap[w.heap.size + 1]? = some (.cells #[.int .i64 0, .int .i64 0, .int .i64 0, .int .i64 0, .int .i64 0, .int .i64 0, .int .i64 0, .bool false, .int .i64 0, .int .i64 0, .int .i64 0, .int .i64 0, .int .i64 0, .int .u64 0, .int .u64 0, .int .i64 0, .int .i64 0] 26 (0, 0)) := by
    rw [← hU]
    have := World.alloc_heap_new (w.alloc (.cells l.toArray 26)) (.cells #[.int .i64 0, .int .i64 0, .int .i64 0, .int .i64 0, .int .i64 0, .int .i64 0, .int .i64 0, .bool false, .int .i64 0, .int .i64 0, .int .i64 0, .int .i64 0, .int .i64 0, .int .u64 0, .int .u64 0, .int .i64 0, .int .i64 0] 26)
    rwa [show (w.alloc (.cells l.toArray 26)).heap.size = w.heap.size + 1 by simp] at this
  have HB := Lib.hid (show Below w.heap.size w U by rw [← hU]; exact (by repeat (first | exact Below.refl _ _ | assumption | refine below_drewN ?_ _ | refine Below.drew ?_ | refine below_alloc ?_ _ | refine Below.alloc ?_ (by first | omega | (simp; done) | (simp; omega)) _ | refine Below.setCell ?_ (Below.size (by assumption)) _ | refine Below.setCell ?_ (by first | omega | (simp; done) | (simp; omega)) _ | (refine Below.trans ?_ (Below.mono (by assumption) (by first | omega | (simp; done) | (simp; omega)))) | refine below_next ?_ (by assumption))))
  have HS := Lib.hid (show U.heap.size = w.heap.size + 2 by rw [← hU]; simp)
  clear hU
  have HC := Lib.hid hC
  have HZ := Lib.hid hZ
  clear hC hZ
  have HK8 := Lib.hid k8
  clear k8
  have HC2 := Lib.hid HC.out
  have c8 := cell_of_block (o := 8) HC.out HK8.out
  go_upto_region 6 with fail
  have HZV := Lib.hid HZ.out
  have HBV := Lib.hid HB.out
  clear c8
  refine wp_region_lit ?_
  refine wpList_load_all rfl 26 _ rfl (w.heap.size) l _ (by go_simp) HC.out Try.underlying26 rfl (by rw [HLEN.out]; kernel_rfl) ?_
  refine wpList_store_all rfl 26 _ _ rfl (w.heap.size + 1) (T := 26) l (by go_simp) (by go_simp) HZV.out (by rw [HLEN.out]; rfl) (by rw [HLEN.out]; kernel_rfl) HONE'.out ?_
  intro w9 hw9
  have HW9 := Lib.hid hw9.there
  have HB9 := Lib.hid (hw9.below HBV.out (by omega))
  clear hw9
  go_wp2_with fail
  exact bodyPost_ret (results_all l _ Try.results23 (by go_simp) HW9.out Try.underlying26 rfl (by rw [HLEN.out]; kernel_rfl)) rfl ⟨rfl, HB9.out⟩
theorem end_any (j : JobV) (now how : Int) (w : World) : Calls Try.prog 23 #[.agg (jobC j).toArray, .int .i64 now, .int .i64 how] w fun e w' => e = .returned (.agg (jobC (endJ j now how)).toArray) ∧ Below w.heap.size w w' := by
  by_cases h0 : j.state = 0
  · exact end_wait j now how h0 w
  · by_cases h1 : j.state = 1
    · exact end_run j now how h1 w
    · exact end_over j now how (by rw [beq_eq_false_iff_ne]; exact h0) (by rw [beq_eq_false_iff_ne]; exact h1) w
end Go.Proofs.Ytgeldpfojmkdbaa
