/- A command laid as twelve numbers, and read off them (layer 22). No condition. -/
import Derived.Test.YtlejicmpefdhpaaDoorMid
import Derived.Test.YtlejicmpefdhpaaDoorFr
namespace Go.Proofs.YtlejicmpefdhpaaDoor
set_option linter.unusedVariables false
open Go.ChangeShapes Go.WideShapes Go.ChangeAt Go.RowKit
attribute [local go_sem ↓] Go.wp_at_zero Go.wp_at_succ comesTo_value_eq comesTo_skip_eq comesTo_enter_eq

/-- whether one is held, as a number -/
def heldN (h : Bool) : Int := if h then 1 else 0
set_option maxRecDepth 100000 in
set_option maxHeartbeats 4000000 in
theorem laid_any (x0 x1 x2 x3 x4 x5 x6 x7 x8 x9 x10 : Int) (h : Bool) (w : World) : Calls Tryd.prog 24 #[.agg #[.int .i64 x0, .int .i64 x1, .int .i64 x2, .int .i64 x3, .int .i64 x4, .int .i64 x5, .int .i64 x6, .int .i64 x7, .int .i64 x8, .int .i64 x9, .int .i64 x10, .bool h]] w fun e w' => e = .returned (.agg #[.int .i64 x0, .int .i64 x1, .int .i64 x2, .int .i64 x3, .int .i64 x4, .int .i64 x5, .int .i64 x6, .int .i64 x7, .int .i64 x8, .int .i64 x9, .int .i64 x10, .int .i64 (heldN h)]) ∧ Below w.heap.size w w' := by
  go_enter Tryd.func24, Tryd.ntmps24
  go_upto_region 1 with fail
  generalize hW : (w.alloc (.cells #[.int .i64 x0, .int .i64 x1, .int .i64 x2, .int .i64 x3, .int .i64 x4, .int .i64 x5, .int .i64 x6, .int .i64 x7, .int .i64 x8, .int .i64 x9, .int .i64 x10, .bool h] 24)).alloc (.cells #[.int .i64 0, .int .i64 0, .int .i64 0, .int .i64 0, .int .i64 0, .int .i64 0, .int .i64 0, .int .i64 0, .int .i64 0, .int .i64 0, .int .i64 0, .int .i64 0] 55) = U
  have hC : U.heap[w.heap.size]? = some (.cells #[.int .i64 x0, .int .i64 x1, .int .i64 x2, .int .i64 x3, .int .i64 x4, .int .i64 x5, .int .i64 x6, .int .i64 x7, .int .i64 x8, .int .i64 x9, .int .i64 x10, .bool h] 24 (0, 0)) := by rw [← hW]; exact ((below_alloc (Below.refl _ _) _).block _ (by simp)).trans (World.alloc_heap_new w _)
  have hZ : U.heap[w.heap.size + 1]? = some (.cells #[.int .i64 0, .int .i64 0, .int .i64 0, .int .i64 0, .int .i64 0, .int .i64 0, .int .i64 0, .int .i64 0, .int .i64 0, .int .i64 0, .int .i64 0, .int .i64 0] 55 (0, 0)) := by rw [← hW]; have := World.alloc_heap_new (w.alloc (.cells #[.int .i64 x0, .int .i64 x1, .int .i64 x2, .int .i64 x3, .int .i64 x4, .int .i64 x5, .int .i64 x6, .int .i64 x7, .int .i64 x8, .int .i64 x9, .int .i64 x10, .bool h] 24)) (.cells #[.int .i64 0, .int .i64 0, .int .i64 0, .int .i64 0, .int .i64 0, .int .i64 0, .int .i64 0, .int .i64 0, .int .i64 0, .int .i64 0, .int .i64 0, .int .i64 0] 55); rwa [show (w.alloc (.cells #[.int .i64 x0, .int .i64 x1, .int .i64 x2, .int .i64 x3, .int .i64 x4, .int .i64 x5, .int .i64 x6, .int .i64 x7, .int .i64 x8, .int .i64 x9, .int .i64 x10, .bool h] 24)).heap.size = w.heap.size + 1 by simp] at this
  have HB := Lib.hid (show Below w.heap.size w U by rw [← hW]; exact (by repeat (first | exact Below.refl _ _ | assumption | refine below_drewN ?_ _ | refine Below.drew ?_ | refine below_alloc ?_ _ | refine Below.alloc ?_ (by first | omega | (simp; done) | (simp; omega)) _ | refine Below.setCell ?_ (Below.size (by assumption)) _ | refine Below.setCell ?_ (by first | omega | (simp; done) | (simp; omega)) _ | (refine Below.trans ?_ (Below.mono (by assumption) (by first | omega | (simp; done) | (simp; omega)))) | refine below_next ?_ (by assumption))))
  have hs : U.heap.size = w.heap.size + 2 := by rw [← hW]; simp
  clear hW
  have c0 := cell_of_block (o := 0) hC rfl
  have c1 := cell_of_block (o := 1) hC rfl
  have c2 := cell_of_block (o := 2) hC rfl
  have c3 := cell_of_block (o := 3) hC rfl
  have c4 := cell_of_block (o := 4) hC rfl
  have c5 := cell_of_block (o := 5) hC rfl
  have c6 := cell_of_block (o := 6) hC rfl
  have c7 := cell_of_block (o := 7) hC rfl
  have c8 := cell_of_block (o := 8) hC rfl
  have c9 := cell_of_block (o := 9) hC rfl
  have c10 := cell_of_block (o := 10) hC rfl
  have c11 := cell_of_block (o := 11) hC rfl
  have HC := Lib.hid hC
  have HZ := Lib.hid hZ
  have HS := Lib.hid hs
  clear hC hZ hs
  refine wp_region_lit ?_
  refine wpList_yield (w' := U) (v := .pointer (some ⟨w.heap.size, 0, none⟩)) rfl (by first | (go_simp; done) | (go_simp; rfl)) ?_
  refine wpList_yield (w' := U) (v := .int .i64 x0) rfl (by first | (go_simp; done) | (go_simp; rfl)) ?_
  refine wpList_yield (w' := U) (v := .pointer (some ⟨w.heap.size, 1, none⟩)) rfl (by first | (go_simp; done) | (go_simp; rfl)) ?_
  refine wpList_yield (w' := U) (v := .int .i64 x1) rfl (by first | (go_simp; done) | (go_simp; rfl)) ?_
  refine wpList_yield (w' := U) (v := .pointer (some ⟨w.heap.size, 2, none⟩)) rfl (by first | (go_simp; done) | (go_simp; rfl)) ?_
  refine wpList_yield (w' := U) (v := .int .i64 x2) rfl (by first | (go_simp; done) | (go_simp; rfl)) ?_
  refine wpList_yield (w' := U) (v := .pointer (some ⟨w.heap.size, 3, none⟩)) rfl (by first | (go_simp; done) | (go_simp; rfl)) ?_
  refine wpList_yield (w' := U) (v := .int .i64 x3) rfl (by first | (go_simp; done) | (go_simp; rfl)) ?_
  refine wpList_yield (w' := U) (v := .pointer (some ⟨w.heap.size, 4, none⟩)) rfl (by first | (go_simp; done) | (go_simp; rfl)) ?_
  refine wpList_yield (w' := U) (v := .int .i64 x4) rfl (by first | (go_simp; done) | (go_simp; rfl)) ?_
  refine wpList_yield (w' := U) (v := .pointer (some ⟨w.heap.size, 5, none⟩)) rfl (by first | (go_simp; done) | (go_simp; rfl)) ?_
  refine wpList_yield (w' := U) (v := .int .i64 x5) rfl (by first | (go_simp; done) | (go_simp; rfl)) ?_
  refine wpList_yield (w' := U) (v := .pointer (some ⟨w.heap.size, 6, none⟩)) rfl (by first | (go_simp; done) | (go_simp; rfl)) ?_
  refine wpList_yield (w' := U) (v := .int .i64 x6) rfl (by first | (go_simp; done) | (go_simp; rfl)) ?_
  refine wpList_yield (w' := U) (v := .pointer (some ⟨w.heap.size, 7, none⟩)) rfl (by first | (go_simp; done) | (go_simp; rfl)) ?_
  refine wpList_yield (w' := U) (v := .int .i64 x7) rfl (by first | (go_simp; done) | (go_simp; rfl)) ?_
  refine wpList_yield (w' := U) (v := .pointer (some ⟨w.heap.size, 8, none⟩)) rfl (by first | (go_simp; done) | (go_simp; rfl)) ?_
  refine wpList_yield (w' := U) (v := .int .i64 x8) rfl (by first | (go_simp; done) | (go_simp; rfl)) ?_
  refine wpList_yield (w' := U) (v := .pointer (some ⟨w.heap.size, 9, none⟩)) rfl (by first | (go_simp; done) | (go_simp; rfl)) ?_
  refine wpList_yield (w' := U) (v := .int .i64 x9) rfl (by first | (go_simp; done) | (go_simp; rfl)) ?_
  refine wpList_yield (w' := U) (v := .pointer (some ⟨w.heap.size, 10, none⟩)) rfl (by first | (go_simp; done) | (go_simp; rfl)) ?_
  refine wpList_yield (w' := U) (v := .int .i64 x10) rfl (by first | (go_simp; done) | (go_simp; rfl)) ?_
  refine wpList_yield (w' := U) (v := .agg #[.int .i64 x0, .int .i64 x1, .int .i64 x2, .int .i64 x3, .int .i64 x4, .int .i64 x5, .int .i64 x6, .int .i64 x7, .int .i64 x8, .int .i64 x9, .int .i64 x10, .int .i64 0]) rfl (by first | (go_simp; done) | (go_simp; rfl)) ?_
  refine wpList_yield (w' := U.alloc (.cells #[.int .i64 0, .int .i64 0, .int .i64 0, .int .i64 0, .int .i64 0, .int .i64 0, .int .i64 0, .int .i64 0, .int .i64 0, .int .i64 0, .int .i64 0, .int .i64 0] 55)) (v := .pointer (some ⟨U.heap.size, 0, none⟩)) rfl (by first | (go_simp; done) | (go_simp; rfl)) ?_
  refine wpList_store_all rfl 55 _ _ rfl U.heap.size (cs := #[.int .i64 0, .int .i64 0, .int .i64 0, .int .i64 0, .int .i64 0, .int .i64 0, .int .i64 0, .int .i64 0, .int .i64 0, .int .i64 0, .int .i64 0, .int .i64 0]) (T := 55) [.int .i64 x0, .int .i64 x1, .int .i64 x2, .int .i64 x3, .int .i64 x4, .int .i64 x5, .int .i64 x6, .int .i64 x7, .int .i64 x8, .int .i64 x9, .int .i64 x10, .int .i64 0] (by go_simp) (by go_simp) (World.alloc_heap_new _ _) rfl (by kernel_rfl) rfl ?_
  intro V hV
  have hb1 := below_alloc (Below.refl _ U) (.cells #[.int .i64 0, .int .i64 0, .int .i64 0, .int .i64 0, .int .i64 0, .int .i64 0, .int .i64 0, .int .i64 0, .int .i64 0, .int .i64 0, .int .i64 0, .int .i64 0] 55)
  have hb2 := hV.below hb1 (Nat.le_refl _)
  have HB2 := Lib.hid (below_next HB.out hb2)
  have HZ2 := Lib.hid ((hb2.block _ (by have := HS.out; omega)).trans HZ.out)
  have hC2 := (hb2.block _ (by have := HS.out; omega)).trans HC.out
  have d11 := cell_of_block (o := 11) hC2 rfl
  have hL := hV.there
  have HN := Lib.hid HS.out
  have HV := Lib.hid hV
  generalize U.heap.size = q at *
  clear c0 c1 c2 c3 c4 c5 c6 c7 c8 c9 c10 c11 HB HC HZ HS hb1 hb2 hC2
  clear hV
  have e11 := cell_of_block (o := 11) hL rfl
  have f11 := free_of_block 11 hL
  clear hL
  cases h with
  | false =>
    go_upto_region 4 with fail
    have HZ3 := HZ2
    refine wp_region_lit ?_
    refine wpList_load_all rfl 55 _ rfl q [.int .i64 x0, .int .i64 x1, .int .i64 x2, .int .i64 x3, .int .i64 x4, .int .i64 x5, .int .i64 x6, .int .i64 x7, .int .i64 x8, .int .i64 x9, .int .i64 x10, .int .i64 0] _ (by go_simp) HV.out.there Tryd.underlying55 rfl (by kernel_rfl) ?_
    refine wpList_store_all rfl 55 _ _ rfl (w.heap.size + 1) (cs := #[.int .i64 0, .int .i64 0, .int .i64 0, .int .i64 0, .int .i64 0, .int .i64 0, .int .i64 0, .int .i64 0, .int .i64 0, .int .i64 0, .int .i64 0, .int .i64 0]) (T := 55) [.int .i64 x0, .int .i64 x1, .int .i64 x2, .int .i64 x3, .int .i64 x4, .int .i64 x5, .int .i64 x6, .int .i64 x7, .int .i64 x8, .int .i64 x9, .int .i64 x10, .int .i64 0] (by go_simp) (by go_simp) HZ3.out rfl (by kernel_rfl) rfl ?_
    intro V4 hV4
    have HV4 := Lib.hid hV4
    have HB4 := Lib.hid (hV4.below HB2.out (by omega))
    clear hV4
    go_wp2_with fail
    exact bodyPost_ret (results_all [.int .i64 x0, .int .i64 x1, .int .i64 x2, .int .i64 x3, .int .i64 x4, .int .i64 x5, .int .i64 x6, .int .i64 x7, .int .i64 x8, .int .i64 x9, .int .i64 x10, .int .i64 0] _ Tryd.results24 rfl HV4.out.there Tryd.underlying55 rfl (by kernel_rfl)) rfl ⟨rfl, HB4.out⟩
  | true =>
    go_upto_region 4 with fail
    have hW4 := HV.out.set 11 (.int .i64 1)
    have hq : w.heap.size + 1 ≠ q := by have := HN.out; omega
    have HZ3 := Lib.hid (((Below.heap_setCell V ⟨q, 11, none⟩ (.int .i64 1) _ hq)).trans HZ2.out)
    have HB3 := Lib.hid (HB2.out.setCell (p := ⟨q, 11, none⟩) (by have := HN.out; show _ ≤ q; omega) (.int .i64 1))
    have HW := Lib.hid hW4.there
    generalize V.setCell ⟨q, 11, none⟩ (.int .i64 1) = V3 at *
    clear hW4
    refine wp_region_lit ?_
    refine wpList_load_all rfl 55 _ rfl q [.int .i64 x0, .int .i64 x1, .int .i64 x2, .int .i64 x3, .int .i64 x4, .int .i64 x5, .int .i64 x6, .int .i64 x7, .int .i64 x8, .int .i64 x9, .int .i64 x10, .int .i64 1] _ (by go_simp) HW.out Tryd.underlying55 rfl (by kernel_rfl) ?_
    refine wpList_store_all rfl 55 _ _ rfl (w.heap.size + 1) (cs := #[.int .i64 0, .int .i64 0, .int .i64 0, .int .i64 0, .int .i64 0, .int .i64 0, .int .i64 0, .int .i64 0, .int .i64 0, .int .i64 0, .int .i64 0, .int .i64 0]) (T := 55) [.int .i64 x0, .int .i64 x1, .int .i64 x2, .int .i64 x3, .int .i64 x4, .int .i64 x5, .int .i64 x6, .int .i64 x7, .int .i64 x8, .int .i64 x9, .int .i64 x10, .int .i64 1] (by go_simp) (by go_simp) HZ3.out rfl (by kernel_rfl) rfl ?_
    intro V4 hV4
    have HV4 := Lib.hid hV4
    have HB4 := Lib.hid (hV4.below HB3.out (by omega))
    clear hV4
    go_wp2_with fail
    exact bodyPost_ret (results_all [.int .i64 x0, .int .i64 x1, .int .i64 x2, .int .i64 x3, .int .i64 x4, .int .i64 x5, .int .i64 x6, .int .i64 x7, .int .i64 x8, .int .i64 x9, .int .i64 x10, .int .i64 1] _ Tryd.results24 rfl HV4.out.there Tryd.underlying55 rfl (by kernel_rfl)) rfl ⟨rfl, HB4.out⟩
end Go.Proofs.YtlejicmpefdhpaaDoor
