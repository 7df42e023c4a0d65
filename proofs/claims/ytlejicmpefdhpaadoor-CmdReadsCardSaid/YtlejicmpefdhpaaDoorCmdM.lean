/- A command read off twelve numbers (layer 22). No condition. -/
import Derived.Test.YtlejicmpefdhpaaDoorCmdL
namespace Go.Proofs.YtlejicmpefdhpaaDoor
set_option linter.unusedVariables false
open Go.ChangeShapes Go.WideShapes Go.ChangeAt Go.RowKit
attribute [local go_sem ↓] Go.wp_at_zero Go.wp_at_succ comesTo_value_eq comesTo_skip_eq comesTo_enter_eq

set_option maxRecDepth 100000 in
set_option maxHeartbeats 300000 in
theorem cmdof12_any (x0 x1 x2 x3 x4 x5 x6 x7 x8 x9 x10 x11 : Int) (g : Bool) (hq : (x11 == 1) = g) (w : World) : Calls Tryd.prog 26 #[.agg #[.int .i64 x0, .int .i64 x1, .int .i64 x2, .int .i64 x3, .int .i64 x4, .int .i64 x5, .int .i64 x6, .int .i64 x7, .int .i64 x8, .int .i64 x9, .int .i64 x10, .int .i64 x11]] w fun e w' => e = .returned (.agg #[.int .i64 x0, .int .i64 x1, .int .i64 x2, .int .i64 x3, .int .i64 x4, .int .i64 x5, .int .i64 x6, .int .i64 x7, .int .i64 x8, .int .i64 x9, .int .i64 x10, .bool g]) ∧ Below w.heap.size w w' := by
  go_enter Tryd.func26, Tryd.ntmps26
  go_upto_region 1 with fail
  generalize hW : (w.alloc (.cells #[.int .i64 x0, .int .i64 x1, .int .i64 x2, .int .i64 x3, .int .i64 x4, .int .i64 x5, .int .i64 x6, .int .i64 x7, .int .i64 x8, .int .i64 x9, .int .i64 x10, .int .i64 x11] 55)).alloc (.cells #[.int .i64 0, .int .i64 0, .int .i64 0, .int .i64 0, .int .i64 0, .int .i64 0, .int .i64 0, .int .i64 0, .int .i64 0, .int .i64 0, .int .i64 0, .bool false] 24) = U
  have hC : U.heap[w.heap.size]? = some (.cells #[.int .i64 x0, .int .i64 x1, .int .i64 x2, .int .i64 x3, .int .i64 x4, .int .i64 x5, .int .i64 x6, .int .i64 x7, .int .i64 x8, .int .i64 x9, .int .i64 x10, .int .i64 x11] 55 (0, 0)) := by rw [← hW]; exact ((below_alloc (Below.refl _ _) _).block _ (by simp)).trans (World.alloc_heap_new w _)
  have hZ : U.heap[w.heap.size + 1]? = some (.cells #[.int .i64 0, .int .i64 0, .int .i64 0, .int .i64 0, .int .i64 0, .int .i64 0, .int .i64 0, .int .i64 0, .int .i64 0, .int .i64 0, .int .i64 0, .bool false] 24 (0, 0)) := by rw [← hW]; have := World.alloc_heap_new (w.alloc (.cells #[.int .i64 x0, .int .i64 x1, .int .i64 x2, .int .i64 x3, .int .i64 x4, .int .i64 x5, .int .i64 x6, .int .i64 x7, .int .i64 x8, .int .i64 x9, .int .i64 x10, .int .i64 x11] 55)) (.cells #[.int .i64 0, .int .i64 0, .int .i64 0, .int .i64 0, .int .i64 0, .int .i64 0, .int .i64 0, .int .i64 0, .int .i64 0, .int .i64 0, .int .i64 0, .bool false] 24); rwa [show (w.alloc (.cells #[.int .i64 x0, .int .i64 x1, .int .i64 x2, .int .i64 x3, .int .i64 x4, .int .i64 x5, .int .i64 x6, .int .i64 x7, .int .i64 x8, .int .i64 x9, .int .i64 x10, .int .i64 x11] 55)).heap.size = w.heap.size + 1 by simp] at this
  have HB := Lib.hid (show Below w.heap.size w U by rw [← hW]; exact (by repeat (first | exact Below.refl _ _ | assumption | refine below_drewN ?_ _ | refine Below.drew ?_ | refine below_alloc ?_ _ | refine Below.alloc ?_ (by first | omega | (simp; done) | (simp; omega)) _ | refine Below.setCell ?_ (Below.size (by assumption)) _ | refine Below.setCell ?_ (by first | omega | (simp; done) | (simp; omega)) _ | (refine Below.trans ?_ (Below.mono (by assumption) (by first | omega | (simp; done) | (simp; omega)))) | refine below_next ?_ (by assumption))))
  clear hW
  have c0 := cell_of_block (o := 0) hC rfl
  have c1 := cell_of_block (o := 1) hC rfl
  have c2 := cell_of_block (o := 2) hC rfl
  have c3 := cell_of_block (o := 3) hC rfl
  have c4 := cell_of_block (o := 4) hC rfl
  have c5 := cell_of_block (o := 5) hC rfl
  have c6 := cell_of_block (o := 6) hC rfl
  have c7 := cell_of_block (o := 7) hC rfl
  have c8 := cell_of_block (o := 8) hC rfl
  have c9 := cell_of_block (o := 9) hC rfl
  have c10 := cell_of_block (o := 10) hC rfl
  have c11 := cell_of_block (o := 11) hC rfl
  have HZ := Lib.hid hZ
  clear hZ hC
  refine wp_region_lit ?_
  refine wpList_yield (w' := U) (v := .pointer (some ⟨w.heap.size, 0, none⟩)) rfl (by first | (go_simp; done) | (go_simp; rfl)) ?_
  refine wpList_yield (w' := U) (v := .int .i64 x0) rfl (by first | (go_simp; done) | (go_simp; rfl)) ?_
  refine wpList_yield (w' := U) (v := .pointer (some ⟨w.heap.size, 1, none⟩)) rfl (by first | (go_simp; done) | (go_simp; rfl)) ?_
  refine wpList_yield (w' := U) (v := .int .i64 x1) rfl (by first | (go_simp; done) | (go_simp; rfl)) ?_
  refine wpList_yield (w' := U) (v := .pointer (some ⟨w.heap.size, 2, none⟩)) rfl (by first | (go_simp; done) | (go_simp; rfl)) ?_
  refine wpList_yield (w' := U) (v := .int .i64 x2) rfl (by first | (go_simp; done) | (go_simp; rfl)) ?_
  refine wpList_yield (w' := U) (v := .pointer (some ⟨w.heap.size, 3, none⟩)) rfl (by first | (go_simp; done) | (go_simp; rfl)) ?_
  refine wpList_yield (w' := U) (v := .int .i64 x3) rfl (by first | (go_simp; done) | (go_simp; rfl)) ?_
  refine wpList_yield (w' := U) (v := .pointer (some ⟨w.heap.size, 4, none⟩)) rfl (by first | (go_simp; done) | (go_simp; rfl)) ?_
  refine wpList_yield (w' := U) (v := .int .i64 x4) rfl (by first | (go_simp; done) | (go_simp; rfl)) ?_
  refine wpList_yield (w' := U) (v := .pointer (some ⟨w.heap.size, 5, none⟩)) rfl (by first | (go_simp; done) | (go_simp; rfl)) ?_
  refine wpList_yield (w' := U) (v := .int .i64 x5) rfl (by first | (go_simp; done) | (go_simp; rfl)) ?_
  refine wpList_yield (w' := U) (v := .pointer (some ⟨w.heap.size, 6, none⟩)) rfl (by first | (go_simp; done) | (go_simp; rfl)) ?_
  refine wpList_yield (w' := U) (v := .int .i64 x6) rfl (by first | (go_simp; done) | (go_simp; rfl)) ?_
  refine wpList_yield (w' := U) (v := .pointer (some ⟨w.heap.size, 7, none⟩)) rfl (by first | (go_simp; done) | (go_simp; rfl)) ?_
  refine wpList_yield (w' := U) (v := .int .i64 x7) rfl (by first | (go_simp; done) | (go_simp; rfl)) ?_
  refine wpList_yield (w' := U) (v := .pointer (some ⟨w.heap.size, 8, none⟩)) rfl (by first | (go_simp; done) | (go_simp; rfl)) ?_
  refine wpList_yield (w' := U) (v := .int .i64 x8) rfl (by first | (go_simp; done) | (go_simp; rfl)) ?_
  refine wpList_yield (w' := U) (v := .pointer (some ⟨w.heap.size, 9, none⟩)) rfl (by first | (go_simp; done) | (go_simp; rfl)) ?_
  refine wpList_yield (w' := U) (v := .int .i64 x9) rfl (by first | (go_simp; done) | (go_simp; rfl)) ?_
  refine wpList_yield (w' := U) (v := .pointer (some ⟨w.heap.size, 10, none⟩)) rfl (by first | (go_simp; done) | (go_simp; rfl)) ?_
  refine wpList_yield (w' := U) (v := .int .i64 x10) rfl (by first | (go_simp; done) | (go_simp; rfl)) ?_
  refine wpList_yield (w' := U) (v := .pointer (some ⟨w.heap.size, 11, none⟩)) rfl (by first | (go_simp; done) | (go_simp; rfl)) ?_
  refine wpList_yield (w' := U) (v := .int .i64 x11) rfl (by first | (go_simp; done) | (go_simp; rfl)) ?_
  refine wpList_yield (w' := U) (v := .bool g) rfl (by first | (go_simp; done) | (go_simp; rfl)) ?_
  refine wpList_yield (w' := U) (v := .agg #[.int .i64 x0, .int .i64 x1, .int .i64 x2, .int .i64 x3, .int .i64 x4, .int .i64 x5, .int .i64 x6, .int .i64 x7, .int .i64 x8, .int .i64 x9, .int .i64 x10, .bool g]) rfl (by first | (go_simp; done) | (go_simp; rfl)) ?_
  clear c0 c1 c2 c3 c4 c5 c6 c7 c8 c9 c10 c11
  refine wpList_store_all rfl 24 _ _ rfl (w.heap.size + 1) (cs := #[.int .i64 0, .int .i64 0, .int .i64 0, .int .i64 0, .int .i64 0, .int .i64 0, .int .i64 0, .int .i64 0, .int .i64 0, .int .i64 0, .int .i64 0, .bool false]) (T := 24) [.int .i64 x0, .int .i64 x1, .int .i64 x2, .int .i64 x3, .int .i64 x4, .int .i64 x5, .int .i64 x6, .int .i64 x7, .int .i64 x8, .int .i64 x9, .int .i64 x10, .bool g] (by go_simp) (by go_simp) HZ.out rfl (by kernel_rfl) rfl ?_
  intro V hV
  have HV := Lib.hid hV
  have HB4 := Lib.hid (hV.below HB.out (by omega))
  clear hV
  go_wp2_with fail
  exact bodyPost_ret (results_all [.int .i64 x0, .int .i64 x1, .int .i64 x2, .int .i64 x3, .int .i64 x4, .int .i64 x5, .int .i64 x6, .int .i64 x7, .int .i64 x8, .int .i64 x9, .int .i64 x10, .bool g] _ Tryd.results26 (by go_simp) HV.out.there Tryd.underlying24 rfl (by kernel_rfl)) rfl ⟨rfl, HB4.out⟩
end Go.Proofs.YtlejicmpefdhpaaDoor
