/- A job stops (layer 15, job), the known job. No condition but that job's numbers. -/
import Derived.Test.YtkllhnfnkgkelaaDoorJobC
import Derived.Deep.MidRow
namespace Go.Proofs.YtkllhnfnkgkelaaDoor
set_option linter.unusedVariables false
open Go.ChangeShapes Go.WideShapes Go.ChangeAt Go.RowKit
attribute [local go_sem ↓] Go.wp_at_zero Go.wp_at_succ comesTo_value_eq comesTo_skip_eq comesTo_enter_eq

set_option maxRecDepth 100000 in
set_option maxHeartbeats 4000000 in
theorem stop_k (w : World) : Calls Tryd.prog 56 #[.agg #[.int .i64 1, .int .i64 1, .int .i64 0, .int .i64 2, .int .i64 5, .int .i64 0, .int .i64 0, .bool false, .int .i64 1, .int .i64 0, .int .i64 3, .int .i64 0, .int .i64 1, .int .u64 0, .int .u64 (nv 17#64), .int .i64 3, .int .i64 0], .int .i64 7, .int .i64 2] w fun e w' => e = .returned (.tuple #[.agg #[.int .i64 1, .int .i64 1, .int .i64 0, .int .i64 2, .int .i64 5, .int .i64 0, .int .i64 0, .bool false, .int .i64 2, .int .i64 0, .int .i64 3, .int .i64 0, .int .i64 1, .int .u64 0, .int .u64 (nv 17#64), .int .i64 3, .int .i64 7], .int .i64 0]) ∧ Below w.heap.size w w' := by
  go_enter Tryd.func56, Tryd.ntmps56
  go_wp2_with fail
  generalize hW : (w.alloc (.cells #[.int .i64 1, .int .i64 1, .int .i64 0, .int .i64 2, .int .i64 5, .int .i64 0, .int .i64 0, .bool false, .int .i64 1, .int .i64 0, .int .i64 3, .int .i64 0, .int .i64 1, .int .u64 0, .int .u64 (nv 17#64), .int .i64 3, .int .i64 0] 75)).alloc (.cells #[.int .i64 0, .int .i64 0, .int .i64 0, .int .i64 0, .int .i64 0, .int .i64 0, .int .i64 0, .bool false, .int .i64 0, .int .i64 0, .int .i64 0, .int .i64 0, .int .i64 0, .int .u64 0, .int .u64 0, .int .i64 0, .int .i64 0] 75) = U
  have hJ : J17 U w.heap.size (.int .i64 1) (.int .i64 1) (.int .i64 0) (.int .i64 2) (.int .i64 5) (.int .i64 0) (.int .i64 0) (.bool false) (.int .i64 1) (.int .i64 0) (.int .i64 3) (.int .i64 0) (.int .i64 1) (.int .u64 0) (.int .u64 (nv 17#64)) (.int .i64 3) (.int .i64 0) := by rw [← hW]; exact J17.new ((blk_old _ _ _ (by simp)).trans (blk_new _ _ _))
  have hZ : J17 U (w.heap.size + 1) (.int .i64 0) (.int .i64 0) (.int .i64 0) (.int .i64 0) (.int .i64 0) (.int .i64 0) (.int .i64 0) (.bool false) (.int .i64 0) (.int .i64 0) (.int .i64 0) (.int .i64 0) (.int .i64 0) (.int .u64 0) (.int .u64 0) (.int .i64 0) (.int .i64 0) := by rw [← hW]; exact J17.new (by have := blk_new (w.alloc (.cells #[.int .i64 1, .int .i64 1, .int .i64 0, .int .i64 2, .int .i64 5, .int .i64 0, .int .i64 0, .bool false, .int .i64 1, .int .i64 0, .int .i64 3, .int .i64 0, .int .i64 1, .int .u64 0, .int .u64 (nv 17#64), .int .i64 3, .int .i64 0] 75)) #[.int .i64 0, .int .i64 0, .int .i64 0, .int .i64 0, .int .i64 0, .int .i64 0, .int .i64 0, .bool false, .int .i64 0, .int .i64 0, .int .i64 0, .int .i64 0, .int .i64 0, .int .u64 0, .int .u64 0, .int .i64 0, .int .i64 0] 75; simpa using this)
  have HB := Lib.hid (show Below w.heap.size w U by rw [← hW]; exact (by repeat (first | exact Below.refl _ _ | assumption | refine below_drewN ?_ _ | refine Below.drew ?_ | refine below_alloc ?_ _ | refine Below.alloc ?_ (by first | omega | (simp; done) | (simp; omega)) _ | refine Below.setCell ?_ (Below.size (by assumption)) _ | refine Below.setCell ?_ (by first | omega | (simp; done) | (simp; omega)) _ | (refine Below.trans ?_ (Below.mono (by assumption) (by first | omega | (simp; done) | (simp; omega)))) | refine below_next ?_ (by assumption))))
  clear hW
  have HJ := Lib.hid hJ
  have HZ := Lib.hid hZ
  clear hZ hJ
  refine (right_k _).mono ?_
  rintro e w2 ⟨rfl, hb2⟩
  have hJ := J17.below HJ.out hb2
  have hZ := J17.below HZ.out hb2
  have HB2 := Lib.hid (below_next HB.out hb2)
  clear hb2 HB HJ HZ
  have HJ := Lib.hid hJ
  have HZ := Lib.hid hZ
  clear hZ hJ
  go_wp2_with fail
  refine (within_yes _ _ _ (by decide) (by decide) _).mono ?_
  rintro e w' ⟨rfl, rfl⟩
  go_upto_region 5 with fail
  refine wp_region_lit ?_
  refine wpList_load_mid rfl 75 _ rfl w.heap.size 0 (by go_simp) [.int .i64 1, .int .i64 1, .int .i64 0, .int .i64 2, .int .i64 5, .int .i64 0, .int .i64 0, .bool false, .int .i64 1, .int .i64 0, .int .i64 3, .int .i64 0, .int .i64 1, .int .u64 0, .int .u64 (nv 17#64), .int .i64 3, .int .i64 0] _ (J17.range HJ.out) Tryd.underlying75 rfl (by kernel_rfl) ?_
  go_wp2_with fail
  refine (over_k _).mono ?_
  rintro e w3 ⟨rfl, hb3⟩
  have hJ := J17.below HJ.out hb3
  have hZ := J17.below HZ.out hb3
  have HB3 := Lib.hid (below_next HB2.out hb3)
  clear hb3 HB2 HJ HZ
  have HJ := Lib.hid hJ
  have HZ := Lib.hid hZ
  clear hZ hJ
  have d8 := HJ.out.c8
  go_upto_region 7 with fail
  clear d8
  refine wp_region_lit ?_
  refine wpList_load_mid rfl 75 _ rfl w.heap.size 0 (by go_simp) [.int .i64 1, .int .i64 1, .int .i64 0, .int .i64 2, .int .i64 5, .int .i64 0, .int .i64 0, .bool false, .int .i64 1, .int .i64 0, .int .i64 3, .int .i64 0, .int .i64 1, .int .u64 0, .int .u64 (nv 17#64), .int .i64 3, .int .i64 0] _ (J17.range HJ.out) Tryd.underlying75 rfl (by kernel_rfl) ?_
  go_wp2_with fail
  refine (late_k _).mono ?_
  rintro e w4 ⟨rfl, hb4⟩
  have hJ := J17.below HJ.out hb4
  have hZ := J17.below HZ.out hb4
  have HB4 := Lib.hid (below_next HB3.out hb4)
  clear hb4 HB3 HJ HZ
  have HJ := Lib.hid hJ
  have HZ := Lib.hid hZ
  clear hZ hJ
  go_upto_region 9 with fail
  refine wp_region_lit ?_
  refine wpList_load_mid rfl 75 _ rfl w.heap.size 0 (by go_simp) [.int .i64 1, .int .i64 1, .int .i64 0, .int .i64 2, .int .i64 5, .int .i64 0, .int .i64 0, .bool false, .int .i64 1, .int .i64 0, .int .i64 3, .int .i64 0, .int .i64 1, .int .u64 0, .int .u64 (nv 17#64), .int .i64 3, .int .i64 0] _ (J17.range HJ.out) Tryd.underlying75 rfl (by kernel_rfl) ?_
  go_wp2_with fail
  refine (end_k _).mono ?_
  rintro e w5 ⟨rfl, hb5⟩
  have hJ := J17.below HJ.out hb5
  have hZ := J17.below HZ.out hb5
  have HB5 := Lib.hid (below_next HB4.out hb5)
  clear hb5 HB4 HJ HZ
  have HJ := Lib.hid hJ
  have HZ := Lib.hid hZ
  clear hZ hJ
  have hZ := HZ.out
  clear HZ HJ
  rename_i hK
  refine hK _ _ ?_
  refine wpList_store_mid rfl 75 _ _ rfl (w.heap.size + 1) 0 #[.int .i64 1, .int .i64 1, .int .i64 0, .int .i64 2, .int .i64 5, .int .i64 0, .int .i64 0, .bool false, .int .i64 2, .int .i64 0, .int .i64 3, .int .i64 0, .int .i64 1, .int .u64 0, .int .u64 (nv 17#64), .int .i64 3, .int .i64 7] (by go_simp) (by go_simp) (J17.there hZ) (by kernel_rfl) (by first | kernel_rfl | (simp [Value.oneCell']; done)) ?_
  have hR : World.rangeAt (w5.setCells (w.heap.size + 1) 0 [.int .i64 1, .int .i64 1, .int .i64 0, .int .i64 2, .int .i64 5, .int .i64 0, .int .i64 0, .bool false, .int .i64 2, .int .i64 0, .int .i64 3, .int .i64 0, .int .i64 1, .int .u64 0, .int .u64 (nv 17#64), .int .i64 3, .int .i64 7]) (w.heap.size + 1) 0 [.int .i64 1, .int .i64 1, .int .i64 0, .int .i64 2, .int .i64 5, .int .i64 0, .int .i64 0, .bool false, .int .i64 2, .int .i64 0, .int .i64 3, .int .i64 0, .int .i64 1, .int .u64 0, .int .u64 (nv 17#64), .int .i64 3, .int .i64 7] := World.rangeAt_setCells_same _ _ _ _ (J17.there hZ)
  have hBP := Lib.hid (below_setCells (Nat.le_succ _) [.int .i64 1, .int .i64 1, .int .i64 0, .int .i64 2, .int .i64 5, .int .i64 0, .int .i64 0, .bool false, .int .i64 2, .int .i64 0, .int .i64 3, .int .i64 0, .int .i64 1, .int .u64 0, .int .u64 (nv 17#64), .int .i64 3, .int .i64 7] 0 _ HB5.out)
  change wpList _ _ _ _ _ (w5.setCells (w.heap.size + 1) 0 [.int .i64 1, .int .i64 1, .int .i64 0, .int .i64 2, .int .i64 5, .int .i64 0, .int .i64 0, .bool false, .int .i64 2, .int .i64 0, .int .i64 3, .int .i64 0, .int .i64 1, .int .u64 0, .int .u64 (nv 17#64), .int .i64 3, .int .i64 7])
  generalize w5.setCells (w.heap.size + 1) 0 [.int .i64 1, .int .i64 1, .int .i64 0, .int .i64 2, .int .i64 5, .int .i64 0, .int .i64 0, .bool false, .int .i64 2, .int .i64 0, .int .i64 3, .int .i64 0, .int .i64 1, .int .u64 0, .int .u64 (nv 17#64), .int .i64 3, .int .i64 7] = P at hR hBP ⊢
  clear hZ
  have hl := run_loadVar_mid (P := Tryd.prog) P (w.heap.size + 1) 0 75 [.int .i64 1, .int .i64 1, .int .i64 0, .int .i64 2, .int .i64 5, .int .i64 0, .int .i64 0, .bool false, .int .i64 2, .int .i64 0, .int .i64 3, .int .i64 0, .int .i64 1, .int .u64 0, .int .u64 (nv 17#64), .int .i64 3, .int .i64 7] _ hR Tryd.underlying75 rfl (by kernel_rfl)
  clear hR
  have HL := Lib.hid hl
  clear hl
  go_wp2_with fail
  exact bodyPost_ret (v := .tuple #[.agg #[.int .i64 1, .int .i64 1, .int .i64 0, .int .i64 2, .int .i64 5, .int .i64 0, .int .i64 0, .bool false, .int .i64 2, .int .i64 0, .int .i64 3, .int .i64 0, .int .i64 1, .int .u64 0, .int .u64 (nv 17#64), .int .i64 3, .int .i64 7], .int .i64 0]) (results_cell_tmp (by rw [Tryd.results56]) (by go_simp) (by go_simp) HL.out) rfl ⟨rfl, hBP.out⟩
end Go.Proofs.YtkllhnfnkgkelaaDoor
