/- A job begins (layer 15, job), the known job. No condition but that job's numbers. -/
import Derived.Test.YtkllhnfnkgkelaaDoorJobC
import Derived.Deep.MidRow
namespace Go.Proofs.YtkllhnfnkgkelaaDoor
set_option linter.unusedVariables false
open Go.ChangeShapes Go.WideShapes Go.ChangeAt Go.RowKit
attribute [local go_sem ↓] Go.wp_at_zero Go.wp_at_succ comesTo_value_eq comesTo_skip_eq comesTo_enter_eq

set_option maxRecDepth 100000 in
set_option maxHeartbeats 4000000 in
theorem begin_j (w : World) : Calls Tryd.prog 55 #[.agg #[.int .i64 1, .int .i64 1, .int .i64 0, .int .i64 2, .int .i64 5, .int .i64 0, .int .i64 0, .bool false, .int .i64 0, .int .i64 0, .int .i64 3, .int .i64 0, .int .i64 0, .int .u64 0, .int .u64 0, .int .i64 0, .int .i64 0], .int .i64 3, .int .u64 (nv 17#64)] w fun e w' => e = .returned (.tuple #[.agg #[.int .i64 1, .int .i64 1, .int .i64 0, .int .i64 2, .int .i64 5, .int .i64 0, .int .i64 0, .bool false, .int .i64 1, .int .i64 0, .int .i64 3, .int .i64 0, .int .i64 1, .int .u64 0, .int .u64 (nv 17#64), .int .i64 3, .int .i64 0], .int .i64 0]) ∧ Below w.heap.size w w' := by
  go_enter Tryd.func55, Tryd.ntmps55
  go_wp2_with fail
  generalize hW : (w.alloc (.cells #[.int .i64 1, .int .i64 1, .int .i64 0, .int .i64 2, .int .i64 5, .int .i64 0, .int .i64 0, .bool false, .int .i64 0, .int .i64 0, .int .i64 3, .int .i64 0, .int .i64 0, .int .u64 0, .int .u64 0, .int .i64 0, .int .i64 0] 75)).alloc (.cells #[.int .i64 0, .int .i64 0, .int .i64 0, .int .i64 0, .int .i64 0, .int .i64 0, .int .i64 0, .bool false, .int .i64 0, .int .i64 0, .int .i64 0, .int .i64 0, .int .i64 0, .int .u64 0, .int .u64 0, .int .i64 0, .int .i64 0] 75) = U
  have hJ : J17 U w.heap.size (.int .i64 1) (.int .i64 1) (.int .i64 0) (.int .i64 2) (.int .i64 5) (.int .i64 0) (.int .i64 0) (.bool false) (.int .i64 0) (.int .i64 0) (.int .i64 3) (.int .i64 0) (.int .i64 0) (.int .u64 0) (.int .u64 0) (.int .i64 0) (.int .i64 0) := by rw [← hW]; exact J17.new ((blk_old _ _ _ (by simp)).trans (blk_new _ _ _))
  have hZ : J17 U (w.heap.size + 1) (.int .i64 0) (.int .i64 0) (.int .i64 0) (.int .i64 0) (.int .i64 0) (.int .i64 0) (.int .i64 0) (.bool false) (.int .i64 0) (.int .i64 0) (.int .i64 0) (.int .i64 0) (.int .i64 0) (.int .u64 0) (.int .u64 0) (.int .i64 0) (.int .i64 0) := by rw [← hW]; exact J17.new (by have := blk_new (w.alloc (.cells #[.int .i64 1, .int .i64 1, .int .i64 0, .int .i64 2, .int .i64 5, .int .i64 0, .int .i64 0, .bool false, .int .i64 0, .int .i64 0, .int .i64 3, .int .i64 0, .int .i64 0, .int .u64 0, .int .u64 0, .int .i64 0, .int .i64 0] 75)) #[.int .i64 0, .int .i64 0, .int .i64 0, .int .i64 0, .int .i64 0, .int .i64 0, .int .i64 0, .bool false, .int .i64 0, .int .i64 0, .int .i64 0, .int .i64 0, .int .i64 0, .int .u64 0, .int .u64 0, .int .i64 0, .int .i64 0] 75; simpa using this)
  have HB := Lib.hid (show Below w.heap.size w U by rw [← hW]; exact (by repeat (first | exact Below.refl _ _ | assumption | refine below_drewN ?_ _ | refine Below.drew ?_ | refine below_alloc ?_ _ | refine Below.alloc ?_ (by first | omega | (simp; done) | (simp; omega)) _ | refine Below.setCell ?_ (Below.size (by assumption)) _ | refine Below.setCell ?_ (by first | omega | (simp; done) | (simp; omega)) _ | (refine Below.trans ?_ (Below.mono (by assumption) (by first | omega | (simp; done) | (simp; omega)))) | refine below_next ?_ (by assumption))))
  clear hW
  refine (right_j _).mono ?_
  rintro e w2 ⟨rfl, hb2⟩
  replace hJ := J17.below hJ hb2
  replace hZ := J17.below hZ hb2
  have HB2 := Lib.hid (below_next HB.out hb2)
  clear hb2 HB
  have d7 := hJ.c7
  have d8 := hJ.c8
  have HJ := Lib.hid hJ
  have HZ := Lib.hid hZ
  clear hJ hZ
  go_wp2_with fail
  refine (istime_yes _ (by decide) (by decide) _).mono ?_
  rintro e w' ⟨rfl, rfl⟩
  clear d7 d8
  obtain ⟨c0, c1, c2, c3, c4, c5, c6, c7, c8, c9, c10, c11, c12, c13, c14, c15, c16, f0, f1, f2, f3, f4, f5, f6, f7, f8, f9, f10, f11, f12, f13, f14, f15, f16⟩ := HJ.out
  go_wp2_with fail
  refine (fits_j _).mono ?_
  rintro e w3 ⟨rfl, hb3⟩
  have hJ := J17.below HJ.out hb3
  have hZ := J17.below HZ.out hb3
  have HB3 := Lib.hid (below_next HB2.out hb3)
  clear c0 c1 c2 c3 c4 c5 c6 c7 c8 c9 c10 c11 c12 c13 c14 c15 c16 f0 f1 f2 f3 f4 f5 f6 f7 f8 f9 f10 f11 f12 f13 f14 f15 f16 hb3 HB2 HJ HZ
  have HJ := Lib.hid hJ
  have HZ := Lib.hid hZ
  have d8 := hJ.c8
  have e8 := hJ.f8
  have d12 := hJ.c12
  have e12 := hJ.f12
  have d14 := hJ.c14
  have e14 := hJ.f14
  have d15 := hJ.c15
  have e15 := hJ.f15
  clear hJ hZ
  go_upto_region 13 with fail
  have hJ := HJ.out
  have hZ := HZ.out
  clear HJ HZ d8 e8 d12 e12 d14 e14 d15 e15
  generalize hV : ((((w3.setCell ⟨w.heap.size, 8, none⟩ (.int .i64 1)).setCell ⟨w.heap.size, 14, none⟩ (.int .u64 (nv 17#64))).setCell ⟨w.heap.size, 15, none⟩ (.int .i64 3)).setCell ⟨w.heap.size, 12, none⟩ (.int .i64 1)) = V
  have hJV : J17 V w.heap.size (.int .i64 1) (.int .i64 1) (.int .i64 0) (.int .i64 2) (.int .i64 5) (.int .i64 0) (.int .i64 0) (.bool false) (.int .i64 1) (.int .i64 0) (.int .i64 3) (.int .i64 0) (.int .i64 1) (.int .u64 0) (.int .u64 (nv 17#64)) (.int .i64 3) (.int .i64 0) := by rw [← hV]; exact ((((hJ).s8 _).s14 _).s15 _).s12 _
  have hZV : J17 V (w.heap.size + 1) (.int .i64 0) (.int .i64 0) (.int .i64 0) (.int .i64 0) (.int .i64 0) (.int .i64 0) (.int .i64 0) (.bool false) (.int .i64 0) (.int .i64 0) (.int .i64 0) (.int .i64 0) (.int .i64 0) (.int .u64 0) (.int .u64 0) (.int .i64 0) (.int .i64 0) := by rw [← hV]; exact ((((hZ).ne _ (Nat.ne_of_lt (Nat.lt_succ_self _))).ne _ (Nat.ne_of_lt (Nat.lt_succ_self _))).ne _ (Nat.ne_of_lt (Nat.lt_succ_self _))).ne _ (Nat.ne_of_lt (Nat.lt_succ_self _))
  have HV := Lib.hid (show Below w.heap.size w V by rw [← hV]; exact ((((HB3.out).setCell (Nat.le_refl _) _).setCell (Nat.le_refl _) _).setCell (Nat.le_refl _) _).setCell (Nat.le_refl _) _)
  clear hV hJ hZ HB3
  refine wp_region_lit ?_
  refine wpList_load_mid rfl 75 _ rfl w.heap.size 0 (by go_simp) [.int .i64 1, .int .i64 1, .int .i64 0, .int .i64 2, .int .i64 5, .int .i64 0, .int .i64 0, .bool false, .int .i64 1, .int .i64 0, .int .i64 3, .int .i64 0, .int .i64 1, .int .u64 0, .int .u64 (nv 17#64), .int .i64 3, .int .i64 0] _ (J17.range hJV) Tryd.underlying75 rfl (by kernel_rfl) ?_
  clear hJV
  refine wpList_store_mid rfl 75 _ _ rfl (w.heap.size + 1) 0 #[.int .i64 1, .int .i64 1, .int .i64 0, .int .i64 2, .int .i64 5, .int .i64 0, .int .i64 0, .bool false, .int .i64 1, .int .i64 0, .int .i64 3, .int .i64 0, .int .i64 1, .int .u64 0, .int .u64 (nv 17#64), .int .i64 3, .int .i64 0] (by go_simp) (by go_simp) (J17.there hZV) (by kernel_rfl) (by first | kernel_rfl | (simp [Value.oneCell']; done)) ?_
  have hR : World.rangeAt (V.setCells (w.heap.size + 1) 0 [.int .i64 1, .int .i64 1, .int .i64 0, .int .i64 2, .int .i64 5, .int .i64 0, .int .i64 0, .bool false, .int .i64 1, .int .i64 0, .int .i64 3, .int .i64 0, .int .i64 1, .int .u64 0, .int .u64 (nv 17#64), .int .i64 3, .int .i64 0]) (w.heap.size + 1) 0 [.int .i64 1, .int .i64 1, .int .i64 0, .int .i64 2, .int .i64 5, .int .i64 0, .int .i64 0, .bool false, .int .i64 1, .int .i64 0, .int .i64 3, .int .i64 0, .int .i64 1, .int .u64 0, .int .u64 (nv 17#64), .int .i64 3, .int .i64 0] := World.rangeAt_setCells_same _ _ _ _ (J17.there hZV)
  have hBP := Lib.hid (below_setCells (Nat.le_succ _) [.int .i64 1, .int .i64 1, .int .i64 0, .int .i64 2, .int .i64 5, .int .i64 0, .int .i64 0, .bool false, .int .i64 1, .int .i64 0, .int .i64 3, .int .i64 0, .int .i64 1, .int .u64 0, .int .u64 (nv 17#64), .int .i64 3, .int .i64 0] 0 _ HV.out)
  change wpList _ _ _ _ _ (V.setCells (w.heap.size + 1) 0 [.int .i64 1, .int .i64 1, .int .i64 0, .int .i64 2, .int .i64 5, .int .i64 0, .int .i64 0, .bool false, .int .i64 1, .int .i64 0, .int .i64 3, .int .i64 0, .int .i64 1, .int .u64 0, .int .u64 (nv 17#64), .int .i64 3, .int .i64 0])
  generalize V.setCells (w.heap.size + 1) 0 [.int .i64 1, .int .i64 1, .int .i64 0, .int .i64 2, .int .i64 5, .int .i64 0, .int .i64 0, .bool false, .int .i64 1, .int .i64 0, .int .i64 3, .int .i64 0, .int .i64 1, .int .u64 0, .int .u64 (nv 17#64), .int .i64 3, .int .i64 0] = P at hR hBP ⊢
  clear hZV
  have hl := run_loadVar_mid (P := Tryd.prog) P (w.heap.size + 1) 0 75 [.int .i64 1, .int .i64 1, .int .i64 0, .int .i64 2, .int .i64 5, .int .i64 0, .int .i64 0, .bool false, .int .i64 1, .int .i64 0, .int .i64 3, .int .i64 0, .int .i64 1, .int .u64 0, .int .u64 (nv 17#64), .int .i64 3, .int .i64 0] _ hR Tryd.underlying75 rfl (by kernel_rfl)
  clear hR
  have HL := Lib.hid hl
  clear hl
  go_wp2_with fail
  exact bodyPost_ret (v := .tuple #[.agg #[.int .i64 1, .int .i64 1, .int .i64 0, .int .i64 2, .int .i64 5, .int .i64 0, .int .i64 0, .bool false, .int .i64 1, .int .i64 0, .int .i64 3, .int .i64 0, .int .i64 1, .int .u64 0, .int .u64 (nv 17#64), .int .i64 3, .int .i64 0], .int .i64 0]) (results_cell_tmp (by rw [Tryd.results55]) (by go_simp) (by go_simp) HL.out) rfl ⟨rfl, hBP.out⟩
end Go.Proofs.YtkllhnfnkgkelaaDoor
