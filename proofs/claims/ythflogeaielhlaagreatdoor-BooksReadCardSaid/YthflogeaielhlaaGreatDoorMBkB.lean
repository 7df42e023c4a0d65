/- A line of books told, and changed (layer 14). No condition. -/
import Derived.Test.YthflogeaielhlaaGreatDoorMBkA
import Derived.Test.YthflogeaielhlaaGreatDoorMad
import Derived.Test.YthflogeaielhlaaGreatDoorMae
import Derived.Test.YthflogeaielhlaaGreatDoorMab
namespace Go.Proofs.YthflogeaielhlaaGreatDoor
set_option linter.unusedVariables false
open Go.ChangeShapes Go.WideShapes Go.ChangeAt Go.RowKit Bk
attribute [local go_sem ↓] Go.wp_at_zero Go.wp_at_succ comesTo_value_eq comesTo_skip_eq comesTo_enter_eq Rl.comesToR_value_eq Rl.comesToR_skip_eq Rl.comesToR_enter_eq

theorem vL_len (l : LV) : (vL l).length = l.length := by simp [vL]
theorem vL_one (l : LV) : (vL l).all (·.oneCell') = true := by
  unfold vL
  rw [List.all_map, List.all_eq_true]
  intro x _; rfl
theorem lineInfo {l : LV} (h : l.length = 9) : (Tryz.prog.info? 46).map (·.size) = some (vL l).length := by rw [vL_len, h]; kernel_rfl
theorem vL_get {l : LV} (h : l.length = 9) {k : Nat} (hk : k < 9) : (vL l).toArray[k]? = some (.int .i64 (l.getD k 0)) := by
  unfold vL
  simp [List.getD, show k < l.length by omega]
theorem vL_set (l : LV) (k : Nat) (x : Int) : (vL l).toArray.setIfInBounds k (.int .i64 x) = (vL (l.set k x)).toArray := by
  unfold vL
  simp [List.map_set]
set_option maxRecDepth 100000 in
set_option maxHeartbeats 4000000 in
theorem line_bk {w : World} {b m : Nat} {h : Int} {L : List LV} (H : BkAt w b m h L) {u : Int} (h0 : -9223372036854775808 ≤ u) (h1 : u ≤ 9223372036854775807) :
    Calls Tryz.prog 21 #[.pointer (some ⟨b, 0, none⟩), .int .i64 u] w fun e w' => e = .returned (.tuple #[.agg (vL (lineB L u)).toArray, .bool (getB L u).isSome]) ∧ Below w.heap.size w w' := by
  have hb0 := below_alloc (Below.refl _ w) (.cells #[.int .i64 0, .int .i64 0, .int .i64 0, .int .i64 0, .int .i64 0, .int .i64 0, .int .i64 0, .int .i64 0, .int .i64 0] 46)
  have HR := Lib.hid (World.alloc_heap_new w (.cells #[.int .i64 0, .int .i64 0, .int .i64 0, .int .i64 0, .int .i64 0, .int .i64 0, .int .i64 0, .int .i64 0, .int .i64 0] 46))
  have HB := Lib.hid hb0
  have HH := Lib.hid (H.below hb0)
  have HL := Lib.hid (H.good.line u)
  have HLK := Lib.hid (fun (X : World) (hX : BkAt X b m h L) => hX.lookOk h0 h1)
  obtain ⟨xs, hxs⟩ : ∃ x, x = lineB L u := ⟨_, rfl⟩
  obtain ⟨bs, hbs⟩ : ∃ x, x = (getB L u).isSome := ⟨_, rfl⟩
  rw [← hxs] at HL HLK ⊢
  rw [← hbs] at HLK ⊢
  clear hxs hbs
  obtain ⟨l, hl⟩ : ∃ l, l = vL xs := ⟨_, rfl⟩
  have HI := Lib.hid (show (Tryz.prog.info? 46).map (·.size) = some l.length from by rw [hl]; exact lineInfo HL.out)
  have HLL := Lib.hid (show l.length = 9 from by rw [hl, vL_len]; exact HL.out)
  have HO := Lib.hid (show l.all (·.oneCell') = true from by rw [hl]; exact vL_one _)
  rw [← hl] at HLK ⊢
  clear hl HL
  clear hb0 H
  go_enter Tryz.func21, Tryz.ntmps21
  go_upto_region 1 with fail
  generalize w.alloc (.cells #[.int .i64 0, .int .i64 0, .int .i64 0, .int .i64 0, .int .i64 0, .int .i64 0, .int .i64 0, .int .i64 0, .int .i64 0] 46) = W1 at *
  obtain ⟨q, hq⟩ : ∃ q, q = w.heap.size := ⟨_, rfl⟩
  rw [← hq] at HR ⊢
  have HQ := Lib.hid hq
  clear hq
  go_wp2_with fail
  refine (there_bk HH.out).mono ?_
  rintro e w1 ⟨rfl, hww⟩
  obtain rfl := hww
  go_upto_region 3 with fail
  have hlk := HLK.out w1 HH.out
  have c1 : w1.cell? ⟨b, 1, none⟩ = some (.map (some m)) := cell_of_block (o := 1) HH.out.blk rfl
  have ba := below_alloc (Below.refl _ w1) (.cells #[.int .i64 0, .int .i64 0, .int .i64 0, .int .i64 0, .int .i64 0, .int .i64 0, .int .i64 0, .int .i64 0, .int .i64 0] 46)
  have HN := Lib.hid (World.alloc_heap_new w1 (.cells #[.int .i64 0, .int .i64 0, .int .i64 0, .int .i64 0, .int .i64 0, .int .i64 0, .int .i64 0, .int .i64 0, .int .i64 0] 46))
  have HR2 := Lib.hid ((ba.block q (Array.getElem?_eq_some_iff.1 HR.out).1).trans HR.out)
  have HB2 := Lib.hid (below_next HB.out ba)
  have HQ2 := Lib.hid (show q < w1.heap.size from (Array.getElem?_eq_some_iff.1 HR.out).1)
  clear ba
  refine wp_region_lit ?_
  refine wpList_yield (w' := w1) (v := .pointer (some ⟨b, 0, none⟩)) rfl (by go_simp) ?_
  refine wpList_yield (w' := w1) (v := .pointer (some ⟨b, 0, none⟩)) rfl (by go_simp) ?_
  refine wpList_yield (w' := w1) (v := .pointer (some ⟨b, 1, none⟩)) rfl (by go_simp) ?_
  refine wpList_yield (w' := w1) (v := .map (some m)) rfl (by go_simp) ?_
  refine wpList_yield (w' := w1) (v := .int .i64 u) rfl (by go_simp) ?_
  refine wpList_yield (w' := w1) (v := .tuple #[.agg l.toArray, .bool bs]) rfl (by go_simp) ?_
  refine wpList_yield (w' := w1) (v := .tuple #[.agg l.toArray, .bool bs]) rfl (by go_simp) ?_
  refine wpList_yield (w' := w1) (v := .agg l.toArray) rfl (by go_simp) ?_
  refine wpList_yield (w' := w1) (v := .bool bs) rfl (by go_simp) ?_
  clear hlk c1
  refine wpList_yield (w' := w1.alloc (.cells #[.int .i64 0, .int .i64 0, .int .i64 0, .int .i64 0, .int .i64 0, .int .i64 0, .int .i64 0, .int .i64 0, .int .i64 0] 46)) (v := .pointer (some ⟨w1.heap.size, 0, none⟩)) rfl (by first | (go_simp; done) | (go_simp; rfl)) ?_
  generalize w1.alloc (.cells #[.int .i64 0, .int .i64 0, .int .i64 0, .int .i64 0, .int .i64 0, .int .i64 0, .int .i64 0, .int .i64 0, .int .i64 0] 46) = W2 at *
  obtain ⟨p, hp⟩ : ∃ p, p = w1.heap.size := ⟨_, rfl⟩
  rw [← hp] at HN HQ2 ⊢
  have HPQ := Lib.hid (show w.heap.size ≤ p from by rw [hp]; exact HB.out.size)
  clear hp
  refine wpList_store_all rfl 46 _ _ rfl p (T := 46) l (by go_simp) (by go_simp) HN.out (by rw [HLL.out]; rfl) HI.out HO.out ?_
  intro w3 hw3
  have HP3 := Lib.hid hw3.there
  have HR3 := Lib.hid ((hw3.rest q (by have := HQ2.out; omega)).trans HR2.out)
  have HB3 := Lib.hid (hw3.below HB2.out HPQ.out)
  clear hw3
  refine wpList_yield (w' := w3) (v := .bool bs) rfl (by go_simp) ?_
  rename_i hK
  refine hK _ _ ?_
  go_simp
  go_upto_region 4 with fail
  refine wp_region_lit ?_
  refine wpList_load_all rfl 46 _ rfl p l _ (by go_simp) HP3.out Tryz.underlying46 rfl HI.out ?_
  refine wpList_yield (w' := w3) (v := .bool bs) rfl (by go_simp) ?_
  refine wpList_store_all rfl 46 _ _ rfl q (T := 46) l (by go_simp) (by go_simp) HR3.out (by rw [HLL.out]; rfl) HI.out HO.out ?_
  intro w4 hw4
  have HQ4 := Lib.hid hw4.there
  have HB4 := Lib.hid (hw4.below HB3.out (by have := HQ.out; omega))
  clear hw4
  refine wpList_yield (w' := w4) (v := .bool bs) rfl (by go_simp) ?_
  rename_i hK
  refine hK _ _ ?_
  go_simp
  go_wp2_with fail
  refine bodyPost_ret (results_all2 l _ Tryz.results21 (by go_simp) HQ4.out Tryz.underlying46 rfl HI.out) rfl ?_
  exact ⟨by first | (go_simp; done) | simp, HB4.out⟩
end Go.Proofs.YthflogeaielhlaaGreatDoor
