/- Levels (layer 10), the document's: Add, Set. Condition: at most 2^32 changes. -/
import Derived.Test.YthdljigcfhjikaaUrb
namespace Go.Proofs.Ythdljigcfhjikaa
set_option linter.unusedVariables false
open Go.ChangeShapes Go.WideShapes Go.ChangeAt Go.RowKit
attribute [local go_sem ↓] Go.wp_at_zero Go.wp_at_succ comesTo_value_eq comesTo_skip_eq comesTo_enter_eq

set_option maxRecDepth 100000 in
set_option maxHeartbeats 8000000 in
theorem rchg_add {w : World} {v : Value} {C : List ChgC} (h : RowC w v C) (hlen : C.length ≤ 4294967296) (first f t n : Int) :
    Calls Try.prog 48 #[.agg #[.int .i64 first, v], .agg #[.int .i64 f, .int .i64 t], .int .i64 n] w fun e w' => ∃ v', e = .returned (.agg #[.int .i64 first, v']) ∧ RowC w' v' (C ++ [⟨f, t, false, n⟩]) ∧ Below w.heap.size w w' := by
  have hmx : Try.prog.follows .mixedOrders = true := by kernel_rfl
  obtain ⟨ad, cp, hv⟩ := h.form
  have HB := below_alloc (below_alloc (below_alloc (Below.refl _ w) (.cells #[.int .i64 first, v] 29)) (.cells #[.int .i64 f, .int .i64 t] 38)) (.cells #[.int .i64 0, .slice none 0 0] 29)
  have n3 := World.alloc_heap_new ((w.alloc (.cells #[.int .i64 first, v] 29)).alloc (.cells #[.int .i64 f, .int .i64 t] 38)) (.cells #[.int .i64 0, .slice none 0 0] 29)
  have s1 : (w.alloc (.cells #[.int .i64 first, v] 29)).heap.size = w.heap.size + 1 := by simp
  have s2 : ((w.alloc (.cells #[.int .i64 first, v] 29)).alloc (.cells #[.int .i64 f, .int .i64 t] 38)).heap.size = w.heap.size + 1 + 1 := by simp
  rw [s2] at n3
  have n2 := ((below_alloc (Below.refl _ ((w.alloc (.cells #[.int .i64 first, v] 29)).alloc (.cells #[.int .i64 f, .int .i64 t] 38))) (.cells #[.int .i64 0, .slice none 0 0] 29)).block (w.heap.size + 1) (by omega)).trans (s1 ▸ World.alloc_heap_new (w.alloc (.cells #[.int .i64 first, v] 29)) (.cells #[.int .i64 f, .int .i64 t] 38))
  have n1 := ((below_alloc (below_alloc (Below.refl _ (w.alloc (.cells #[.int .i64 first, v] 29))) (.cells #[.int .i64 f, .int .i64 t] 38)) (.cells #[.int .i64 0, .slice none 0 0] 29)).block w.heap.size (by omega)).trans (World.alloc_heap_new w (.cells #[.int .i64 first, v] 29))
  have hr := (h.below HB).rd
  clear h s1 s2
  subst hv
  go_enter Try.func48, Try.ntmps48
  go_upto_region 1 with fail
  generalize ((w.alloc (.cells #[.int .i64 first, .slice ad C.length cp] 29)).alloc (.cells #[.int .i64 f, .int .i64 t] 38)).alloc (.cells #[.int .i64 0, .slice none 0 0] 29) = W at *
  have k1 := (Array.getElem?_eq_some_iff.1 n1).1
  have k2 := (Array.getElem?_eq_some_iff.1 n2).1
  have k3 := (Array.getElem?_eq_some_iff.1 n3).1
  refine Ap.wp_region_K (S1 := fun X => X.cell? ⟨w.heap.size, 0, none⟩ = some (.int .i64 first) ∧ X.cell? ⟨w.heap.size + 1, 0, none⟩ = some (.int .i64 f) ∧ X.cell? ⟨w.heap.size + 1, 1, none⟩ = some (.int .i64 t)) (S2 := fun X => X.cell? ⟨w.heap.size, 1, none⟩ = some (.slice ad C.length cp)) (js := 3) hmx ?_
  change Ap.wpAnyK _ _ _ _ _ _ _ 11 _ _ W.drew
  have hSS : (fun X : World => X.cell? ⟨w.heap.size, 0, none⟩ = some (.int .i64 first) ∧ X.cell? ⟨w.heap.size + 1, 0, none⟩ = some (.int .i64 f) ∧ X.cell? ⟨w.heap.size + 1, 1, none⟩ = some (.int .i64 t)) W.drew ∧ (fun X : World => X.cell? ⟨w.heap.size, 1, none⟩ = some (.slice ad C.length cp)) W.drew := ⟨⟨cell_of_block n1 rfl, cell_of_block n2 rfl, cell_of_block n2 rfl⟩, cell_of_block n1 rfl⟩
  refine Ap.wpAnyK_take1 (i := 1) (v := .pointer (some ⟨w.heap.size, 1, none⟩)) rfl (by decide) (by decide +kernel) (by decide +kernel) (by decide +kernel) (fun _ _ _ h => h) (.inl ⟨by first | rfl | (go_simp; done), fun X hX => by have hx1 := hX.1; have hx2 := hX.2.1; have hx3 := hX.2.2; clear hX; first | (go_simp; done) | (go_simp; rfl)⟩) hSS ?_
  refine Ap.wpAnyK_take2 (i := 2) (v := .slice ad C.length cp) rfl (by decide) (by decide +kernel) (by decide +kernel) (by decide +kernel) rfl (by decide +kernel) (by decide +kernel) (fun _ _ _ h => h) (.inl ⟨by first | rfl | (go_simp; done), fun X hX => by have hx1 := hX.2; clear hX; first | (go_simp; done) | (go_simp; rfl)⟩) hSS ?_
  refine Ap.wpAnyK_take1 (i := 4) (v := .agg #[.int .i64 f, .int .i64 t]) rfl (by decide) (by decide +kernel) (by decide +kernel) (by decide +kernel) (fun _ _ _ h => h) (.inl ⟨by first | rfl | (go_simp; done), fun X hX => by have hx1 := hX.1; have hx2 := hX.2.1; have hx3 := hX.2.2; clear hX; first | (go_simp; done) | (go_simp; rfl)⟩) hSS ?_
  refine Ap.wpAnyK_take1 (i := 5) (v := .int .i64 n) rfl (by decide) (by decide +kernel) (by decide +kernel) (by decide +kernel) (fun _ _ _ h => h) (.inl ⟨by first | rfl | (go_simp; done), fun X hX => by have hx1 := hX.1; have hx2 := hX.2.1; have hx3 := hX.2.2; clear hX; first | (go_simp; done) | (go_simp; rfl)⟩) hSS ?_
  refine Ap.wpAnyK_take1 (i := 6) (v := .agg #[.int .i64 f, .int .i64 t, .bool false, .int .i64 n]) rfl (by decide) (by decide +kernel) (by decide +kernel) (by decide +kernel) (fun _ _ _ h => h) (.inl ⟨by first | rfl | (go_simp; done), fun X hX => by have hx1 := hX.1; have hx2 := hX.2.1; have hx3 := hX.2.2; clear hX; first | (go_simp; done) | (go_simp; rfl)⟩) hSS ?_
  refine Ap.anyK_app2 (j0 := 0) (j1 := 3) (j2 := 7) (j3 := 8) (fuel := 2) (cs := #[.int .i64 f, .int .i64 t, .bool false, .int .i64 n]) eltC W.heap.size (.inl (by decide +kernel)) (.inl (by decide +kernel)) (by decide +kernel) (by decide +kernel) (by decide +kernel) (by decide +kernel) (by decide) rfl rfl rfl rfl ⟨rfl, rfl, rfl, rfl⟩ (by decide) ⟨rfl, rfl, rfl, rfl⟩ rfl rfl
    (by simp [Act.put]) (fun a' X => by first | (go_simp; done) | (go_simp; rfl)) (.slice ad C.length cp) C.length (flatC C) (fun u0 u2 => ⟨by simp [Act.put, Act.eval], by simp [Act.put, Act.eval]⟩) (hr.mono (Below.refl _ _).drew)
    (fun u0 u1 X => ⟨by first | (go_simp; done) | (go_simp; rfl), by first | (go_simp; done) | (go_simp; rfl), by first | (go_simp; done) | (go_simp; rfl)⟩) rfl (by intro u hu; simp at hu; rcases hu with rfl | rfl | rfl | rfl <;> rfl) (by unfold maxLen; omega) (by omega) (Nat.le_refl _)
    (fun X hb => ⟨⟨(hb.cell (p := ⟨w.heap.size, 0, none⟩) k1).trans hSS.1.1, (hb.cell (p := ⟨w.heap.size + 1, 0, none⟩) k2).trans hSS.1.2.1, (hb.cell (p := ⟨w.heap.size + 1, 1, none⟩) k2).trans hSS.1.2.2⟩, (hb.cell (p := ⟨w.heap.size, 1, none⟩) k1).trans hSS.2⟩) ?_
  intro u0 u1 u2 v0 X ho hb
  have hown := RowC.own (C := C ++ [⟨f, t, false, n⟩]) (v := v0) (by rw [flatC_append, List.length_append]; exact ho)
  obtain ⟨ad', n', cp', rfl⟩ : ∃ ad' n' cp', v0 = .slice ad' n' cp' := by obtain ⟨x, y, e⟩ := hown.form; exact ⟨_, _, _, e⟩
  have hS9 : (fun X : World => X.cell? ⟨w.heap.size, 0, none⟩ = some (.int .i64 first) ∧ X.cell? ⟨w.heap.size + 1, 0, none⟩ = some (.int .i64 f) ∧ X.cell? ⟨w.heap.size + 1, 1, none⟩ = some (.int .i64 t)) X ∧ (fun X : World => X.cell? ⟨w.heap.size, 1, none⟩ = some (.slice ad C.length cp)) X := ⟨⟨(hb.cell (p := ⟨w.heap.size, 0, none⟩) k1).trans hSS.1.1, (hb.cell (p := ⟨w.heap.size + 1, 0, none⟩) k2).trans hSS.1.2.1, (hb.cell (p := ⟨w.heap.size + 1, 1, none⟩) k2).trans hSS.1.2.2⟩, (hb.cell (p := ⟨w.heap.size, 1, none⟩) k1).trans hSS.2⟩
  have x1 := (hb.block w.heap.size k1).trans n1
  have x2 := (hb.block (w.heap.size + 1) k2).trans n2
  have x3 := (hb.block (w.heap.size + 1 + 1) k3).trans n3
  have y1 := cell_of_block (o := 1) x1 rfl
  have z1 := free_of_block 1 x1
  have hw := (wrote_refl x1).set 1 (.slice ad' n' cp')
  refine Ap.anyK_val1 (i := 9) (v := .pointer (some ⟨w.heap.size, 1, none⟩)) (w' := X) (by decide +kernel) rfl rfl (by first | (go_simp; done) | (go_simp; rfl)) hS9 ?_
  have hlt : w.heap.size < W.drew.heap.size := k1
  have hown' : RowC (X.setCell ⟨w.heap.size, 1, none⟩ (.slice ad' n' cp')) (.slice ad' n' cp') (C ++ [⟨f, t, false, n⟩]) := hown.keep x1 (.inl ⟨ad, C.length, cp, rfl⟩) (by rw [hw.size]; exact Nat.le_refl _) (fun g _ hne => hw.rest g hne)
  refine Ap.anyK_store (i := 10) (w' := X.setCell ⟨w.heap.size, 1, none⟩ (.slice ad' n' cp')) (by decide +kernel) rfl rfl (by decide +kernel) (by first | (go_simp; done) | (go_simp; rfl)) ⟨(cell_of_block (o := 0) hw.there rfl), (cell_of_block (o := 0) ((hw.rest _ (by omega)).trans x2) rfl), (cell_of_block (o := 1) ((hw.rest _ (by omega)).trans x2) rfl)⟩ ?_
  refine Ap.wpAnyK_done (by decide +kernel) ?_ _
  have q1 := cell_of_block (o := 0) hw.there rfl
  have q2 := cell_of_block (o := 1) hw.there rfl
  have r3 := (hw.rest (w.heap.size + 1 + 1) (by omega)).trans x3
  have r0 := cell_of_block (o := 0) r3 rfl
  have r1 := cell_of_block (o := 1) r3 rfl
  have f0 := free_of_block 0 r3
  have f1 := free_of_block 1 r3
  have HBX := Lib.hid (hw.below (Below.trans (Below.drew HB) (Below.mono hb HB.size)) (Nat.le_refl _))
  have hw3 := ((wrote_refl r3).set 0 (.int .i64 first)).set 1 (.slice ad' n' cp')
  have HO := Lib.hid (hown'.keep r3 (.inl ⟨none, 0, 0, rfl⟩) (by rw [hw3.size]; exact Nat.le_refl _) (fun g _ hne => hw3.rest g hne))
  have HBY := Lib.hid (hw3.below HBX.out (by omega))
  have HT := Lib.hid hw3.there
  clear hSS hS9 hown hown' ho hb HB n1 n2 n3 hr x1 x2 x3 y1 z1 hw hw3 r3
  go_wp2_with fail
  have e0 := cell_of_block (o := 0) HT.out rfl
  have e1 := cell_of_block (o := 1) HT.out rfl
  clear q1 q2 r0 r1 f0 f1
  generalize (((X.setCell ⟨w.heap.size, 1, none⟩ (.slice ad' n' cp')).setCell ⟨w.heap.size + 1 + 1, 0, none⟩ (.int .i64 first)).setCell ⟨w.heap.size + 1 + 1, 1, none⟩ (.slice ad' n' cp')) = Y at *
  exact bodyPost_ret (v := .agg #[.int .i64 first, .slice ad' n' cp']) (by simp [results, Try.results48, go_sem]; try go_simp) rfl ⟨_, rfl, HO.out, HBY.out⟩
set_option maxRecDepth 100000 in
set_option maxHeartbeats 8000000 in
theorem rchg_set {w : World} {v : Value} {C : List ChgC} (h : RowC w v C) (hlen : C.length ≤ 4294967296) (first f t n : Int) :
    Calls Try.prog 49 #[.agg #[.int .i64 first, v], .agg #[.int .i64 f, .int .i64 t], .int .i64 n] w fun e w' => ∃ v', e = .returned (.agg #[.int .i64 first, v']) ∧ RowC w' v' (C ++ [⟨f, t, true, n⟩]) ∧ Below w.heap.size w w' := by
  have hmx : Try.prog.follows .mixedOrders = true := by kernel_rfl
  obtain ⟨ad, cp, hv⟩ := h.form
  have HB := below_alloc (below_alloc (below_alloc (Below.refl _ w) (.cells #[.int .i64 first, v] 29)) (.cells #[.int .i64 f, .int .i64 t] 38)) (.cells #[.int .i64 0, .slice none 0 0] 29)
  have n3 := World.alloc_heap_new ((w.alloc (.cells #[.int .i64 first, v] 29)).alloc (.cells #[.int .i64 f, .int .i64 t] 38)) (.cells #[.int .i64 0, .slice none 0 0] 29)
  have s1 : (w.alloc (.cells #[.int .i64 first, v] 29)).heap.size = w.heap.size + 1 := by simp
  have s2 : ((w.alloc (.cells #[.int .i64 first, v] 29)).alloc (.cells #[.int .i64 f, .int .i64 t] 38)).heap.size = w.heap.size + 1 + 1 := by simp
  rw [s2] at n3
  have n2 := ((below_alloc (Below.refl _ ((w.alloc (.cells #[.int .i64 first, v] 29)).alloc (.cells #[.int .i64 f, .int .i64 t] 38))) (.cells #[.int .i64 0, .slice none 0 0] 29)).block (w.heap.size + 1) (by omega)).trans (s1 ▸ World.alloc_heap_new (w.alloc (.cells #[.int .i64 first, v] 29)) (.cells #[.int .i64 f, .int .i64 t] 38))
  have n1 := ((below_alloc (below_alloc (Below.refl _ (w.alloc (.cells #[.int .i64 first, v] 29))) (.cells #[.int .i64 f, .int .i64 t] 38)) (.cells #[.int .i64 0, .slice none 0 0] 29)).block w.heap.size (by omega)).trans (World.alloc_heap_new w (.cells #[.int .i64 first, v] 29))
  have hr := (h.below HB).rd
  clear h s1 s2
  subst hv
  go_enter Try.func49, Try.ntmps49
  go_upto_region 1 with fail
  generalize ((w.alloc (.cells #[.int .i64 first, .slice ad C.length cp] 29)).alloc (.cells #[.int .i64 f, .int .i64 t] 38)).alloc (.cells #[.int .i64 0, .slice none 0 0] 29) = W at *
  have k1 := (Array.getElem?_eq_some_iff.1 n1).1
  have k2 := (Array.getElem?_eq_some_iff.1 n2).1
  have k3 := (Array.getElem?_eq_some_iff.1 n3).1
  refine Ap.wp_region_K (S1 := fun X => X.cell? ⟨w.heap.size, 0, none⟩ = some (.int .i64 first) ∧ X.cell? ⟨w.heap.size + 1, 0, none⟩ = some (.int .i64 f) ∧ X.cell? ⟨w.heap.size + 1, 1, none⟩ = some (.int .i64 t)) (S2 := fun X => X.cell? ⟨w.heap.size, 1, none⟩ = some (.slice ad C.length cp)) (js := 3) hmx ?_
  change Ap.wpAnyK _ _ _ _ _ _ _ 11 _ _ W.drew
  have hSS : (fun X : World => X.cell? ⟨w.heap.size, 0, none⟩ = some (.int .i64 first) ∧ X.cell? ⟨w.heap.size + 1, 0, none⟩ = some (.int .i64 f) ∧ X.cell? ⟨w.heap.size + 1, 1, none⟩ = some (.int .i64 t)) W.drew ∧ (fun X : World => X.cell? ⟨w.heap.size, 1, none⟩ = some (.slice ad C.length cp)) W.drew := ⟨⟨cell_of_block n1 rfl, cell_of_block n2 rfl, cell_of_block n2 rfl⟩, cell_of_block n1 rfl⟩
  refine Ap.wpAnyK_take1 (i := 1) (v := .pointer (some ⟨w.heap.size, 1, none⟩)) rfl (by decide) (by decide +kernel) (by decide +kernel) (by decide +kernel) (fun _ _ _ h => h) (.inl ⟨by first | rfl | (go_simp; done), fun X hX => by have hx1 := hX.1; have hx2 := hX.2.1; have hx3 := hX.2.2; clear hX; first | (go_simp; done) | (go_simp; rfl)⟩) hSS ?_
  refine Ap.wpAnyK_take2 (i := 2) (v := .slice ad C.length cp) rfl (by decide) (by decide +kernel) (by decide +kernel) (by decide +kernel) rfl (by decide +kernel) (by decide +kernel) (fun _ _ _ h => h) (.inl ⟨by first | rfl | (go_simp; done), fun X hX => by have hx1 := hX.2; clear hX; first | (go_simp; done) | (go_simp; rfl)⟩) hSS ?_
  refine Ap.wpAnyK_take1 (i := 4) (v := .agg #[.int .i64 f, .int .i64 t]) rfl (by decide) (by decide +kernel) (by decide +kernel) (by decide +kernel) (fun _ _ _ h => h) (.inl ⟨by first | rfl | (go_simp; done), fun X hX => by have hx1 := hX.1; have hx2 := hX.2.1; have hx3 := hX.2.2; clear hX; first | (go_simp; done) | (go_simp; rfl)⟩) hSS ?_
  refine Ap.wpAnyK_take1 (i := 5) (v := .int .i64 n) rfl (by decide) (by decide +kernel) (by decide +kernel) (by decide +kernel) (fun _ _ _ h => h) (.inl ⟨by first | rfl | (go_simp; done), fun X hX => by have hx1 := hX.1; have hx2 := hX.2.1; have hx3 := hX.2.2; clear hX; first | (go_simp; done) | (go_simp; rfl)⟩) hSS ?_
  refine Ap.wpAnyK_take1 (i := 6) (v := .agg #[.int .i64 f, .int .i64 t, .bool true, .int .i64 n]) rfl (by decide) (by decide +kernel) (by decide +kernel) (by decide +kernel) (fun _ _ _ h => h) (.inl ⟨by first | rfl | (go_simp; done), fun X hX => by have hx1 := hX.1; have hx2 := hX.2.1; have hx3 := hX.2.2; clear hX; first | (go_simp; done) | (go_simp; rfl)⟩) hSS ?_
  refine Ap.anyK_app2 (j0 := 0) (j1 := 3) (j2 := 7) (j3 := 8) (fuel := 2) (cs := #[.int .i64 f, .int .i64 t, .bool true, .int .i64 n]) eltC W.heap.size (.inl (by decide +kernel)) (.inl (by decide +kernel)) (by decide +kernel) (by decide +kernel) (by decide +kernel) (by decide +kernel) (by decide) rfl rfl rfl rfl ⟨rfl, rfl, rfl, rfl⟩ (by decide) ⟨rfl, rfl, rfl, rfl⟩ rfl rfl
    (by simp [Act.put]) (fun a' X => by first | (go_simp; done) | (go_simp; rfl)) (.slice ad C.length cp) C.length (flatC C) (fun u0 u2 => ⟨by simp [Act.put, Act.eval], by simp [Act.put, Act.eval]⟩) (hr.mono (Below.refl _ _).drew)
    (fun u0 u1 X => ⟨by first | (go_simp; done) | (go_simp; rfl), by first | (go_simp; done) | (go_simp; rfl), by first | (go_simp; done) | (go_simp; rfl)⟩) rfl (by intro u hu; simp at hu; rcases hu with rfl | rfl | rfl | rfl <;> rfl) (by unfold maxLen; omega) (by omega) (Nat.le_refl _)
    (fun X hb => ⟨⟨(hb.cell (p := ⟨w.heap.size, 0, none⟩) k1).trans hSS.1.1, (hb.cell (p := ⟨w.heap.size + 1, 0, none⟩) k2).trans hSS.1.2.1, (hb.cell (p := ⟨w.heap.size + 1, 1, none⟩) k2).trans hSS.1.2.2⟩, (hb.cell (p := ⟨w.heap.size, 1, none⟩) k1).trans hSS.2⟩) ?_
  intro u0 u1 u2 v0 X ho hb
  have hown := RowC.own (C := C ++ [⟨f, t, true, n⟩]) (v := v0) (by rw [flatC_append, List.length_append]; exact ho)
  obtain ⟨ad', n', cp', rfl⟩ : ∃ ad' n' cp', v0 = .slice ad' n' cp' := by obtain ⟨x, y, e⟩ := hown.form; exact ⟨_, _, _, e⟩
  have hS9 : (fun X : World => X.cell? ⟨w.heap.size, 0, none⟩ = some (.int .i64 first) ∧ X.cell? ⟨w.heap.size + 1, 0, none⟩ = some (.int .i64 f) ∧ X.cell? ⟨w.heap.size + 1, 1, none⟩ = some (.int .i64 t)) X ∧ (fun X : World => X.cell? ⟨w.heap.size, 1, none⟩ = some (.slice ad C.length cp)) X := ⟨⟨(hb.cell (p := ⟨w.heap.size, 0, none⟩) k1).trans hSS.1.1, (hb.cell (p := ⟨w.heap.size + 1, 0, none⟩) k2).trans hSS.1.2.1, (hb.cell (p := ⟨w.heap.size + 1, 1, none⟩) k2).trans hSS.1.2.2⟩, (hb.cell (p := ⟨w.heap.size, 1, none⟩) k1).trans hSS.2⟩
  have x1 := (hb.block w.heap.size k1).trans n1
  have x2 := (hb.block (w.heap.size + 1) k2).trans n2
  have x3 := (hb.block (w.heap.size + 1 + 1) k3).trans n3
  have y1 := cell_of_block (o := 1) x1 rfl
  have z1 := free_of_block 1 x1
  have hw := (wrote_refl x1).set 1 (.slice ad' n' cp')
  refine Ap.anyK_val1 (i := 9) (v := .pointer (some ⟨w.heap.size, 1, none⟩)) (w' := X) (by decide +kernel) rfl rfl (by first | (go_simp; done) | (go_simp; rfl)) hS9 ?_
  have hlt : w.heap.size < W.drew.heap.size := k1
  have hown' : RowC (X.setCell ⟨w.heap.size, 1, none⟩ (.slice ad' n' cp')) (.slice ad' n' cp') (C ++ [⟨f, t, true, n⟩]) := hown.keep x1 (.inl ⟨ad, C.length, cp, rfl⟩) (by rw [hw.size]; exact Nat.le_refl _) (fun g _ hne => hw.rest g hne)
  refine Ap.anyK_store (i := 10) (w' := X.setCell ⟨w.heap.size, 1, none⟩ (.slice ad' n' cp')) (by decide +kernel) rfl rfl (by decide +kernel) (by first | (go_simp; done) | (go_simp; rfl)) ⟨(cell_of_block (o := 0) hw.there rfl), (cell_of_block (o := 0) ((hw.rest _ (by omega)).trans x2) rfl), (cell_of_block (o := 1) ((hw.rest _ (by omega)).trans x2) rfl)⟩ ?_
  refine Ap.wpAnyK_done (by decide +kernel) ?_ _
  have q1 := cell_of_block (o := 0) hw.there rfl
  have q2 := cell_of_block (o := 1) hw.there rfl
  have r3 := (hw.rest (w.heap.size + 1 + 1) (by omega)).trans x3
  have r0 := cell_of_block (o := 0) r3 rfl
  have r1 := cell_of_block (o := 1) r3 rfl
  have f0 := free_of_block 0 r3
  have f1 := free_of_block 1 r3
  have HBX := Lib.hid (hw.below (Below.trans (Below.drew HB) (Below.mono hb HB.size)) (Nat.le_refl _))
  have hw3 := ((wrote_refl r3).set 0 (.int .i64 first)).set 1 (.slice ad' n' cp')
  have HO := Lib.hid (hown'.keep r3 (.inl ⟨none, 0, 0, rfl⟩) (by rw [hw3.size]; exact Nat.le_refl _) (fun g _ hne => hw3.rest g hne))
  have HBY := Lib.hid (hw3.below HBX.out (by omega))
  have HT := Lib.hid hw3.there
  clear hSS hS9 hown hown' ho hb HB n1 n2 n3 hr x1 x2 x3 y1 z1 hw hw3 r3
  go_wp2_with fail
  have e0 := cell_of_block (o := 0) HT.out rfl
  have e1 := cell_of_block (o := 1) HT.out rfl
  clear q1 q2 r0 r1 f0 f1
  generalize (((X.setCell ⟨w.heap.size, 1, none⟩ (.slice ad' n' cp')).setCell ⟨w.heap.size + 1 + 1, 0, none⟩ (.int .i64 first)).setCell ⟨w.heap.size + 1 + 1, 1, none⟩ (.slice ad' n' cp')) = Y at *
  exact bodyPost_ret (v := .agg #[.int .i64 first, .slice ad' n' cp']) (by simp [results, Try.results49, go_sem]; try go_simp) rfl ⟨_, rfl, HO.out, HBY.out⟩
set_option maxRecDepth 100000 in
set_option maxHeartbeats 8000000 in
theorem rchg_forget {w : World} {v : Value} {C : List ChgC} (h : RowC w v C) (hlen : C.length ≤ 4294967296) (first t : Int) :
    Calls Try.prog 50 #[.agg #[.int .i64 first, v], .int .i64 t] w fun e w' => ∃ v', e = .returned (.agg #[.int .i64 first, v']) ∧ RowC w' v' (rforgetU first C t) ∧ Below w.heap.size w w' := by
  have hmx : Try.prog.follows .mixedOrders = true := by kernel_rfl
  obtain ⟨ad, cp, hv⟩ := h.form
  have HB := below_alloc (below_alloc (Below.refl _ w) (.cells #[.int .i64 first, v] 29)) (.cells #[.int .i64 0, .slice none 0 0] 29)
  have n2 := World.alloc_heap_new (w.alloc (.cells #[.int .i64 first, v] 29)) (.cells #[.int .i64 0, .slice none 0 0] 29)
  have s1 : (w.alloc (.cells #[.int .i64 first, v] 29)).heap.size = w.heap.size + 1 := by simp
  rw [s1] at n2
  have n1 := ((below_alloc (Below.refl _ (w.alloc (.cells #[.int .i64 first, v] 29))) (.cells #[.int .i64 0, .slice none 0 0] 29)).block w.heap.size (by omega)).trans (World.alloc_heap_new w (.cells #[.int .i64 first, v] 29))
  have HR := Lib.hid (h.below HB)
  have HBW := Lib.hid HB
  clear h s1 HB
  subst hv
  go_enter Try.func50, Try.ntmps50
  go_upto_region 1 with fail
  generalize (w.alloc (.cells #[.int .i64 first, .slice ad C.length cp] 29)).alloc (.cells #[.int .i64 0, .slice none 0 0] 29) = W at *
  have k1 := (Array.getElem?_eq_some_iff.1 n1).1
  have k2 := (Array.getElem?_eq_some_iff.1 n2).1
  have c0 := cell_of_block (o := 0) n1 rfl
  have c1 := cell_of_block (o := 1) n1 rfl
  by_cases ht : t ≥ 1099511627776
  case pos =>
    have hd : decide (t ≥ 1099511627776) = true := decide_eq_true ht
    have E := Lib.hid (show rforgetU first C t = C by unfold rforgetU; rw [if_pos ht])
    have f0 := free_of_block 0 n2
    have f1 := free_of_block 1 n2
    have d0 := cell_of_block (o := 0) n2 rfl
    have d1 := cell_of_block (o := 1) n2 rfl
    have hw3 := ((wrote_refl n2).set 0 (.int .i64 first)).set 1 (.slice ad C.length cp)
    have HO := Lib.hid (HR.out.keep n2 (.inl ⟨none, 0, 0, rfl⟩) (by rw [hw3.size]; exact Nat.le_refl _) (fun g _ hne => hw3.rest g hne))
    have HBY := Lib.hid (hw3.below HBW.out (by omega))
    have HT := Lib.hid hw3.there
    clear hw3
    go_wp2_with fail
    have e0 := cell_of_block (o := 0) HT.out rfl
    have e1 := cell_of_block (o := 1) HT.out rfl
    clear c0 c1 d0 d1 f0 f1
    generalize ((W.setCell ⟨w.heap.size + 1, 0, none⟩ (.int .i64 first)).setCell ⟨w.heap.size + 1, 1, none⟩ (.slice ad C.length cp)) = Y at *
    exact bodyPost_ret (v := .agg #[.int .i64 first, .slice ad C.length cp]) (by simp [results, Try.results50, go_sem]; try go_simp) rfl ⟨_, rfl, by rw [E.out]; exact HO.out, HBY.out⟩
  case neg =>
    have hd : decide (t ≥ 1099511627776) = false := decide_eq_false ht
    have E := Lib.hid (show rforgetU first C t = C ++ [⟨0, t, true, ratU first C t⟩] by unfold rforgetU; rw [if_neg ht])
    obtain ⟨y, hy⟩ : ∃ y, y = ratU first C t := ⟨_, rfl⟩
    go_upto_region 3 with fail
    refine Ap.wp_region_K (S1 := fun X => X.cell? ⟨w.heap.size, 0, none⟩ = some (.int .i64 first) ∧ X.cell? ⟨w.heap.size, 1, none⟩ = some (.slice ad C.length cp)) (S2 := fun _ => True) (js := 7) hmx ?_
    change Ap.wpAnyK _ _ _ _ _ _ _ 8 _ _ W.drew
    have hSS : (fun X : World => X.cell? ⟨w.heap.size, 0, none⟩ = some (.int .i64 first) ∧ X.cell? ⟨w.heap.size, 1, none⟩ = some (.slice ad C.length cp)) W.drew ∧ (fun _ : World => True) W.drew := ⟨⟨c0, c1⟩, trivial⟩
    clear c0 c1
    refine Ap.wpAnyK_take1 (i := 0) (v := .agg #[.int .i64 first, .slice ad C.length cp]) rfl (by decide) (by decide +kernel) (by decide +kernel) (by decide +kernel) (fun _ _ _ h => h) (.inl ⟨by first | rfl | (go_simp; done), fun X hX => by have hx1 := hX.1; have hx2 := hX.2; clear hX; first | (go_simp; done) | (go_simp; rfl)⟩) hSS ?_
    refine Ap.wpAnyK_take1 (i := 1) (v := .int .i64 t) rfl (by decide) (by decide +kernel) (by decide +kernel) (by decide +kernel) (fun _ _ _ h => h) (.inl ⟨by first | rfl | (go_simp; done), fun X hX => by have hx1 := hX.1; have hx2 := hX.2; clear hX; first | (go_simp; done) | (go_simp; rfl)⟩) hSS ?_
    refine Ap.wpAnyK_take1 (i := 2) (v := .agg #[.int .i64 0, .int .i64 t]) rfl (by decide) (by decide +kernel) (by decide +kernel) (by decide +kernel) (fun _ _ _ h => h) (.inl ⟨by first | rfl | (go_simp; done), fun X hX => by have hx1 := hX.1; have hx2 := hX.2; clear hX; first | (go_simp; done) | (go_simp; rfl)⟩) hSS ?_
    refine Ap.wpAnyK_take1 (i := 3) (v := .agg #[.int .i64 first, .slice ad C.length cp]) rfl (by decide) (by decide +kernel) (by decide +kernel) (by decide +kernel) (fun _ _ _ h => h) (.inl ⟨by first | rfl | (go_simp; done), fun X hX => by have hx1 := hX.1; have hx2 := hX.2; clear hX; first | (go_simp; done) | (go_simp; rfl)⟩) hSS ?_
    refine Ap.wpAnyK_take1 (i := 4) (v := .int .i64 t) rfl (by decide) (by decide +kernel) (by decide +kernel) (by decide +kernel) (fun _ _ _ h => h) (.inl ⟨by first | rfl | (go_simp; done), fun X hX => by have hx1 := hX.1; have hx2 := hX.2; clear hX; first | (go_simp; done) | (go_simp; rfl)⟩) hSS ?_
    refine Ap.anyK_call (i := 5) (by decide +kernel) rfl rfl (by go_simp) (rat_any (HR.out.below (Below.refl _ _).drew) hlen first t) ?_
    rintro e X ⟨rfl, hb⟩
    rw [← hy]
    have x1 := (hb.block w.heap.size k1).trans n1
    have hS5 : (fun X : World => X.cell? ⟨w.heap.size, 0, none⟩ = some (.int .i64 first) ∧ X.cell? ⟨w.heap.size, 1, none⟩ = some (.slice ad C.length cp)) X := ⟨cell_of_block x1 rfl, cell_of_block x1 rfl⟩
    refine ⟨_, rfl, ⟨hS5, fun _ => trivial⟩, ?_⟩
    refine Ap.anyK_call (i := 6) (by decide +kernel) rfl rfl (by go_simp) (rchg_set ((HR.out.below (Below.refl _ _).drew).below hb) hlen first 0 t y) ?_
    rintro e X2 ⟨v', rfl, hr2, hb2⟩
    obtain ⟨ad', n', cp', rfl⟩ : ∃ ad' n' cp', v' = .slice ad' n' cp' := by obtain ⟨x, z, e⟩ := hr2.form; exact ⟨_, _, _, e⟩
    have hx1 : W.heap.size ≤ X.heap.size := hb.size
    have x2 := (hb2.block w.heap.size (by omega)).trans x1
    have y2 := (hb2.block (w.heap.size + 1) (by omega)).trans ((hb.block (w.heap.size + 1) k2).trans n2)
    refine ⟨_, rfl, ⟨⟨cell_of_block x2 rfl, cell_of_block x2 rfl⟩, fun _ => trivial⟩, ?_⟩
    have f0 := free_of_block 0 y2
    have f1 := free_of_block 1 y2
    have d0 := cell_of_block (o := 0) y2 rfl
    have d1 := cell_of_block (o := 1) y2 rfl
    have hw3 := ((wrote_refl y2).set 0 (.int .i64 first)).set 1 (.slice ad' n' cp')
    have HO := Lib.hid (hr2.keep y2 (.inl ⟨none, 0, 0, rfl⟩) (by rw [hw3.size]; exact Nat.le_refl _) (fun g _ hne => hw3.rest g hne))
    have HBY := Lib.hid (hw3.below (below_next (below_next (Below.drew HBW.out) hb) hb2) (by omega))
    have HT := Lib.hid hw3.there
    have z0 := (hw3.rest w.heap.size (by omega)).trans x2
    refine Ap.anyK_store (i := 7) (w' := (X2.setCell ⟨w.heap.size + 1, 0, none⟩ (.int .i64 first)).setCell ⟨w.heap.size + 1, 1, none⟩ (.slice ad' n' cp')) (by decide +kernel) rfl rfl (by decide +kernel) (by first | (go_simp; done) | (go_simp; rfl)) ⟨cell_of_block z0 rfl, cell_of_block z0 rfl⟩ ?_
    refine Ap.wpAnyK_done (by decide +kernel) ?_ _
    clear hw3 f0 f1 d0 d1 hSS hS5 x1 x2 y2 hb hb2 hr2 z0
    have e0 := cell_of_block (o := 0) HT.out rfl
    have e1 := cell_of_block (o := 1) HT.out rfl
    generalize ((X2.setCell ⟨w.heap.size + 1, 0, none⟩ (.int .i64 first)).setCell ⟨w.heap.size + 1, 1, none⟩ (.slice ad' n' cp')) = Y at *
    go_wp2_with fail
    exact bodyPost_ret (v := .agg #[.int .i64 first, .slice ad' n' cp']) (by simp [results, Try.results50, go_sem]; try go_simp) rfl ⟨_, rfl, by rw [E.out, ← hy]; exact HO.out, HBY.out⟩
end Go.Proofs.Ythdljigcfhjikaa
