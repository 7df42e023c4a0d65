/- Laws that belong together: Levels (layer 10), the document's: Add, Set. Condition: at most 2^32 changes.; Levels (layer 10), the document's, plainly: the times at which levels may turn, the steps that they tell. No condition but that the steps are right.; Levels (layer 10), the document's: put, Times. Condition: the lengths' bounds.; Levels (layer 10), the document's: List; Like. Condition: the lengths' bounds.; Levels (layer 10), the document's, plainly: In tells each level of a span, and of how many times it is. No condition but that the steps are right.; Levels (layer 10), the document's, plainly: what In tells comes to the least, the greatest and the area that the program tells. No condition but that the steps are right. -/
import Derived.Test.YtbhnjmdlagjfbaaMai
import Derived.Test.YtbhnjmdlagjfbaaMac
import Derived.Test.YtbhnjmdlagjfbaaMad
namespace Go.Proofs.Ytbhnjmdlagjfbaa
set_option linter.unusedVariables false
open Go.ChangeShapes Go.WideShapes Go.ChangeAt Go.RowKit
attribute [local go_sem ↓] Go.wp_at_zero Go.wp_at_succ comesTo_value_eq comesTo_skip_eq comesTo_enter_eq

set_option maxRecDepth 100000 in
set_option maxHeartbeats 8000000 in
theorem rchg_add {w : World} {v : Value} {C : List ChgC} (h : RowC w v C) (hlen : C.length ≤ 4294967296) (first f t n : Int) :
    Calls Try.prog 51 #[.agg #[.int .i64 first, v], .agg #[.int .i64 f, .int .i64 t], .int .i64 n] w fun e w' => ∃ v', e = .returned (.agg #[.int .i64 first, v']) ∧ RowC w' v' (C ++ [⟨f, t, false, n⟩]) ∧ Below w.heap.size w w' := by
  have hmx : Try.prog.follows .mixedOrders = true := by kernel_rfl
  obtain ⟨ad, cp, hv⟩ := h.form
  have HB := below_alloc (below_alloc (below_alloc (Below.refl _ w) (.cells #[.int .i64 first, v] 28)) (.cells #[.int .i64 f, .int .i64 t] 43)) (.cells #[.int .i64 0, .slice none 0 0] 28)
  have n3 := World.alloc_heap_new ((w.alloc (.cells #[.int .i64 first, v] 28)).alloc (.cells #[.int .i64 f, .int .i64 t] 43)) (.cells #[.int .i64 0, .slice none 0 0] 28)
  have s1 : (w.alloc (.cells #[.int .i64 first, v] 28)).heap.size = w.heap.size + 1 := by simp
  have s2 : ((w.alloc (.cells #[.int .i64 first, v] 28)).alloc (.cells #[.int .i64 f, .int .i64 t] 43)).heap.size = w.heap.size + 1 + 1 := by simp
  rw [s2] at n3
  have n2 := ((below_alloc (Below.refl _ ((w.alloc (.cells #[.int .i64 first, v] 28)).alloc (.cells #[.int .i64 f, .int .i64 t] 43))) (.cells #[.int .i64 0, .slice none 0 0] 28)).block (w.heap.size + 1) (by omega)).trans (s1 ▸ World.alloc_heap_new (w.alloc (.cells #[.int .i64 first, v] 28)) (.cells #[.int .i64 f, .int .i64 t] 43))
  have n1 := ((below_alloc (below_alloc (Below.refl _ (w.alloc (.cells #[.int .i64 first, v] 28))) (.cells #[.int .i64 f, .int .i64 t] 43)) (.cells #[.int .i64 0, .slice none 0 0] 28)).block w.heap.size (by omega)).trans (World.alloc_heap_new w (.cells #[.int .i64 first, v] 28))
  have hr := (h.below HB).rd
  clear h s1 s2
  subst hv
  go_enter Try.func51, Try.ntmps51
  go_upto_region 1 with fail
  generalize ((w.alloc (.cells #[.int .i64 first, .slice ad C.length cp] 28)).alloc (.cells #[.int .i64 f, .int .i64 t] 43)).alloc (.cells #[.int .i64 0, .slice none 0 0] 28) = W at *
  have k1 := (Array.getElem?_eq_some_iff.1 n1).1
  have k2 := (Array.getElem?_eq_some_iff.1 n2).1
  have k3 := (Array.getElem?_eq_some_iff.1 n3).1
  refine Ap.wp_region_K (S1 := fun X => X.cell? ⟨w.heap.size, 0, none⟩ = some (.int .i64 first) ∧ X.cell? ⟨w.heap.size + 1, 0, none⟩ = some (.int .i64 f) ∧ X.cell? ⟨w.heap.size + 1, 1, none⟩ = some (.int .i64 t)) (S2 := fun X => X.cell? ⟨w.heap.size, 1, none⟩ = some (.slice ad C.length cp)) (js := 3) hmx ?_
  change Ap.wpAnyK _ _ _ _ _ _ _ 11 _ _ W.drew
  have hSS : (fun X : World => X.cell? ⟨w.heap.size, 0, none⟩ = some (.int .i64 first) ∧ X.cell? ⟨w.heap.size + 1, 0, none⟩ = some (.int .i64 f) ∧ X.cell? ⟨w.heap.size + 1, 1, none⟩ = some (.int .i64 t)) W.drew ∧ (fun X : World => X.cell? ⟨w.heap.size, 1, none⟩ = some (.slice ad C.length cp)) W.drew := ⟨⟨cell_of_block n1 rfl, cell_of_block n2 rfl, cell_of_block n2 rfl⟩, cell_of_block n1 rfl⟩
  refine Ap.wpAnyK_take1 (i := 1) (v := .pointer (some ⟨w.heap.size, 1, none⟩)) rfl (by decide) (by decide +kernel) (by decide +kernel) (by decide +kernel) (fun _ _ _ h => h) (.inl ⟨by first | rfl | (go_simp; done), fun X hX => by have hx1 := hX.1; have hx2 := hX.2.1; have hx3 := hX.2.2; clear hX; first | (go_simp; done) | (go_simp; rfl)⟩) hSS ?_
  refine Ap.wpAnyK_take2 (i := 2) (v := .slice ad C.length cp) rfl (by decide) (by decide +kernel) (by decide +kernel) (by decide +kernel) rfl (by decide +kernel) (by decide +kernel) (fun _ _ _ h => h) (.inl ⟨by first | rfl | (go_simp; done), fun X hX => by have hx1 := hX.2; clear hX; first | (go_simp; done) | (go_simp; rfl)⟩) hSS ?_
  refine Ap.wpAnyK_take1 (i := 4) (v := .agg #[.int .i64 f, .int .i64 t]) rfl (by decide) (by decide +kernel) (by decide +kernel) (by decide +kernel) (fun _ _ _ h => h) (.inl ⟨by first | rfl | (go_simp; done), fun X hX => by have hx1 := hX.1; have hx2 := hX.2.1; have hx3 := hX.2.2; clear hX; first | (go_simp; done) | (go_simp; rfl)⟩) hSS ?_
  refine Ap.wpAnyK_take1 (i := 5) (v := .int .i64 n) rfl (by decide) (by decide +kernel) (by decide +kernel) (by decide +kernel) (fun _ _ _ h => h) (.inl ⟨by first | rfl | (go_simp; done), fun X hX => by have hx1 := hX.1; have hx2 := hX.2.1; have hx3 := hX.2.2; clear hX; first | (go_simp; done) | (go_simp; rfl)⟩) hSS ?_
  refine Ap.wpAnyK_take1 (i := 6) (v := .agg #[.int .i64 f, .int .i64 t, .bool false, .int .i64 n]) rfl (by decide) (by decide +kernel) (by decide +kernel) (by decide +kernel) (fun _ _ _ h => h) (.inl ⟨by first | rfl | (go_simp; done), fun X hX => by have hx1 := hX.1; have hx2 := hX.2.1; have hx3 := hX.2.2; clear hX; first | (go_simp; done) | (go_simp; rfl)⟩) hSS ?_
  refine Ap.anyK_app2 (j0 := 0) (j1 := 3) (j2 := 7) (j3 := 8) (fuel := 2) (cs := #[.int .i64 f, .int .i64 t, .bool false, .int .i64 n]) eltC W.heap.size (.inl (by decide +kernel)) (.inl (by decide +kernel)) (by decide +kernel) (by decide +kernel) (by decide +kernel) (by decide +kernel) (by decide) rfl rfl rfl rfl ⟨rfl, rfl, rfl, rfl⟩ (by decide) ⟨rfl, rfl, rfl, rfl⟩ rfl rfl
    (by simp [Act.put]) (fun a' X => by first | (go_simp; done) | (go_simp; rfl)) (.slice ad C.length cp) C.length (flatC C) (fun u0 u2 => ⟨by simp [Act.put, Act.eval], by simp [Act.put, Act.eval]⟩) (hr.mono (Below.refl _ _).drew)
    (fun u0 u1 X => ⟨by first | (go_simp; done) | (go_simp; rfl), by first | (go_simp; done) | (go_simp; rfl), by first | (go_simp; done) | (go_simp; rfl)⟩) rfl (by intro u hu; simp at hu; rcases hu with rfl | rfl | rfl | rfl <;> rfl) (by unfold maxLen; omega) (by omega) (Nat.le_refl _)
    (fun X hb => ⟨⟨(hb.cell (p := ⟨w.heap.size, 0, none⟩) k1).trans hSS.1.1, (hb.cell (p := ⟨w.heap.size + 1, 0, none⟩) k2).trans hSS.1.2.1, (hb.cell (p := ⟨w.heap.size + 1, 1, none⟩) k2).trans hSS.1.2.2⟩, (hb.cell (p := ⟨w.heap.size, 1, none⟩) k1).trans hSS.2⟩) ?_
  intro u0 u1 u2 v0 X ho hb
  have hown := RowC.own (C := C ++ [⟨f, t, false, n⟩]) (v := v0) (by rw [flatC_append, List.length_append]; exact ho)
  obtain ⟨ad', n', cp', rfl⟩ : ∃ ad' n' cp', v0 = .slice ad' n' cp' := by obtain ⟨x, y, e⟩ := hown.form; exact ⟨_, _, _, e⟩
  have hS9 : (fun X : World => X.cell? ⟨w.heap.size, 0, none⟩ = some (.int .i64 first) ∧ X.cell? ⟨w.heap.size + 1, 0, none⟩ = some (.int .i64 f) ∧ X.cell? ⟨w.heap.size + 1, 1, none⟩ = some (.int .i64 t)) X ∧ (fun X : World => X.cell? ⟨w.heap.size, 1, none⟩ = some (.slice ad C.length cp)) X := ⟨⟨(hb.cell (p := ⟨w.heap.size, 0, none⟩) k1).trans hSS.1.1, (hb.cell (p := ⟨w.heap.size + 1, 0, none⟩) k2).trans hSS.1.2.1, (hb.cell (p := ⟨w.heap.size + 1, 1, none⟩) k2).trans hSS.1.2.2⟩, (hb.cell (p := ⟨w.heap.size, 1, none⟩) k1).trans hSS.2⟩
  have x1 := (hb.block w.heap.size k1).trans n1
  have x2 := (hb.block (w.heap.size + 1) k2).trans n2
  have x3 := (hb.block (w.heap.size + 1 + 1) k3).trans n3
  have y1 := cell_of_block (o := 1) x1 rfl
  have z1 := free_of_block 1 x1
  have hw := (wrote_refl x1).set 1 (.slice ad' n' cp')
  refine Ap.anyK_val1 (i := 9) (v := .pointer (some ⟨w.heap.size, 1, none⟩)) (w' := X) (by decide +kernel) rfl rfl (by first | (go_simp; done) | (go_simp; rfl)) hS9 ?_
  have hlt : w.heap.size < W.drew.heap.size := k1
  have hown' : RowC (X.setCell ⟨w.heap.size, 1, none⟩ (.slice ad' n' cp')) (.slice ad' n' cp') (C ++ [⟨f, t, false, n⟩]) := hown.keep x1 (.inl ⟨ad, C.length, cp, rfl⟩) (by rw [hw.size]; exact Nat.le_refl _) (fun g _ hne => hw.rest g hne)
  refine Ap.anyK_store (i := 10) (w' := X.setCell ⟨w.heap.size, 1, none⟩ (.slice ad' n' cp')) (by decide +kernel) rfl rfl (by decide +kernel) (by first | (go_simp; done) | (go_simp; rfl)) ⟨(cell_of_block (o := 0) hw.there rfl), (cell_of_block (o := 0) ((hw.rest _ (by omega)).trans x2) rfl), (cell_of_block (o := 1) ((hw.rest _ (by omega)).trans x2) rfl)⟩ ?_
  refine Ap.wpAnyK_done (by decide +kernel) ?_ _
  have q1 := cell_of_block (o := 0) hw.there rfl
  have q2 := cell_of_block (o := 1) hw.there rfl
  have r3 := (hw.rest (w.heap.size + 1 + 1) (by omega)).trans x3
  have r0 := cell_of_block (o := 0) r3 rfl
  have r1 := cell_of_block (o := 1) r3 rfl
  have f0 := free_of_block 0 r3
  have f1 := free_of_block 1 r3
  have HBX := Lib.hid (hw.below (Below.trans (Below.drew HB) (Below.mono hb HB.size)) (Nat.le_refl _))
  have hw3 := ((wrote_refl r3).set 0 (.int .i64 first)).set 1 (.slice ad' n' cp')
  have HO := Lib.hid (hown'.keep r3 (.inl ⟨none, 0, 0, rfl⟩) (by rw [hw3.size]; exact Nat.le_refl _) (fun g _ hne => hw3.rest g hne))
  have HBY := Lib.hid (hw3.below HBX.out (by omega))
  have HT := Lib.hid hw3.there
  clear hSS hS9 hown hown' ho hb HB n1 n2 n3 hr x1 x2 x3 y1 z1 hw hw3 r3
  go_wp2_with fail
  have e0 := cell_of_block (o := 0) HT.out rfl
  have e1 := cell_of_block (o := 1) HT.out rfl
  clear q1 q2 r0 r1 f0 f1
  generalize (((X.setCell ⟨w.heap.size, 1, none⟩ (.slice ad' n' cp')).setCell ⟨w.heap.size + 1 + 1, 0, none⟩ (.int .i64 first)).setCell ⟨w.heap.size + 1 + 1, 1, none⟩ (.slice ad' n' cp')) = Y at *
  exact bodyPost_ret (v := .agg #[.int .i64 first, .slice ad' n' cp']) (by simp [results, Try.results51, go_sem]; try go_simp) rfl ⟨_, rfl, HO.out, HBY.out⟩
set_option maxRecDepth 100000 in
set_option maxHeartbeats 8000000 in
theorem rchg_set {w : World} {v : Value} {C : List ChgC} (h : RowC w v C) (hlen : C.length ≤ 4294967296) (first f t n : Int) :
    Calls Try.prog 53 #[.agg #[.int .i64 first, v], .agg #[.int .i64 f, .int .i64 t], .int .i64 n] w fun e w' => ∃ v', e = .returned (.agg #[.int .i64 first, v']) ∧ RowC w' v' (C ++ [⟨f, t, true, n⟩]) ∧ Below w.heap.size w w' := by
  have hmx : Try.prog.follows .mixedOrders = true := by kernel_rfl
  obtain ⟨ad, cp, hv⟩ := h.form
  have HB := below_alloc (below_alloc (below_alloc (Below.refl _ w) (.cells #[.int .i64 first, v] 28)) (.cells #[.int .i64 f, .int .i64 t] 43)) (.cells #[.int .i64 0, .slice none 0 0] 28)
  have n3 := World.alloc_heap_new ((w.alloc (.cells #[.int .i64 first, v] 28)).alloc (.cells #[.int .i64 f, .int .i64 t] 43)) (.cells #[.int .i64 0, .slice none 0 0] 28)
  have s1 : (w.alloc (.cells #[.int .i64 first, v] 28)).heap.size = w.heap.size + 1 := by simp
  have s2 : ((w.alloc (.cells #[.int .i64 first, v] 28)).alloc (.cells #[.int .i64 f, .int .i64 t] 43)).heap.size = w.heap.size + 1 + 1 := by simp
  rw [s2] at n3
  have n2 := ((below_alloc (Below.refl _ ((w.alloc (.cells #[.int .i64 first, v] 28)).alloc (.cells #[.int .i64 f, .int .i64 t] 43))) (.cells #[.int .i64 0, .slice none 0 0] 28)).block (w.heap.size + 1) (by omega)).trans (s1 ▸ World.alloc_heap_new (w.alloc (.cells #[.int .i64 first, v] 28)) (.cells #[.int .i64 f, .int .i64 t] 43))
  have n1 := ((below_alloc (below_alloc (Below.refl _ (w.alloc (.cells #[.int .i64 first, v] 28))) (.cells #[.int .i64 f, .int .i64 t] 43)) (.cells #[.int .i64 0, .slice none 0 0] 28)).block w.heap.size (by omega)).trans (World.alloc_heap_new w (.cells #[.int .i64 first, v] 28))
  have hr := (h.below HB).rd
  clear h s1 s2
  subst hv
  go_enter Try.func53, Try.ntmps53
  go_upto_region 1 with fail
  generalize ((w.alloc (.cells #[.int .i64 first, .slice ad C.length cp] 28)).alloc (.cells #[.int .i64 f, .int .i64 t] 43)).alloc (.cells #[.int .i64 0, .slice none 0 0] 28) = W at *
  have k1 := (Array.getElem?_eq_some_iff.1 n1).1
  have k2 := (Array.getElem?_eq_some_iff.1 n2).1
  have k3 := (Array.getElem?_eq_some_iff.1 n3).1
  refine Ap.wp_region_K (S1 := fun X => X.cell? ⟨w.heap.size, 0, none⟩ = some (.int .i64 first) ∧ X.cell? ⟨w.heap.size + 1, 0, none⟩ = some (.int .i64 f) ∧ X.cell? ⟨w.heap.size + 1, 1, none⟩ = some (.int .i64 t)) (S2 := fun X => X.cell? ⟨w.heap.size, 1, none⟩ = some (.slice ad C.length cp)) (js := 3) hmx ?_
  change Ap.wpAnyK _ _ _ _ _ _ _ 11 _ _ W.drew
  have hSS : (fun X : World => X.cell? ⟨w.heap.size, 0, none⟩ = some (.int .i64 first) ∧ X.cell? ⟨w.heap.size + 1, 0, none⟩ = some (.int .i64 f) ∧ X.cell? ⟨w.heap.size + 1, 1, none⟩ = some (.int .i64 t)) W.drew ∧ (fun X : World => X.cell? ⟨w.heap.size, 1, none⟩ = some (.slice ad C.length cp)) W.drew := ⟨⟨cell_of_block n1 rfl, cell_of_block n2 rfl, cell_of_block n2 rfl⟩, cell_of_block n1 rfl⟩
  refine Ap.wpAnyK_take1 (i := 1) (v := .pointer (some ⟨w.heap.size, 1, none⟩)) rfl (by decide) (by decide +kernel) (by decide +kernel) (by decide +kernel) (fun _ _ _ h => h) (.inl ⟨by first | rfl | (go_simp; done), fun X hX => by have hx1 := hX.1; have hx2 := hX.2.1; have hx3 := hX.2.2; clear hX; first | (go_simp; done) | (go_simp; rfl)⟩) hSS ?_
  refine Ap.wpAnyK_take2 (i := 2) (v := .slice ad C.length cp) rfl (by decide) (by decide +kernel) (by decide +kernel) (by decide +kernel) rfl (by decide +kernel) (by decide +kernel) (fun _ _ _ h => h) (.inl ⟨by first | rfl | (go_simp; done), fun X hX => by have hx1 := hX.2; clear hX; first | (go_simp; done) | (go_simp; rfl)⟩) hSS ?_
  refine Ap.wpAnyK_take1 (i := 4) (v := .agg #[.int .i64 f, .int .i64 t]) rfl (by decide) (by decide +kernel) (by decide +kernel) (by decide +kernel) (fun _ _ _ h => h) (.inl ⟨by first | rfl | (go_simp; done), fun X hX => by have hx1 := hX.1; have hx2 := hX.2.1; have hx3 := hX.2.2; clear hX; first | (go_simp; done) | (go_simp; rfl)⟩) hSS ?_
  refine Ap.wpAnyK_take1 (i := 5) (v := .int .i64 n) rfl (by decide) (by decide +kernel) (by decide +kernel) (by decide +kernel) (fun _ _ _ h => h) (.inl ⟨by first | rfl | (go_simp; done), fun X hX => by have hx1 := hX.1; have hx2 := hX.2.1; have hx3 := hX.2.2; clear hX; first | (go_simp; done) | (go_simp; rfl)⟩) hSS ?_
  refine Ap.wpAnyK_take1 (i := 6) (v := .agg #[.int .i64 f, .int .i64 t, .bool true, .int .i64 n]) rfl (by decide) (by decide +kernel) (by decide +kernel) (by decide +kernel) (fun _ _ _ h => h) (.inl ⟨by first | rfl | (go_simp; done), fun X hX => by have hx1 := hX.1; have hx2 := hX.2.1; have hx3 := hX.2.2; clear hX; first | (go_simp; done) | (go_simp; rfl)⟩) hSS ?_
  refine Ap.anyK_app2 (j0 := 0) (j1 := 3) (j2 := 7) (j3 := 8) (fuel := 2) (cs := #[.int .i64 f, .int .i64 t, .bool true, .int .i64 n]) eltC W.heap.size (.inl (by decide +kernel)) (.inl (by decide +kernel)) (by decide +kernel) (by decide +kernel) (by decide +kernel) (by decide +kernel) (by decide) rfl rfl rfl rfl ⟨rfl, rfl, rfl, rfl⟩ (by decide) ⟨rfl, rfl, rfl, rfl⟩ rfl rfl
    (by simp [Act.put]) (fun a' X => by first | (go_simp; done) | (go_simp; rfl)) (.slice ad C.length cp) C.length (flatC C) (fun u0 u2 => ⟨by simp [Act.put, Act.eval], by simp [Act.put, Act.eval]⟩) (hr.mono (Below.refl _ _).drew)
    (fun u0 u1 X => ⟨by first | (go_simp; done) | (go_simp; rfl), by first | (go_simp; done) | (go_simp; rfl), by first | (go_simp; done) | (go_simp; rfl)⟩) rfl (by intro u hu; simp at hu; rcases hu with rfl | rfl | rfl | rfl <;> rfl) (by unfold maxLen; omega) (by omega) (Nat.le_refl _)
    (fun X hb => ⟨⟨(hb.cell (p := ⟨w.heap.size, 0, none⟩) k1).trans hSS.1.1, (hb.cell (p := ⟨w.heap.size + 1, 0, none⟩) k2).trans hSS.1.2.1, (hb.cell (p := ⟨w.heap.size + 1, 1, none⟩) k2).trans hSS.1.2.2⟩, (hb.cell (p := ⟨w.heap.size, 1, none⟩) k1).trans hSS.2⟩) ?_
  intro u0 u1 u2 v0 X ho hb
  have hown := RowC.own (C := C ++ [⟨f, t, true, n⟩]) (v := v0) (by rw [flatC_append, List.length_append]; exact ho)
  obtain ⟨ad', n', cp', rfl⟩ : ∃ ad' n' cp', v0 = .slice ad' n' cp' := by obtain ⟨x, y, e⟩ := hown.form; exact ⟨_, _, _, e⟩
  have hS9 : (fun X : World => X.cell? ⟨w.heap.size, 0, none⟩ = some (.int .i64 first) ∧ X.cell? ⟨w.heap.size + 1, 0, none⟩ = some (.int .i64 f) ∧ X.cell? ⟨w.heap.size + 1, 1, none⟩ = some (.int .i64 t)) X ∧ (fun X : World => X.cell? ⟨w.heap.size, 1, none⟩ = some (.slice ad C.length cp)) X := ⟨⟨(hb.cell (p := ⟨w.heap.size, 0, none⟩) k1).trans hSS.1.1, (hb.cell (p := ⟨w.heap.size + 1, 0, none⟩) k2).trans hSS.1.2.1, (hb.cell (p := ⟨w.heap.size + 1, 1, none⟩) k2).trans hSS.1.2.2⟩, (hb.cell (p := ⟨w.heap.size, 1, none⟩) k1).trans hSS.2⟩
  have x1 := (hb.block w.heap.size k1).trans n1
  have x2 := (hb.block (w.heap.size + 1) k2).trans n2
  have x3 := (hb.block (w.heap.size + 1 + 1) k3).trans n3
  have y1 := cell_of_block (o := 1) x1 rfl
  have z1 := free_of_block 1 x1
  have hw := (wrote_refl x1).set 1 (.slice ad' n' cp')
  refine Ap.anyK_val1 (i := 9) (v := .pointer (some ⟨w.heap.size, 1, none⟩)) (w' := X) (by decide +kernel) rfl rfl (by first | (go_simp; done) | (go_simp; rfl)) hS9 ?_
  have hlt : w.heap.size < W.drew.heap.size := k1
  have hown' : RowC (X.setCell ⟨w.heap.size, 1, none⟩ (.slice ad' n' cp')) (.slice ad' n' cp') (C ++ [⟨f, t, true, n⟩]) := hown.keep x1 (.inl ⟨ad, C.length, cp, rfl⟩) (by rw [hw.size]; exact Nat.le_refl _) (fun g _ hne => hw.rest g hne)
  refine Ap.anyK_store (i := 10) (w' := X.setCell ⟨w.heap.size, 1, none⟩ (.slice ad' n' cp')) (by decide +kernel) rfl rfl (by decide +kernel) (by first | (go_simp; done) | (go_simp; rfl)) ⟨(cell_of_block (o := 0) hw.there rfl), (cell_of_block (o := 0) ((hw.rest _ (by omega)).trans x2) rfl), (cell_of_block (o := 1) ((hw.rest _ (by omega)).trans x2) rfl)⟩ ?_
  refine Ap.wpAnyK_done (by decide +kernel) ?_ _
  have q1 := cell_of_block (o := 0) hw.there rfl
  have q2 := cell_of_block (o := 1) hw.there rfl
  have r3 := (hw.rest (w.heap.size + 1 + 1) (by omega)).trans x3
  have r0 := cell_of_block (o := 0) r3 rfl
  have r1 := cell_of_block (o := 1) r3 rfl
  have f0 := free_of_block 0 r3
  have f1 := free_of_block 1 r3
  have HBX := Lib.hid (hw.below (Below.trans (Below.drew HB) (Below.mono hb HB.size)) (Nat.le_refl _))
  have hw3 := ((wrote_refl r3).set 0 (.int .i64 first)).set 1 (.slice ad' n' cp')
  have HO := Lib.hid (hown'.keep r3 (.inl ⟨none, 0, 0, rfl⟩) (by rw [hw3.size]; exact Nat.le_refl _) (fun g _ hne => hw3.rest g hne))
  have HBY := Lib.hid (hw3.below HBX.out (by omega))
  have HT := Lib.hid hw3.there
  clear hSS hS9 hown hown' ho hb HB n1 n2 n3 hr x1 x2 x3 y1 z1 hw hw3 r3
  go_wp2_with fail
  have e0 := cell_of_block (o := 0) HT.out rfl
  have e1 := cell_of_block (o := 1) HT.out rfl
  clear q1 q2 r0 r1 f0 f1
  generalize (((X.setCell ⟨w.heap.size, 1, none⟩ (.slice ad' n' cp')).setCell ⟨w.heap.size + 1 + 1, 0, none⟩ (.int .i64 first)).setCell ⟨w.heap.size + 1 + 1, 1, none⟩ (.slice ad' n' cp')) = Y at *
  exact bodyPost_ret (v := .agg #[.int .i64 first, .slice ad' n' cp']) (by simp [results, Try.results53, go_sem]; try go_simp) rfl ⟨_, rfl, HO.out, HBY.out⟩
set_option maxRecDepth 100000 in
set_option maxHeartbeats 8000000 in
theorem rchg_forget {w : World} {v : Value} {C : List ChgC} (h : RowC w v C) (hlen : C.length ≤ 4294967296) (first t : Int) :
    Calls Try.prog 55 #[.agg #[.int .i64 first, v], .int .i64 t] w fun e w' => ∃ v', e = .returned (.agg #[.int .i64 first, v']) ∧ RowC w' v' (rforgetU first C t) ∧ Below w.heap.size w w' := by
  have hmx : Try.prog.follows .mixedOrders = true := by kernel_rfl
  obtain ⟨ad, cp, hv⟩ := h.form
  have HB := below_alloc (below_alloc (Below.refl _ w) (.cells #[.int .i64 first, v] 28)) (.cells #[.int .i64 0, .slice none 0 0] 28)
  have n2 := World.alloc_heap_new (w.alloc (.cells #[.int .i64 first, v] 28)) (.cells #[.int .i64 0, .slice none 0 0] 28)
  have s1 : (w.alloc (.cells #[.int .i64 first, v] 28)).heap.size = w.heap.size + 1 := by simp
  rw [s1] at n2
  have n1 := ((below_alloc (Below.refl _ (w.alloc (.cells #[.int .i64 first, v] 28))) (.cells #[.int .i64 0, .slice none 0 0] 28)).block w.heap.size (by omega)).trans (World.alloc_heap_new w (.cells #[.int .i64 first, v] 28))
  have HR := Lib.hid (h.below HB)
  have HBW := Lib.hid HB
  clear h s1 HB
  subst hv
  go_enter Try.func55, Try.ntmps55
  go_upto_region 1 with fail
  generalize (w.alloc (.cells #[.int .i64 first, .slice ad C.length cp] 28)).alloc (.cells #[.int .i64 0, .slice none 0 0] 28) = W at *
  have k1 := (Array.getElem?_eq_some_iff.1 n1).1
  have k2 := (Array.getElem?_eq_some_iff.1 n2).1
  have c0 := cell_of_block (o := 0) n1 rfl
  have c1 := cell_of_block (o := 1) n1 rfl
  by_cases ht : t ≥ 1099511627776
  case pos =>
    have hd : decide (t ≥ 1099511627776) = true := decide_eq_true ht
    have E := Lib.hid (show rforgetU first C t = C by unfold rforgetU; rw [if_pos ht])
    have f0 := free_of_block 0 n2
    have f1 := free_of_block 1 n2
    have d0 := cell_of_block (o := 0) n2 rfl
    have d1 := cell_of_block (o := 1) n2 rfl
    have hw3 := ((wrote_refl n2).set 0 (.int .i64 first)).set 1 (.slice ad C.length cp)
    have HO := Lib.hid (HR.out.keep n2 (.inl ⟨none, 0, 0, rfl⟩) (by rw [hw3.size]; exact Nat.le_refl _) (fun g _ hne => hw3.rest g hne))
    have HBY := Lib.hid (hw3.below HBW.out (by omega))
    have HT := Lib.hid hw3.there
    clear hw3
    go_wp2_with fail
    have e0 := cell_of_block (o := 0) HT.out rfl
    have e1 := cell_of_block (o := 1) HT.out rfl
    clear c0 c1 d0 d1 f0 f1
    generalize ((W.setCell ⟨w.heap.size + 1, 0, none⟩ (.int .i64 first)).setCell ⟨w.heap.size + 1, 1, none⟩ (.slice ad C.length cp)) = Y at *
    exact bodyPost_ret (v := .agg #[.int .i64 first, .slice ad C.length cp]) (by simp [results, Try.results55, go_sem]; try go_simp) rfl ⟨_, rfl, by rw [E.out]; exact HO.out, HBY.out⟩
  case neg =>
    have hd : decide (t ≥ 1099511627776) = false := decide_eq_false ht
    have E := Lib.hid (show rforgetU first C t = C ++ [⟨0, t, true, ratU first C t⟩] by unfold rforgetU; rw [if_neg ht])
    obtain ⟨y, hy⟩ : ∃ y, y = ratU first C t := ⟨_, rfl⟩
    go_upto_region 3 with fail
    refine Ap.wp_region_K (S1 := fun X => X.cell? ⟨w.heap.size, 0, none⟩ = some (.int .i64 first) ∧ X.cell? ⟨w.heap.size, 1, none⟩ = some (.slice ad C.length cp)) (S2 := fun _ => True) (js := 7) hmx ?_
    change Ap.wpAnyK _ _ _ _ _ _ _ 8 _ _ W.drew
    have hSS : (fun X : World => X.cell? ⟨w.heap.size, 0, none⟩ = some (.int .i64 first) ∧ X.cell? ⟨w.heap.size, 1, none⟩ = some (.slice ad C.length cp)) W.drew ∧ (fun _ : World => True) W.drew := ⟨⟨c0, c1⟩, trivial⟩
    clear c0 c1
    refine Ap.wpAnyK_take1 (i := 0) (v := .agg #[.int .i64 first, .slice ad C.length cp]) rfl (by decide) (by decide +kernel) (by decide +kernel) (by decide +kernel) (fun _ _ _ h => h) (.inl ⟨by first | rfl | (go_simp; done), fun X hX => by have hx1 := hX.1; have hx2 := hX.2; clear hX; first | (go_simp; done) | (go_simp; rfl)⟩) hSS ?_
    refine Ap.wpAnyK_take1 (i := 1) (v := .int .i64 t) rfl (by decide) (by decide +kernel) (by decide +kernel) (by decide +kernel) (fun _ _ _ h => h) (.inl ⟨by first | rfl | (go_simp; done), fun X hX => by have hx1 := hX.1; have hx2 := hX.2; clear hX; first | (go_simp; done) | (go_simp; rfl)⟩) hSS ?_
    refine Ap.wpAnyK_take1 (i := 2) (v := .agg #[.int .i64 0, .int .i64 t]) rfl (by decide) (by decide +kernel) (by decide +kernel) (by decide +kernel) (fun _ _ _ h => h) (.inl ⟨by first | rfl | (go_simp; done), fun X hX => by have hx1 := hX.1; have hx2 := hX.2; clear hX; first | (go_simp; done) | (go_simp; rfl)⟩) hSS ?_
    refine Ap.wpAnyK_take1 (i := 3) (v := .agg #[.int .i64 first, .slice ad C.length cp]) rfl (by decide) (by decide +kernel) (by decide +kernel) (by decide +kernel) (fun _ _ _ h => h) (.inl ⟨by first | rfl | (go_simp; done), fun X hX => by have hx1 := hX.1; have hx2 := hX.2; clear hX; first | (go_simp; done) | (go_simp; rfl)⟩) hSS ?_
    refine Ap.wpAnyK_take1 (i := 4) (v := .int .i64 t) rfl (by decide) (by decide +kernel) (by decide +kernel) (by decide +kernel) (fun _ _ _ h => h) (.inl ⟨by first | rfl | (go_simp; done), fun X hX => by have hx1 := hX.1; have hx2 := hX.2; clear hX; first | (go_simp; done) | (go_simp; rfl)⟩) hSS ?_
    refine Ap.anyK_call (i := 5) (by decide +kernel) rfl rfl (by go_simp) (rat_any (HR.out.below (Below.refl _ _).drew) hlen first t) ?_
    rintro e X ⟨rfl, hb⟩
    rw [← hy]
    have x1 := (hb.block w.heap.size k1).trans n1
    have hS5 : (fun X : World => X.cell? ⟨w.heap.size, 0, none⟩ = some (.int .i64 first) ∧ X.cell? ⟨w.heap.size, 1, none⟩ = some (.slice ad C.length cp)) X := ⟨cell_of_block x1 rfl, cell_of_block x1 rfl⟩
    refine ⟨_, rfl, ⟨hS5, fun _ => trivial⟩, ?_⟩
    refine Ap.anyK_call (i := 6) (by decide +kernel) rfl rfl (by go_simp) (rchg_set ((HR.out.below (Below.refl _ _).drew).below hb) hlen first 0 t y) ?_
    rintro e X2 ⟨v', rfl, hr2, hb2⟩
    obtain ⟨ad', n', cp', rfl⟩ : ∃ ad' n' cp', v' = .slice ad' n' cp' := by obtain ⟨x, z, e⟩ := hr2.form; exact ⟨_, _, _, e⟩
    have hx1 : W.heap.size ≤ X.heap.size := hb.size
    have x2 := (hb2.block w.heap.size (by omega)).trans x1
    have y2 := (hb2.block (w.heap.size + 1) (by omega)).trans ((hb.block (w.heap.size + 1) k2).trans n2)
    refine ⟨_, rfl, ⟨⟨cell_of_block x2 rfl, cell_of_block x2 rfl⟩, fun _ => trivial⟩, ?_⟩
    have f0 := free_of_block 0 y2
    have f1 := free_of_block 1 y2
    have d0 := cell_of_block (o := 0) y2 rfl
    have d1 := cell_of_block (o := 1) y2 rfl
    have hw3 := ((wrote_refl y2).set 0 (.int .i64 first)).set 1 (.slice ad' n' cp')
    have HO := Lib.hid (hr2.keep y2 (.inl ⟨none, 0, 0, rfl⟩) (by rw [hw3.size]; exact Nat.le_refl _) (fun g _ hne => hw3.rest g hne))
    have HBY := Lib.hid (hw3.below (below_next (below_next (Below.drew HBW.out) hb) hb2) (by omega))
    have HT := Lib.hid hw3.there
    have z0 := (hw3.rest w.heap.size (by omega)).trans x2
    refine Ap.anyK_store (i := 7) (w' := (X2.setCell ⟨w.heap.size + 1, 0, none⟩ (.int .i64 first)).setCell ⟨w.heap.size + 1, 1, none⟩ (.slice ad' n' cp')) (by decide +kernel) rfl rfl (by decide +kernel) (by first | (go_simp; done) | (go_simp; rfl)) ⟨cell_of_block z0 rfl, cell_of_block z0 rfl⟩ ?_
    refine Ap.wpAnyK_done (by decide +kernel) ?_ _
    clear hw3 f0 f1 d0 d1 hSS hS5 x1 x2 y2 hb hb2 hr2 z0
    have e0 := cell_of_block (o := 0) HT.out rfl
    have e1 := cell_of_block (o := 1) HT.out rfl
    generalize ((X2.setCell ⟨w.heap.size + 1, 0, none⟩ (.int .i64 first)).setCell ⟨w.heap.size + 1, 1, none⟩ (.slice ad' n' cp')) = Y at *
    go_wp2_with fail
    exact bodyPost_ret (v := .agg #[.int .i64 first, .slice ad' n' cp']) (by simp [results, Try.results55, go_sem]; try go_simp) rfl ⟨_, rfl, by rw [E.out, ← hy]; exact HO.out, HBY.out⟩
end Go.Proofs.Ytbhnjmdlagjfbaa
namespace Go.Proofs.Ytbhnjmdlagjfbaa
set_option linter.unusedVariables false
open Go.ChangeShapes Go.WideShapes Go.ChangeAt Go.RowKit
/-- a time more, where it belongs, once -/
def insT : List Int → Int → List Int
  | [], t => [t]
  | x :: r, t => if x < t then x :: insT r t else if x = t then x :: r else t :: x :: r
def putT (l : List Int) (t : Int) : List Int := if t ≥ 1099511627776 then l else insT l t
theorem insT_mem : ∀ (l : List Int) (t x : Int), x ∈ insT l t ↔ x = t ∨ x ∈ l
  | [], t, x => by simp [insT]
  | y :: r, t, x => by
    unfold insT
    have ih := insT_mem r t x
    split
    · simp only [List.mem_cons, ih]
      constructor
      · rintro (h | h | h)
        · exact .inr (.inl h)
        · exact .inl h
        · exact .inr (.inr h)
      · rintro (h | h | h)
        · exact .inr (.inl h)
        · exact .inl h
        · exact .inr (.inr h)
    · split
      · rename_i h1 h2
        subst h2
        simp only [List.mem_cons]
        constructor
        · exact fun h => .inr h
        · rintro (h | h)
          · exact .inl h
          · exact h
      · simp only [List.mem_cons]
theorem insT_sorted : ∀ (l : List Int) (t : Int), l.Pairwise (· < ·) → (insT l t).Pairwise (· < ·)
  | [], t, _ => by simp [insT]
  | y :: r, t, h => by
    obtain ⟨h1, h2⟩ := List.pairwise_cons.1 h
    unfold insT
    split
    · rename_i hy
      refine List.pairwise_cons.2 ⟨fun z hz => ?_, insT_sorted r t h2⟩
      rcases (insT_mem r t z).1 hz with rfl | hz
      · exact hy
      · exact h1 z hz
    · split
      · exact h
      · refine List.pairwise_cons.2 ⟨fun z hz => ?_, h⟩
        rcases List.mem_cons.1 hz with rfl | hz
        · omega
        · have := h1 z hz; omega
theorem insT_len (l : List Int) (t : Int) : (insT l t).length ≤ l.length + 1 := by
  induction l with
  | nil => simp [insT]
  | cons y r ih =>
    unfold insT
    split
    · simp only [List.length_cons]; omega
    · split <;> simp
/-- times that rise, from 0 on -/
structure TimesU (l : List Int) : Prop where
  sorted : l.Pairwise (· < ·)
  zero : l.head? = some 0
  hi : ∀ x ∈ l, 0 ≤ x ∧ x < 1099511627776
theorem TimesU.one : TimesU [0] := ⟨by simp, rfl, fun x hx => by simp at hx; subst hx; decide⟩
theorem TimesU.put {l : List Int} (h : TimesU l) {t : Int} (h0 : 0 ≤ t) : TimesU (putT l t) := by
  unfold putT
  split
  · exact h
  · refine ⟨insT_sorted l t h.sorted, ?_, fun x hx => ?_⟩
    · cases l with
      | nil => have := h.zero; simp at this
      | cons y r =>
        have hy : y = 0 := by simpa using h.zero
        subst hy
        unfold insT
        split
        · rfl
        · split
          · rfl
          · rename_i h1 h2; omega
    · rcases (insT_mem l t x).1 hx with rfl | hx
      · exact ⟨h0, by omega⟩
      · exact h.hi x hx
theorem putT_mem {l : List Int} {t x : Int} : x ∈ putT l t ↔ (x = t ∧ t < 1099511627776) ∨ x ∈ l := by
  unfold putT
  split
  · constructor
    · exact fun h => .inr h
    · rintro (h | h)
      · omega
      · exact h
  · rw [insT_mem]
    constructor
    · rintro (h | h)
      · exact .inl ⟨h, by omega⟩
      · exact .inr h
    · rintro (h | h)
      · exact .inl h.1
      · exact .inr h
/-- the document's times -/
def timesU (C : List ChgC) : List Int := C.foldl (fun l c => putT (putT l (cleanI (c.f, c.t)).1) (cleanI (c.f, c.t)).2) [0]
theorem clean_nonneg (f t : Int) : 0 ≤ (cleanI (f, t)).1 ∧ 0 ≤ (cleanI (f, t)).2 := by
  have h1 := clampI_bounds f
  have h2 := clampI_bounds t
  unfold cleanI
  split
  · exact ⟨Int.le_refl _, Int.le_refl _⟩
  · exact ⟨h1.1, h2.1⟩
theorem times_fold (C : List ChgC) : ∀ l, TimesU l → TimesU (C.foldl (fun l c => putT (putT l (cleanI (c.f, c.t)).1) (cleanI (c.f, c.t)).2) l) ∧ (∀ x ∈ l, x ∈ C.foldl (fun l c => putT (putT l (cleanI (c.f, c.t)).1) (cleanI (c.f, c.t)).2) l) ∧ ∀ c ∈ C, clampI c.f < clampI c.t → (clampI c.f ∈ C.foldl (fun l c => putT (putT l (cleanI (c.f, c.t)).1) (cleanI (c.f, c.t)).2) l) ∧ (clampI c.t < 1099511627776 → clampI c.t ∈ C.foldl (fun l c => putT (putT l (cleanI (c.f, c.t)).1) (cleanI (c.f, c.t)).2) l) := by
  induction C with
  | nil => exact fun l h => ⟨h, fun x hx => hx, fun c hc => by cases hc⟩
  | cons d r ih =>
    intro l h
    obtain ⟨i1, i2, i3⟩ := ih _ ((h.put (clean_nonneg d.f d.t).1).put (clean_nonneg d.f d.t).2)
    rw [List.foldl_cons]
    refine ⟨i1, fun x hx => i2 x (putT_mem.2 (.inr (putT_mem.2 (.inr hx)))), fun c hc hft => ?_⟩
    rcases List.mem_cons.1 hc with rfl | hc
    · have hcl : cleanI (c.f, c.t) = (clampI c.f, clampI c.t) := by unfold cleanI; simp only; rw [if_neg (by omega)]
      have hb := clampI_bounds c.t
      refine ⟨i2 _ ?_, fun h2 => i2 _ ?_⟩
      · rw [hcl]; exact putT_mem.2 (.inr (putT_mem.2 (.inl ⟨rfl, by simp only; omega⟩)))
      · rw [hcl]; exact putT_mem.2 (.inl ⟨rfl, h2⟩)
    · exact i3 c hc hft
theorem timesU_times (C : List ChgC) : TimesU (timesU C) := (times_fold C [0] TimesU.one).1
/-- between two times nothing turns -/
theorem same_between {C : List ChgC} {first x y : Int} (hx : 0 ≤ x) (hxy : x ≤ y) (hy : y < 1099511627776) (h : ∀ p ∈ timesU C, ¬ (x < p ∧ p ≤ y)) : C.foldl (ratStep y) (boundU first) = C.foldl (ratStep x) (boundU first) := by
  have key : ∀ (D : List ChgC), (∀ c ∈ D, c ∈ C) → ∀ v, D.foldl (ratStep y) v = D.foldl (ratStep x) v := by
    intro D
    induction D with
    | nil => intro _ v; rfl
    | cons c r ih =>
      intro hD v
      rw [List.foldl_cons, List.foldl_cons]
      have hs : ratStep y v c = ratStep x v c := by
        rw [ratStep_iff _ _ _ (by omega) hy, ratStep_iff _ _ _ hx (by omega)]
        by_cases hft : clampI c.f < clampI c.t
        · have hm := (times_fold C [0] TimesU.one).2.2 c (hD c List.mem_cons_self) hft
          have h1 := h _ hm.1
          have h2 : clampI c.t < 1099511627776 → ¬ (x < clampI c.t ∧ clampI c.t ≤ y) := fun hl => h _ (hm.2 hl)
          have hiff : (clampI c.f < clampI c.t ∧ c.f ≤ y ∧ y < c.t) ↔ (clampI c.f < clampI c.t ∧ c.f ≤ x ∧ x < c.t) := by
            rcases clamp_facts c.f with ⟨a, b⟩ | ⟨a, d, b⟩ | ⟨a, b⟩ <;> rcases clamp_facts c.t with ⟨a', b'⟩ | ⟨a', d', b'⟩ | ⟨a', b'⟩ <;> rw [b] at h1 ⊢ <;> rw [b'] at h2 ⊢ <;> omega
          by_cases hc : clampI c.f < clampI c.t ∧ c.f ≤ x ∧ x < c.t
          · rw [if_pos hc, if_pos (hiff.2 hc)]
          · rw [if_neg hc, if_neg (fun hh => hc (hiff.1 hh))]
        · rw [if_neg (fun hh => hft hh.1), if_neg (fun hh => hft hh.1)]
      rw [hs]
      exact ih (fun d hd => hD d (List.mem_cons_of_mem _ hd)) _
  exact key C (fun c hc => hc) _
/-- the document's steps -/
def listR (first : Int) (C : List ChgC) : List (Int × Int) := (timesU C).foldl (fun l t => layU l t (ratU first C t)) []
theorem ratU_fold {first : Int} {C : List ChgC} {t : Int} (h0 : 0 ≤ t) (h1 : t < 1099511627776) : ratU first C t = C.foldl (ratStep t) (boundU first) := by
  unfold ratU
  rw [clampI_of h0 (by omega), if_neg (by omega)]
/-- what has been laid of times that rise -/
theorem lay_rep {g : Int → Int} : ∀ (r : List Int) (l : List (Int × Int)) (T : Int), 0 ≤ T → T < 1099511627776 → (T :: r).Pairwise (· < ·) → (∀ x ∈ r, x < 1099511627776) → RepU l g T →
    (∀ a b : List Int, ∀ x y : Int, T :: r = a ++ x :: y :: b → ∀ z, x ≤ z → z < y → g z = g x) → (∀ x, (T :: r).getLast? = some x → ∀ z, x ≤ z → z < 1099511627776 → g z = g x) → RepU ((T :: r).foldl (fun l t => layU l t (g t)) l) g 1099511627776
  | [], l, T, h0, h1, _, _, hr, _, hl => by
    rw [List.foldl_cons, List.foldl_nil]
    exact hr.lay h0 h1 (hl T rfl)
  | y :: r, l, T, h0, h1, hs, hh, hr, hg, hl => by
    rw [List.foldl_cons]
    obtain ⟨s1, s2⟩ := List.pairwise_cons.1 hs
    have hTy := s1 y List.mem_cons_self
    refine lay_rep r _ y (by omega) (hh y List.mem_cons_self) s2 (fun x hx => hh x (List.mem_cons_of_mem _ hx)) (hr.lay h0 hTy (hg [] r T y rfl)) (fun a b x z e => hg (T :: a) b x z (by rw [e]; rfl)) (fun x hx => hl x (by rw [List.getLast?_cons_cons]; exact hx))
theorem sorted_gap {l : List Int} (h : l.Pairwise (· < ·)) {a b : List Int} {x y : Int} (e : l = a ++ x :: y :: b) : ∀ p ∈ l, ¬ (x < p ∧ p < y) := by
  intro p hp hc
  rw [e] at h hp
  obtain ⟨_, h2, h3⟩ := List.pairwise_append.1 h
  obtain ⟨h4, h5⟩ := List.pairwise_cons.1 h2
  obtain ⟨h6, _⟩ := List.pairwise_cons.1 h5
  rcases List.mem_append.1 hp with hp | hp
  · have := h3 p hp x List.mem_cons_self; omega
  · rcases List.mem_cons.1 hp with rfl | hp
    · omega
    · rcases List.mem_cons.1 hp with rfl | hp
      · omega
      · have := h6 p hp; omega
theorem sorted_last {l : List Int} (h : l.Pairwise (· < ·)) {x : Int} (e : l.getLast? = some x) : ∀ p ∈ l, p ≤ x := by
  intro p hp
  obtain ⟨a, rfl⟩ := List.getLast?_eq_some_iff.1 e
  obtain ⟨_, _, h3⟩ := List.pairwise_append.1 h
  rcases List.mem_append.1 hp with hp | hp
  · have := h3 p hp x (by simp); omega
  · simp at hp; omega
theorem list_rep (first : Int) (C : List ChgC) : RepU (listR first C) (fun x => C.foldl (ratStep x) (boundU first)) 1099511627776 := by
  have ht := timesU_times C
  have hf : listR first C = (timesU C).foldl (fun l t => layU l t ((fun x => C.foldl (ratStep x) (boundU first)) t)) [] := by
    unfold listR
    have : ∀ (m : List Int) (l : List (Int × Int)), (∀ x ∈ m, 0 ≤ x ∧ x < 1099511627776) → m.foldl (fun l t => layU l t (ratU first C t)) l = m.foldl (fun l t => layU l t ((fun x => C.foldl (ratStep x) (boundU first)) t)) l := by
      intro m
      induction m with
      | nil => intro l _; rfl
      | cons x r ih =>
        intro l hm
        have hx := hm x List.mem_cons_self
        rw [List.foldl_cons, List.foldl_cons, ratU_fold hx.1 hx.2]
        exact ih _ (fun y hy => hm y (List.mem_cons_of_mem _ hy))
    exact this _ _ ht.hi
  rw [hf]
  have hz := ht.zero
  have hgap : ∀ a b : List Int, ∀ x y : Int, timesU C = a ++ x :: y :: b → ∀ z, x ≤ z → z < y → C.foldl (ratStep z) (boundU first) = C.foldl (ratStep x) (boundU first) := fun a b x y e z h1 h2 => by
    have hx := ht.hi x (by rw [e]; simp)
    have hy := ht.hi y (by rw [e]; simp)
    exact same_between hx.1 h1 (by omega) (fun p hp hc => sorted_gap ht.sorted e p hp ⟨hc.1, by omega⟩)
  have hlast : ∀ x, (timesU C).getLast? = some x → ∀ z, x ≤ z → z < 1099511627776 → C.foldl (ratStep z) (boundU first) = C.foldl (ratStep x) (boundU first) := fun x e z h1 h2 => by
    have hx := ht.hi x (List.mem_of_getLast? e)
    exact same_between hx.1 h1 h2 (fun p hp hc => by have := sorted_last ht.sorted e p hp; omega)
  cases hl : timesU C with
  | nil => rw [hl] at hz; simp at hz
  | cons T r =>
    rw [hl] at hz hgap hlast
    have hT : T = 0 := by simpa using hz
    subst hT
    exact lay_rep r [] 0 (by decide) (by decide) (hl ▸ ht.sorted) (fun x hx => (ht.hi x (by rw [hl]; exact List.mem_cons_of_mem _ hx)).2) ⟨fun _ => rfl, (fun p hp => by simp at hp), by simp, (fun a b p q e => by simp at e), (fun p hp => by cases hp), fun x h0 h1 => by omega⟩ hgap hlast
/-- the document's steps are those -/
theorem like_list {first : Int} {L : List (Int × Int)} {C : List ChgC} (h : LikeU first L C) (hr : RightU L) : listR first C = L := by
  have hrep := list_rep first C
  have hb : ∀ x, 0 ≤ x → x < 1099511627776 → -1000000 ≤ C.foldl (ratStep x) (boundU first) ∧ C.foldl (ratStep x) (boundU first) ≤ 1000000 := by
    intro x h0 h1
    have : ∀ (D : List ChgC) (v : Int), (-1000000 ≤ v ∧ v ≤ 1000000) → -1000000 ≤ D.foldl (ratStep x) v ∧ D.foldl (ratStep x) v ≤ 1000000 := by
      intro D
      induction D with
      | nil => intro v hv; exact hv
      | cons c r ih =>
        intro v hv
        rw [List.foldl_cons]
        refine ih _ ?_
        rw [ratStep_iff _ _ _ h0 h1]
        split
        · split
          · exact boundU_in _
          · exact addF_in _ _
        · exact hv
    exact this C _ (boundU_in _)
  refine right_same_steps (rep_right hrep hb) hr fun x h0 h1 => ?_
  rw [hrep.val x h0 h1, h x h0 h1]
end Go.Proofs.Ytbhnjmdlagjfbaa
namespace Go.Proofs.Ytbhnjmdlagjfbaa
set_option linter.unusedVariables false
open Go.ChangeShapes Go.WideShapes Go.ChangeAt Go.RowKit
attribute [local go_sem ↓] Go.wp_at_zero Go.wp_at_succ comesTo_value_eq comesTo_skip_eq comesTo_enter_eq

theorem insT_at : ∀ (l : List Int) (t : Int) (k : Nat), k ≤ l.length → (∀ j, j < k → l.getD j 0 < t) → (k < l.length → ¬ l.getD k 0 < t) → insT l t = if k < l.length ∧ l.getD k 0 = t then l else l.take k ++ t :: l.drop k
  | [], t, k, hk, _, _ => by
    obtain rfl : k = 0 := by simpa using hk
    rfl
  | y :: r, t, 0, _, _, h2 => by
    have h := h2 (by simp)
    simp only [List.getD_cons_zero] at h
    unfold insT
    rw [if_neg h]
    simp only [List.length_cons, List.getD_cons_zero, List.take_zero, List.drop_zero, List.nil_append]
    by_cases e : y = t
    · rw [if_pos e, if_pos ⟨by omega, e⟩]
    · rw [if_neg e, if_neg (fun hh => e hh.2)]
  | y :: r, t, k + 1, hk, h1, h2 => by
    have hy := h1 0 (by omega)
    simp only [List.getD_cons_zero] at hy
    have ih := insT_at r t k (by simpa using hk) (fun j hj => by have := h1 (j + 1) (by omega); simpa using this) (fun hh => by have := h2 (by simpa using hh); simpa using this)
    unfold insT
    rw [if_pos hy, ih]
    simp only [List.length_cons, List.getD_cons_succ, Nat.add_lt_add_iff_right]
    by_cases e : k < r.length ∧ r.getD k 0 = t
    · rw [if_pos e, if_pos e]
    · rw [if_neg e, if_neg e]; simp
/-- a row of times, none of which is missing -/
def RowT (w : World) (v : Value) (l : List Int) : Prop := ∃ g c, v = .slice (some ⟨g, 0, none⟩) l.length c ∧ l.length ≤ c ∧ g < w.heap.size ∧ ∀ k, k < l.length → w.cell? ⟨g, k, none⟩ = some (.int .i64 (l.getD k 0))
theorem RowT.below {w w' : World} {v : Value} {l : List Int} (h : RowT w v l) (hb : Below w.heap.size w w') : RowT w' v l := by
  obtain ⟨g, c, e, hc, hg, hr⟩ := h
  exact ⟨g, c, e, hc, Nat.lt_of_lt_of_le hg hb.size, fun k hk => (hb.cell (p := ⟨g, k, none⟩) hg).trans (hr k hk)⟩
def flatT (l : List Int) : List Value := l.map (Value.int .i64)
theorem flatT_len (l : List Int) : (flatT l).length = l.length * 1 := by simp [flatT]
theorem flatT_one (l : List Int) : ∀ u ∈ flatT l, u.oneCell' = true := fun u hu => by
  obtain ⟨y, _, rfl⟩ := List.mem_map.1 hu
  rfl
theorem flatT_get {l : List Int} {j : Nat} {u : Value} (h : (flatT l)[j]? = some u) : j < l.length ∧ u = .int .i64 (l.getD j 0) := by
  unfold flatT at h
  rw [List.getElem?_map] at h
  cases hj : l[j]? with
  | none => rw [hj] at h; cases h
  | some y =>
    rw [hj] at h
    obtain ⟨hlt, _⟩ := List.getElem?_eq_some_iff.1 hj
    refine ⟨hlt, ?_⟩
    have : u = .int .i64 y := by simpa using h.symm
    rw [this, List.getD_eq_getElem?_getD, hj]
    rfl
theorem info_i64 : (Try.prog.info? 2).map (fun i => (i.zero, i.size, i.bytes)) = some (some (.int .i64 0), 1, 8) := by kernel_rfl
theorem eltT : Ap.Elt Try.prog 113 2 1 8 :=
  ⟨Try.underlying113, by obtain ⟨i, h1, h2, h3, h4⟩ := info_parts3 info_i64; exact ⟨i, _, h1, h2, h3, h4, rfl⟩, by decide⟩
theorem RowT.own {w : World} {B : Nat} {v : Value} {l : List Int} (h : w.ownsRow B 2 1 v l.length (flatT l)) (hp : 0 < l.length) : RowT w v l := by
  rcases h.2 with ⟨rfl, h0⟩ | ⟨g, cap, cur, rfl, hB, hg, hc, _⟩
  · omega
  · refine ⟨g, cap, rfl, hc, (Array.getElem?_eq_some_iff.1 hg).1, fun k hk => ?_⟩
    refine (h.cellAt k (by omega)).trans ?_
    unfold flatT
    rw [List.getElem?_map, List.getElem?_eq_getElem hk, List.getD_eq_getElem?_getD, List.getElem?_eq_getElem hk]
    rfl
theorem rd_part {w : World} {g c o n : Nat} {l m : List Int} (hg : g < w.heap.size) (hr : ∀ k, k < l.length → w.cell? ⟨g, k, none⟩ = some (.int .i64 (l.getD k 0))) (hm : m.length = n) (hlm : ∀ j, j < n → o + j < l.length ∧ l.getD (o + j) 0 = m.getD j 0) : Ap.RdG w 1 (.slice (some ⟨g, o, none⟩) n c) n (flatT m) := by
  refine ⟨⟨_, c, rfl, (fun h => by cases h), fun a ha j u hj => ?_, fun a ha _ => by cases ha; exact hg⟩, by rw [flatT_len, hm], flatT_one m⟩
  cases ha
  obtain ⟨h1, rfl⟩ := flatT_get hj
  have hadd : (⟨g, o, none⟩ : Addr).add j = ⟨g, o + j, none⟩ := by unfold Addr.add; split <;> simp_all
  obtain ⟨h2, h3⟩ := hlm j (by omega)
  rw [hadd, hr _ h2, h3]
set_option maxRecDepth 100000 in
set_option maxHeartbeats 8000000 in
theorem rput_any {w : World} {v : Value} {l : List Int} (h : RowT w v l) (hlen : l.length ≤ 1073741824) (t : Int) :
    Calls Try.prog 116 #[v, .int .i64 t] w fun e w' => ∃ v', e = .returned v' ∧ RowT w' v' (putT l t) ∧ Below w.heap.size w w' := by
  have hmx : Try.prog.follows .mixedOrders = true := by kernel_rfl
  obtain ⟨g, c, rfl, hc, hg, hr⟩ := h
  have HR := Lib.hid (show RowT w (.slice (some ⟨g, 0, none⟩) l.length c) l from ⟨g, c, rfl, hc, hg, hr⟩)
  have HC := Lib.hid hr
  clear hr
  by_cases ht : t ≥ 1099511627776
  case pos =>
    have hd : decide (t ≥ 1099511627776) = true := decide_eq_true ht
    have E := Lib.hid (show putT l t = l by unfold putT; rw [if_pos ht])
    go_enter Try.func116, Try.ntmps116
    go_wp2_with fail
    go_ret
    exact ⟨_, rfl, by rw [E.out]; exact HR.out, Below.refl _ _⟩
  have hd : decide (t ≥ 1099511627776) = false := decide_eq_false ht
  have E := Lib.hid (show putT l t = insT l t by unfold putT; rw [if_neg ht])
  go_enter Try.func116, Try.ntmps116
  go_wp2_with fail
  go_loopw [5] (fun i wr => ∃ k : Nat, k ≤ l.length ∧ i = .int .i64 k ∧ (∀ j, j < k → l.getD j 0 < t) ∧ wr = w) (fun i _ => l.length - (intOf i).toNat)
  case atStart => exact ⟨0, by omega, rfl, fun j hj => by omega, rfl⟩
  case round =>
    obtain ⟨k, hk, rfl, hkk, rfl⟩ := hrel
    have HK := Lib.hid hkk
    clear hkk
    have hw1 : IntKind.i64.wrap ((k : Int) + 1) = ((k + 1 : Nat) : Int) := by rw [IntKind.wrap_i64]; omega
    by_cases hlt : k < l.length ∧ l.getD k 0 < t
    case pos =>
      have hd1 : decide (k < l.length) = true := decide_eq_true hlt.1
      have hix : (k : Int) < (l.length : Int) := by omega
      have c0 := HC.out k hlt.1
      have hd2 : decide (l.getD k 0 < t) = true := decide_eq_true hlt.2
      have HNX := Lib.hid (show ∀ j, j < k + 1 → l.getD j 0 < t from fun j hj => by rcases Nat.lt_or_ge j k with h | h; exact HK.out j h; rw [show j = k by omega]; exact hlt.2)
      have hkl := hlt.1
      clear hlt
      generalize l.getD k 0 = y at *
      go_wp2_with fail
      exact ⟨⟨k + 1, by omega, rfl, HNX.out, by first | rfl | trivial⟩, by show l.length - (((k + 1 : Nat) : Int)).toNat < l.length - ((k : Int)).toNat; omega⟩
    case neg =>
      have HI := Lib.hid (insT_at l t k hk HK.out (fun h h2 => hlt ⟨h, h2⟩))
      by_cases hkl : k < l.length
      case pos =>
        have hd1 : decide (k < l.length) = true := decide_eq_true hkl
        have hix : (k : Int) < (l.length : Int) := by omega
        have c0 := HC.out k hkl
        have hd2 : decide (l.getD k 0 < t) = false := decide_eq_false (fun h => hlt ⟨hkl, h⟩)
        by_cases he : l.getD k 0 = t
        case pos =>
          have E2 := Lib.hid (show putT l t = l by rw [E.out, HI.out, if_pos ⟨hkl, he⟩])
          have hq : (l.getD k 0 == t) = true := beq_iff_eq.2 he
          clear he hlt
          generalize l.getD k 0 = y at *
          go_wp2_with fail
          go_ret
          exact ⟨_, rfl, by rw [E2.out]; exact HR.out, Below.refl _ _⟩
        case neg =>
          have E2 := Lib.hid (show putT l t = l.take k ++ t :: l.drop k by rw [E.out, HI.out, if_neg (fun hh => he hh.2)])
          have hq : (l.getD k 0 == t) = false := beq_false_of_ne he
          clear he hlt
          have HCC := Lib.hid HC.out
          clear HC HI
          generalize l.getD k 0 = y at *
          have hs1 : (k : Int) ≤ (c : Int) := by omega
          have hs2 : (k : Int) ≤ (l.length : Int) := by omega
          go_upto_region 8 with fail
          clear c0
          refine Ap.wp_region_K (S1 := fun _ => True) (S2 := fun _ => True) (js := 12) hmx ?_
          change Ap.wpAnyK _ _ _ _ _ _ _ 13 _ _ wr.drew
          refine Ap.wpAnyK_take1 (i := 1) (v := .slice (some ⟨g, 0, none⟩) l.length c) rfl (by decide) (by decide +kernel) (by decide +kernel) (by decide +kernel) (fun _ _ _ h => h) (.inl ⟨by first | rfl | (go_simp; done), fun X hX => by clear hX; first | (go_simp; done) | (go_simp; rfl)⟩) ⟨trivial, trivial⟩ ?_
          refine Ap.wpAnyK_take1 (i := 2) (v := .int .i64 k) rfl (by decide) (by decide +kernel) (by decide +kernel) (by decide +kernel) (fun _ _ _ h => h) (.inl ⟨by first | rfl | (go_simp; done), fun X hX => by clear hX; first | (go_simp; done) | (go_simp; rfl)⟩) ⟨trivial, trivial⟩ ?_
          refine Ap.wpAnyK_take1 (i := 3) (v := .slice (some ⟨g, 0, none⟩) k c) rfl (by decide) (by decide +kernel) (by decide +kernel) (by decide +kernel) (fun _ _ _ h => h) (.inl ⟨by first | rfl | (go_simp; done), fun X hX => by clear hX; first | (go_simp; done) | (go_simp; rfl)⟩) ⟨trivial, trivial⟩ ?_
          refine Ap.wpAnyK_take1 (i := 5) (v := .int .i64 t) rfl (by decide) (by decide +kernel) (by decide +kernel) (by decide +kernel) (fun _ _ _ h => h) (.inl ⟨by first | rfl | (go_simp; done), fun X hX => by clear hX; first | (go_simp; done) | (go_simp; rfl)⟩) ⟨trivial, trivial⟩ ?_
          refine Ap.wpAnyK_take1 (i := 8) (v := .slice (some ⟨g, 0, none⟩) l.length c) rfl (by decide) (by decide +kernel) (by decide +kernel) (by decide +kernel) (fun _ _ _ h => h) (.inl ⟨by first | rfl | (go_simp; done), fun X hX => by clear hX; first | (go_simp; done) | (go_simp; rfl)⟩) ⟨trivial, trivial⟩ ?_
          refine Ap.wpAnyK_take1 (i := 9) (v := .int .i64 k) rfl (by decide) (by decide +kernel) (by decide +kernel) (by decide +kernel) (fun _ _ _ h => h) (.inl ⟨by first | rfl | (go_simp; done), fun X hX => by clear hX; first | (go_simp; done) | (go_simp; rfl)⟩) ⟨trivial, trivial⟩ ?_
          refine Ap.wpAnyK_take1 (i := 10) (v := .slice (if c = k then some ⟨g, 0, none⟩ else some ⟨g, k, none⟩) (l.length - k) (c - k)) rfl (by decide) (by decide +kernel) (by decide +kernel) (by decide +kernel) (fun _ _ _ h => h) (.inl ⟨by first | rfl | (go_simp; done), fun X hX => by clear hX; first | (go_simp; done) | (go_simp; rfl)⟩) ⟨trivial, trivial⟩ ?_
          have rd1 : Ap.RdG wr 1 (.slice (some ⟨g, 0, none⟩) k c) k (flatT (l.take k)) := rd_part hg HCC.out (by rw [List.length_take]; omega) (fun j hj => ⟨by omega, by simp [List.getD_eq_getElem?_getD, List.getElem?_take, hj]⟩)
          have rd2 : Ap.RdG wr 1 (.slice (if c = k then some ⟨g, 0, none⟩ else some ⟨g, k, none⟩) (l.length - k) (c - k)) (l.length - k) (flatT (l.drop k)) := by
            by_cases hck : c = k
            · rw [if_pos hck]; exact rd_part hg HCC.out (by rw [List.length_drop]) (fun j hj => by omega)
            · rw [if_neg hck]; exact rd_part hg HCC.out (by rw [List.length_drop]) (fun j hj => ⟨by omega, by simp [List.getD_eq_getElem?_getD, List.getElem?_drop]⟩)
          refine Ap.anyK_app2 (j0 := 0) (j1 := 4) (j2 := 6) (j3 := 7) (fuel := 2) (cs := #[.int .i64 t]) eltT wr.heap.size (.inl (by decide +kernel)) (.inl (by decide +kernel)) (by decide +kernel) (by decide +kernel) (by decide +kernel) (by decide +kernel) (by decide) rfl rfl rfl rfl ⟨rfl, rfl, rfl, rfl⟩ (by decide) ⟨rfl, rfl, rfl, rfl⟩ rfl rfl
            (by simp [Act.put]) (fun a' X => by first | (go_simp; done) | (go_simp; rfl)) (.slice (some ⟨g, 0, none⟩) k c) k (flatT (l.take k)) (fun u0 u2 => ⟨by simp [Act.put, Act.eval], by simp [Act.put, Act.eval]⟩) (rd1.mono (Below.refl _ _).drew)
            (fun u0 u1 X => ⟨by first | (go_simp; done) | (go_simp; rfl), by first | (go_simp; done) | (go_simp; rfl), by first | (go_simp; done) | (go_simp; rfl)⟩) rfl (by intro u hu; simp at hu; subst hu; rfl) (by unfold maxLen; omega) (by omega) (Nat.le_refl _)
            (fun X hb => ⟨trivial, trivial⟩) ?_
          intro u0 u1 u2 v0 X ho hb
          obtain ⟨v1, X1, hrun, hown, _, hbel⟩ := Ap.run_app eltT 113 wr.heap.size v0 (k + 1) _ ho _ (l.length - k) _ ((rd2.mono (Below.refl _ _).drew).mono hb) (by unfold maxLen; omega) (by omega) (hb.size)
          refine Ap.anyK_val1 (i := 11) (v := v1) (w' := X1) (by decide +kernel) rfl rfl (Ap.exec_app rfl (by simp [Act.put, Act.eval]) (by simp [Act.put, Act.eval]) hrun) ⟨trivial, trivial⟩ ?_
          have hl2 : k + 1 + (l.length - k) = (l.take k ++ t :: l.drop k).length := by simp; omega
          have hf2 : flatT (l.take k) ++ [Value.int .i64 t] ++ flatT (l.drop k) = flatT (l.take k ++ t :: l.drop k) := by simp [flatT]
          have hO := Lib.hid (show RowT X1 v1 (putT l t) from by
            rw [E2.out]
            refine RowT.own (B := wr.heap.size) ?_ (by simp; omega)
            rw [← hl2, ← hf2]
            exact hown)
          have hB := Lib.hid (show Below wr.heap.size wr X1 from Below.trans (Below.drew (Below.refl _ _)) (Below.trans hb hbel))
          clear hown hrun hbel ho hb rd1 rd2 hl2 hf2
          obtain ⟨ga, ca, hva, _⟩ := hO.out
          obtain ⟨na, hna⟩ : ∃ n, n = (putT l t).length := ⟨_, rfl⟩
          rw [← hna] at hva
          clear hna
          subst hva
          refine Ap.anyK_val1 (i := 12) (v := .slice (some ⟨ga, 0, none⟩) na ca) (w' := X1) (by decide +kernel) rfl rfl (by first | (go_simp; done) | (go_simp; rfl)) ⟨trivial, trivial⟩ ?_
          refine Ap.wpAnyK_done (by decide +kernel) ?_ _
          go_wp2_with fail
          all_goals (
            go_ret
            exact ⟨_, rfl, hO.out, hB.out⟩)
      case neg =>
        have hd1 : decide (k < l.length) = false := decide_eq_false hkl
        have E2 := Lib.hid (show putT l t = l.take k ++ t :: l.drop k by rw [E.out, HI.out, if_neg (fun hh => hkl hh.1)])
        clear hlt
        have HCC := Lib.hid HC.out
        clear HC HI
        have hs1 : (k : Int) ≤ (c : Int) := by omega
        have hs2 : (k : Int) ≤ (l.length : Int) := by omega
        go_upto_region 8 with fail
        refine Ap.wp_region_K (S1 := fun _ => True) (S2 := fun _ => True) (js := 12) hmx ?_
        change Ap.wpAnyK _ _ _ _ _ _ _ 13 _ _ wr.drew
        refine Ap.wpAnyK_take1 (i := 1) (v := .slice (some ⟨g, 0, none⟩) l.length c) rfl (by decide) (by decide +kernel) (by decide +kernel) (by decide +kernel) (fun _ _ _ h => h) (.inl ⟨by first | rfl | (go_simp; done), fun X hX => by clear hX; first | (go_simp; done) | (go_simp; rfl)⟩) ⟨trivial, trivial⟩ ?_
        refine Ap.wpAnyK_take1 (i := 2) (v := .int .i64 k) rfl (by decide) (by decide +kernel) (by decide +kernel) (by decide +kernel) (fun _ _ _ h => h) (.inl ⟨by first | rfl | (go_simp; done), fun X hX => by clear hX; first | (go_simp; done) | (go_simp; rfl)⟩) ⟨trivial, trivial⟩ ?_
        refine Ap.wpAnyK_take1 (i := 3) (v := .slice (some ⟨g, 0, none⟩) k c) rfl (by decide) (by decide +kernel) (by decide +kernel) (by decide +kernel) (fun _ _ _ h => h) (.inl ⟨by first | rfl | (go_simp; done), fun X hX => by clear hX; first | (go_simp; done) | (go_simp; rfl)⟩) ⟨trivial, trivial⟩ ?_
        refine Ap.wpAnyK_take1 (i := 5) (v := .int .i64 t) rfl (by decide) (by decide +kernel) (by decide +kernel) (by decide +kernel) (fun _ _ _ h => h) (.inl ⟨by first | rfl | (go_simp; done), fun X hX => by clear hX; first | (go_simp; done) | (go_simp; rfl)⟩) ⟨trivial, trivial⟩ ?_
        refine Ap.wpAnyK_take1 (i := 8) (v := .slice (some ⟨g, 0, none⟩) l.length c) rfl (by decide) (by decide +kernel) (by decide +kernel) (by decide +kernel) (fun _ _ _ h => h) (.inl ⟨by first | rfl | (go_simp; done), fun X hX => by clear hX; first | (go_simp; done) | (go_simp; rfl)⟩) ⟨trivial, trivial⟩ ?_
        refine Ap.wpAnyK_take1 (i := 9) (v := .int .i64 k) rfl (by decide) (by decide +kernel) (by decide +kernel) (by decide +kernel) (fun _ _ _ h => h) (.inl ⟨by first | rfl | (go_simp; done), fun X hX => by clear hX; first | (go_simp; done) | (go_simp; rfl)⟩) ⟨trivial, trivial⟩ ?_
        refine Ap.wpAnyK_take1 (i := 10) (v := .slice (if c = k then some ⟨g, 0, none⟩ else some ⟨g, k, none⟩) (l.length - k) (c - k)) rfl (by decide) (by decide +kernel) (by decide +kernel) (by decide +kernel) (fun _ _ _ h => h) (.inl ⟨by first | rfl | (go_simp; done), fun X hX => by clear hX; first | (go_simp; done) | (go_simp; rfl)⟩) ⟨trivial, trivial⟩ ?_
        have rd1 : Ap.RdG wr 1 (.slice (some ⟨g, 0, none⟩) k c) k (flatT (l.take k)) := rd_part hg HCC.out (by rw [List.length_take]; omega) (fun j hj => ⟨by omega, by simp [List.getD_eq_getElem?_getD, List.getElem?_take, hj]⟩)
        have rd2 : Ap.RdG wr 1 (.slice (if c = k then some ⟨g, 0, none⟩ else some ⟨g, k, none⟩) (l.length - k) (c - k)) (l.length - k) (flatT (l.drop k)) := by
          by_cases hck : c = k
          · rw [if_pos hck]; exact rd_part hg HCC.out (by rw [List.length_drop]) (fun j hj => by omega)
          · rw [if_neg hck]; exact rd_part hg HCC.out (by rw [List.length_drop]) (fun j hj => ⟨by omega, by simp [List.getD_eq_getElem?_getD, List.getElem?_drop]⟩)
        refine Ap.anyK_app2 (j0 := 0) (j1 := 4) (j2 := 6) (j3 := 7) (fuel := 2) (cs := #[.int .i64 t]) eltT wr.heap.size (.inl (by decide +kernel)) (.inl (by decide +kernel)) (by decide +kernel) (by decide +kernel) (by decide +kernel) (by decide +kernel) (by decide) rfl rfl rfl rfl ⟨rfl, rfl, rfl, rfl⟩ (by decide) ⟨rfl, rfl, rfl, rfl⟩ rfl rfl
          (by simp [Act.put]) (fun a' X => by first | (go_simp; done) | (go_simp; rfl)) (.slice (some ⟨g, 0, none⟩) k c) k (flatT (l.take k)) (fun u0 u2 => ⟨by simp [Act.put, Act.eval], by simp [Act.put, Act.eval]⟩) (rd1.mono (Below.refl _ _).drew)
          (fun u0 u1 X => ⟨by first | (go_simp; done) | (go_simp; rfl), by first | (go_simp; done) | (go_simp; rfl), by first | (go_simp; done) | (go_simp; rfl)⟩) rfl (by intro u hu; simp at hu; subst hu; rfl) (by unfold maxLen; omega) (by omega) (Nat.le_refl _)
          (fun X hb => ⟨trivial, trivial⟩) ?_
        intro u0 u1 u2 v0 X ho hb
        obtain ⟨v1, X1, hrun, hown, _, hbel⟩ := Ap.run_app eltT 113 wr.heap.size v0 (k + 1) _ ho _ (l.length - k) _ ((rd2.mono (Below.refl _ _).drew).mono hb) (by unfold maxLen; omega) (by omega) (hb.size)
        refine Ap.anyK_val1 (i := 11) (v := v1) (w' := X1) (by decide +kernel) rfl rfl (Ap.exec_app rfl (by simp [Act.put, Act.eval]) (by simp [Act.put, Act.eval]) hrun) ⟨trivial, trivial⟩ ?_
        have hl2 : k + 1 + (l.length - k) = (l.take k ++ t :: l.drop k).length := by simp; omega
        have hf2 : flatT (l.take k) ++ [Value.int .i64 t] ++ flatT (l.drop k) = flatT (l.take k ++ t :: l.drop k) := by simp [flatT]
        have hO := Lib.hid (show RowT X1 v1 (putT l t) from by
          rw [E2.out]
          refine RowT.own (B := wr.heap.size) ?_ (by simp; omega)
          rw [← hl2, ← hf2]
          exact hown)
        have hB := Lib.hid (show Below wr.heap.size wr X1 from Below.trans (Below.drew (Below.refl _ _)) (Below.trans hb hbel))
        clear hown hrun hbel ho hb rd1 rd2 hl2 hf2
        obtain ⟨ga, ca, hva, _⟩ := hO.out
        obtain ⟨na, hna⟩ : ∃ n, n = (putT l t).length := ⟨_, rfl⟩
        rw [← hna] at hva
        clear hna
        subst hva
        refine Ap.anyK_val1 (i := 12) (v := .slice (some ⟨ga, 0, none⟩) na ca) (w' := X1) (by decide +kernel) rfl rfl (by first | (go_simp; done) | (go_simp; rfl)) ⟨trivial, trivial⟩ ?_
        refine Ap.wpAnyK_done (by decide +kernel) ?_ _
        go_wp2_with fail
        all_goals (
          go_ret
          exact ⟨_, rfl, hO.out, hB.out⟩)
theorem putT_len (l : List Int) (t : Int) : (putT l t).length ≤ l.length + 1 := by
  unfold putT
  split
  · omega
  · exact insT_len l t
theorem timesU_take (C : List ChgC) {k : Nat} (hk : k < C.length) : timesU (C.take (k + 1)) = putT (putT (timesU (C.take k)) (cleanI ((C.getD k chgD).f, (C.getD k chgD).t)).1) (cleanI ((C.getD k chgD).f, (C.getD k chgD).t)).2 := by
  unfold timesU
  rw [List.take_add_one, List.foldl_append, List.getElem?_eq_getElem hk, List.getD_eq_getElem?_getD, List.getElem?_eq_getElem hk]
  rfl
theorem timesU_len (C : List ChgC) : (timesU C).length ≤ 2 * C.length + 1 := by
  have : ∀ (D : List ChgC) (l : List Int), (D.foldl (fun l c => putT (putT l (cleanI (c.f, c.t)).1) (cleanI (c.f, c.t)).2) l).length ≤ l.length + 2 * D.length := by
    intro D
    induction D with
    | nil => intro l; simp
    | cons c r ih =>
      intro l
      rw [List.foldl_cons, List.length_cons]
      have h := ih (putT (putT l (cleanI (c.f, c.t)).1) (cleanI (c.f, c.t)).2)
      have h1 := putT_len (putT l (cleanI (c.f, c.t)).1) (cleanI (c.f, c.t)).2
      have h2 := putT_len l (cleanI (c.f, c.t)).1
      omega
  have := this C [0]
  unfold timesU
  simp only [List.length_cons, List.length_nil] at this
  omega
set_option maxRecDepth 100000 in
set_option maxHeartbeats 8000000 in
theorem rtimes_list {w : World} {v : Value} {C : List ChgC} (h : RowC w v C) (hlen : C.length ≤ 1048576) (first : Int) :
    Calls Try.prog 117 #[.agg #[.int .i64 first, v]] w fun e w' => ∃ v', e = .returned v' ∧ RowT w' v' (timesU C) ∧ Below w.heap.size w w' := by
  have hmx : Try.prog.follows .mixedOrders = true := by kernel_rfl
  obtain ⟨ad, cp, hv⟩ := h.form
  have hb0 := below_alloc (Below.refl _ w) (.cells #[.int .i64 first, v] 28)
  have n0 := World.alloc_heap_new w (.cells #[.int .i64 first, v] 28)
  have H := Lib.hid (fun W (hb : Below w.heap.size w W) => h.below hb)
  clear h
  subst hv
  go_enter Try.func117, Try.ntmps117
  go_upto_region 1 with fail
  generalize w.alloc (.cells #[.int .i64 first, .slice ad C.length cp] 28) = W at *
  have hb1 := below_alloc (Below.refl _ W) (.cells #[.int .i64 0] 2)
  have n1 := World.alloc_heap_new W (.cells #[.int .i64 0] 2)
  have HB := Lib.hid (below_next hb0 hb1)
  have HN := Lib.hid ((hb1.block _ (Array.getElem?_eq_some_iff.1 n0).1).trans n0)
  have HT := Lib.hid (show RowT (W.alloc (.cells #[.int .i64 0] 2)) (.slice (some ⟨W.heap.size, 0, none⟩) 1 1) (timesU []) from ⟨W.heap.size, 1, rfl, by decide, by simp, fun k hk => by
    obtain rfl : k = 0 := by have : k < 1 := hk; omega
    exact cell_of_block (o := 0) n1 rfl⟩)
  clear hb0 hb1 n0 n1
  go_upto_region 2 with fail
  generalize W.alloc (.cells #[.int .i64 0] 2) = W1 at *
  go_wp2_with fail
  go_loopw [3, 4] (fun z i wr => ∃ k : Nat, k ≤ C.length ∧ i = .int .i64 k ∧ RowT wr z (timesU (C.take k)) ∧ Below w.heap.size w wr ∧ wr.heap[w.heap.size]? = some (.cells #[.int .i64 first, .slice ad C.length cp] 28 (0, 0))) (fun _ i _ => C.length - (intOf i).toNat)
  case atStart => exact ⟨0, by omega, rfl, HT.out, HB.out, HN.out⟩
  case round =>
    obtain ⟨k, hk, rfl, ht, hb, hn⟩ := hrel
    obtain ⟨g, c, hz, hcap, hg, hr⟩ := ht
    have HTr := Lib.hid (show RowT wr (.slice (some ⟨g, 0, none⟩) (timesU (C.take k)).length c) (timesU (C.take k)) from ⟨g, c, rfl, hcap, hg, hr⟩)
    have hlk := timesU_len (C.take k)
    rw [List.length_take] at hlk
    have c0 := cell_of_block (o := 0) hn rfl
    have c1 := cell_of_block (o := 1) hn rfl
    have hlt1 := (Array.getElem?_eq_some_iff.1 hn).1
    have HBr := Lib.hid hb
    have HNr := Lib.hid hn
    clear hb hn HB HN HT hr
    by_cases hlt : k < C.length
    case neg =>
      have hd : decide (k < C.length) = false := decide_eq_false hlt
      obtain rfl : k = C.length := by omega
      rw [List.take_length] at HTr hz
      generalize (timesU C).length = n at *
      subst hz
      go_wp2_with fail
      go_ret
      exact ⟨_, rfl, HTr.out, HBr.out⟩
    case pos =>
      have hd : decide (k < C.length) = true := decide_eq_true hlt
      obtain ⟨gc, cc, e0, hgc, q0, q1, q2, q3⟩ := (H.out wr HBr.out).at hlt
      have e1 : ad = some ⟨gc, 0, none⟩ := by injection e0
      subst e1
      have HS := Lib.hid (timesU_take C hlt)
      have hw1 : IntKind.i64.wrap ((k : Int) + 1) = ((k + 1 : Nat) : Int) := by rw [IntKind.wrap_i64]; omega
      have hix : (k : Int) < (C.length : Int) := by omega
      generalize C.getD k chgD = ch at *
      obtain ⟨cf, ct, cs, cn⟩ := ch
      simp only at q0 q1 HS
      generalize timesU (C.take k) = l at *
      obtain ⟨nl, hnl⟩ : ∃ n, n = l.length := ⟨_, rfl⟩
      rw [← hnl] at hz HTr
      subst hz
      have KCl := Lib.hid (fun W => rclean_any cf ct W)
      generalize (cleanI (cf, ct)).1 = y1 at *
      generalize (cleanI (cf, ct)).2 = y2 at *
      go_wp2_with fail
      refine (KCl.out _).mono ?_
      rintro e W2 ⟨rfl, hb2⟩
      have hbB := below_alloc (Below.refl _ W2) (.cells #[.int .i64 y1, .int .i64 y2] 43)
      have nB := World.alloc_heap_new W2 (.cells #[.int .i64 y1, .int .i64 y2] 43)
      have HB3 := Lib.hid (below_next (below_next HBr.out hb2) hbB)
      have HT3 := Lib.hid ((HTr.out.below hb2).below hbB)
      have HN3 := Lib.hid ((hbB.block _ (Nat.lt_of_lt_of_le hlt1 hb2.size)).trans ((hb2.block _ hlt1).trans HNr.out))
      have hB5 := (Array.getElem?_eq_some_iff.1 nB).1
      obtain ⟨B5, hB5e⟩ : ∃ B, B = W2.heap.size := ⟨_, rfl⟩
      have NB := Lib.hid (hB5e ▸ nB)
      rw [← hB5e] at hB5
      go_upto_region 6 with fail
      rw [← hB5e]
      clear q0 q1 q2 q3 c0 c1 hb2 hbB nB HBr HTr HNr hB5e hgc
      generalize W2.alloc (.cells #[.int .i64 y1, .int .i64 y2] 43) = W3 at *
      have s0 := cell_of_block (o := 0) NB.out rfl
      have s1 := cell_of_block (o := 1) NB.out rfl
      refine Ap.wp_region_K (S1 := fun X => X.cell? ⟨B5, 0, none⟩ = some (.int .i64 y1) ∧ X.cell? ⟨B5, 1, none⟩ = some (.int .i64 y2)) (S2 := fun _ => True) (js := 7) hmx ?_
      change Ap.wpAnyK _ _ _ _ _ _ _ 8 _ _ W3.drew
      have hSS : (fun X : World => X.cell? ⟨B5, 0, none⟩ = some (.int .i64 y1) ∧ X.cell? ⟨B5, 1, none⟩ = some (.int .i64 y2)) W3.drew ∧ (fun _ : World => True) W3.drew := ⟨⟨s0, s1⟩, trivial⟩
      clear s0 s1
      refine Ap.wpAnyK_take1 (i := 0) (v := .slice (some ⟨g, 0, none⟩) nl c) rfl (by decide) (by decide +kernel) (by decide +kernel) (by decide +kernel) (fun _ _ _ h => h) (.inl ⟨by first | rfl | (go_simp; done), fun X hX => by have hx1 := hX.1; have hx2 := hX.2; clear hX; first | (go_simp; done) | (go_simp; rfl)⟩) hSS ?_
      refine Ap.wpAnyK_take1 (i := 1) (v := .pointer (some ⟨B5, 0, none⟩)) rfl (by decide) (by decide +kernel) (by decide +kernel) (by decide +kernel) (fun _ _ _ h => h) (.inl ⟨by first | rfl | (go_simp; done), fun X hX => by have hx1 := hX.1; have hx2 := hX.2; clear hX; first | (go_simp; done) | (go_simp; rfl)⟩) hSS ?_
      refine Ap.wpAnyK_take1 (i := 2) (v := .int .i64 y1) rfl (by decide) (by decide +kernel) (by decide +kernel) (by decide +kernel) (fun _ _ _ h => h) (.inl ⟨by first | rfl | (go_simp; done), fun X hX => by have hx1 := hX.1; have hx2 := hX.2; clear hX; first | (go_simp; done) | (go_simp; rfl)⟩) hSS ?_
      refine Ap.wpAnyK_take1 (i := 4) (v := .pointer (some ⟨B5, 1, none⟩)) rfl (by decide) (by decide +kernel) (by decide +kernel) (by decide +kernel) (fun _ _ _ h => h) (.inl ⟨by first | rfl | (go_simp; done), fun X hX => by have hx1 := hX.1; have hx2 := hX.2; clear hX; first | (go_simp; done) | (go_simp; rfl)⟩) hSS ?_
      refine Ap.wpAnyK_take1 (i := 5) (v := .int .i64 y2) rfl (by decide) (by decide +kernel) (by decide +kernel) (by decide +kernel) (fun _ _ _ h => h) (.inl ⟨by first | rfl | (go_simp; done), fun X hX => by have hx1 := hX.1; have hx2 := hX.2; clear hX; first | (go_simp; done) | (go_simp; rfl)⟩) hSS ?_
      refine Ap.anyK_call (i := 3) (by decide +kernel) rfl rfl (by go_simp) (rput_any (HT3.out.below (Below.refl _ _).drew) (by omega) y1) ?_
      rintro e X ⟨v1, rfl, hr1, hbx1⟩
      refine ⟨_, rfl, ⟨⟨(hbx1.cell (p := ⟨B5, 0, none⟩) hB5).trans hSS.1.1, (hbx1.cell (p := ⟨B5, 1, none⟩) hB5).trans hSS.1.2⟩, fun _ => trivial⟩, ?_⟩
      obtain ⟨g1, n1, cp1, rfl⟩ : ∃ g n c, v1 = .slice (some ⟨g, 0, none⟩) n c := by obtain ⟨g, c, e, _⟩ := hr1; exact ⟨_, _, _, e⟩
      have hl1 := putT_len l y1
      have hx1s := hbx1.size
      refine Ap.anyK_call (i := 6) (by decide +kernel) rfl rfl (by go_simp) (rput_any hr1 (by omega) y2) ?_
      rintro e X2 ⟨v2, rfl, hr2, hbx2⟩
      have hX5 : B5 < X.heap.size := Nat.lt_of_lt_of_le hB5 hx1s
      have hS2 : (fun X : World => X.cell? ⟨B5, 0, none⟩ = some (.int .i64 y1) ∧ X.cell? ⟨B5, 1, none⟩ = some (.int .i64 y2)) X2 := ⟨(hbx2.cell (p := ⟨B5, 0, none⟩) hX5).trans ((hbx1.cell (p := ⟨B5, 0, none⟩) hB5).trans hSS.1.1), (hbx2.cell (p := ⟨B5, 1, none⟩) hX5).trans ((hbx1.cell (p := ⟨B5, 1, none⟩) hB5).trans hSS.1.2)⟩
      refine ⟨_, rfl, ⟨hS2, fun _ => trivial⟩, ?_⟩
      obtain ⟨g2, n2, cp2, rfl⟩ : ∃ g n c, v2 = .slice (some ⟨g, 0, none⟩) n c := by obtain ⟨g, c, e, _⟩ := hr2; exact ⟨_, _, _, e⟩
      have HR2 := Lib.hid (show RowT X2 (.slice (some ⟨g2, 0, none⟩) n2 cp2) (timesU (C.take (k + 1))) by rw [HS.out]; exact hr2)
      have HB7 := Lib.hid (below_next (below_next (Below.drew HB3.out) hbx1) hbx2)
      have HN7 := Lib.hid ((hbx2.block _ (Nat.lt_of_lt_of_le (Array.getElem?_eq_some_iff.1 HN3.out).1 hx1s)).trans ((hbx1.block _ (Array.getElem?_eq_some_iff.1 HN3.out).1).trans HN3.out))
      refine Ap.anyK_val1 (i := 7) (v := .slice (some ⟨g2, 0, none⟩) n2 cp2) (w' := X2) (by decide +kernel) rfl rfl (by first | (go_simp; done) | (go_simp; rfl)) ⟨hS2, trivial⟩ ?_
      refine Ap.wpAnyK_done (by decide +kernel) ?_ _
      clear hr1 hr2 hbx1 hbx2 hSS hS2
      go_wp2_with fail
      exact ⟨⟨k + 1, by omega, rfl, HR2.out, HB7.out, HN7.out⟩, by show C.length - (((k + 1 : Nat) : Int)).toNat < C.length - ((k : Int)).toNat; omega⟩
end Go.Proofs.Ytbhnjmdlagjfbaa
namespace Go.Proofs.Ytbhnjmdlagjfbaa
set_option linter.unusedVariables false
open Go.ChangeShapes Go.WideShapes Go.ChangeAt Go.RowKit
attribute [local go_sem ↓] Go.wp_at_zero Go.wp_at_succ comesTo_value_eq comesTo_skip_eq comesTo_enter_eq Rl.comesToR_value_eq Rl.comesToR_skip_eq Rl.comesToR_enter_eq

theorem info_rstep : (Try.prog.info? 142).map (fun i => (i.zero, i.size, i.bytes)) = some (some (.agg #[.int .i64 0, .int .i64 0]), 2, 16) := by kernel_rfl
theorem eltSt : Ap.Elt Try.prog 137 142 2 16 :=
  ⟨Try.underlying137, by obtain ⟨i, h1, h2, h3, h4⟩ := info_parts3 info_rstep; exact ⟨i, _, h1, h2, h3, h4, rfl⟩, by decide⟩
/-- an own row of the document's steps -/
def OwnSt (w : World) (B : Nat) (v : Value) (l : List (Int × Int)) : Prop := w.ownsRow B 142 2 v l.length (flatU l)
theorem own_less {w : World} {B B' : Nat} {e : TypeId} {size n : Nat} {v : Value} {xs : List Value} (h : w.ownsRow B e size v n xs) (hB : B' ≤ B) : w.ownsRow B' e size v n xs := by
  refine ⟨h.1, ?_⟩
  rcases h.2 with hn | ⟨g, cap, cur, hv, hg, rest⟩
  · exact .inl hn
  · exact .inr ⟨g, cap, cur, hv, Nat.le_trans hB hg, rest⟩
theorem OwnSt.form {w : World} {B : Nat} {v : Value} {l : List (Int × Int)} (h : OwnSt w B v l) : ∃ ad c, v = .slice ad l.length c ∧ (0 < l.length → ∃ g, ad = some ⟨g, 0, none⟩ ∧ B ≤ g ∧ g < w.heap.size ∧ URow w g l) := by
  rcases h.2 with ⟨e, h0⟩ | ⟨g, cap, cur, e, hB, hg, hc, _⟩
  · exact ⟨none, 0, by rw [e, h0], fun h => by omega⟩
  · refine ⟨_, cap, e, fun _ => ⟨g, rfl, hB, (Array.getElem?_eq_some_iff.1 hg).1, fun k hk => ?_⟩⟩
    have h1 := flatU_get l k hk
    have h' : w.ownsRow B 142 2 (.slice (some ⟨g, 0, none⟩) l.length cap) l.length (flatU l) := by rw [← e]; exact h
    exact ⟨(h'.cellAt (k * 2) (by omega)).trans h1.1, (h'.cellAt (k * 2 + 1) (by omega)).trans h1.2⟩
theorem rd_one (W : World) (cs : Array Value) (e : TypeId) {size : Nat} (hcs : cs.size = size) (hone : ∀ u ∈ cs.toList, u.oneCell' = true) : Ap.RdG (W.alloc (.cells cs e)) size (.slice (some ⟨W.heap.size, 0, none⟩) 1 1) 1 cs.toList :=
  ⟨⟨_, 1, rfl, (fun h => by cases h), (fun a ha j u hj => by
      cases ha
      have hadd : (⟨W.heap.size, 0, none⟩ : Addr).add j = ⟨W.heap.size, j, none⟩ := by unfold Addr.add; split <;> simp_all
      rw [hadd]
      refine cell_of_block (World.alloc_heap_new W _) ?_
      simpa using hj), (fun a ha _ => by cases ha; simp)⟩, by simp [hcs], hone⟩
theorem fold_step {α β : Type} (f : β → α → β) (z : β) (C : List α) (d : α) {k : Nat} (hk : k < C.length) : (C.take (k + 1)).foldl f z = f ((C.take k).foldl f z) (C.getD k d) := by
  rw [List.take_add_one, List.foldl_append, List.getElem?_eq_getElem hk, List.getD_eq_getElem?_getD, List.getElem?_eq_getElem hk]
  rfl
theorem layfold_len (g : Int → Int) : ∀ (m : List Int) (l : List (Int × Int)), (m.foldl (fun l t => layU l t (g t)) l).length ≤ l.length + m.length
  | [], l => by simp
  | x :: r, l => by
    rw [List.foldl_cons, List.length_cons]
    have h1 := layfold_len g r (layU l x (g x))
    have h2 := layU_len l x (g x)
    omega
set_option maxRecDepth 100000 in
set_option maxHeartbeats 8000000 in
theorem rlist_any {w : World} {v : Value} {C : List ChgC} (h : RowC w v C) (hlen : C.length ≤ 1048576) (first : Int) :
    Calls Try.prog 77 #[.agg #[.int .i64 first, v]] w fun e w' => ∃ v', e = .returned v' ∧ OwnSt w' w.heap.size v' (listR first C) ∧ Below w.heap.size w w' := by
  have hmx : Try.prog.follows .mixedOrders = true := by kernel_rfl
  obtain ⟨ad, cp, hv⟩ := h.form
  have hb0 := below_alloc (Below.refl _ w) (.cells #[.int .i64 first, v] 28)
  have n0 := World.alloc_heap_new w (.cells #[.int .i64 first, v] 28)
  have KT := Lib.hid (rtimes_list (h.below hb0) hlen first)
  have H := Lib.hid (fun W (hb : Below w.heap.size w W) => h.below hb)
  clear h
  subst hv
  go_enter Try.func77, Try.ntmps77
  go_upto_region 1 with fail
  generalize w.alloc (.cells #[.int .i64 first, .slice ad C.length cp] 28) = W at *
  have c0 := cell_of_block (o := 0) n0 rfl
  have c1 := cell_of_block (o := 1) n0 rfl
  go_wp2_with fail
  refine KT.out.mono ?_
  rintro e W4 ⟨tv, rfl, ht, hb4⟩
  obtain ⟨gt, ct, rfl, hct, hgt, htr⟩ := ht
  have hW := (Array.getElem?_eq_some_iff.1 n0).1
  have n4 := (hb4.block _ hW).trans n0
  have hw4 := (Array.getElem?_eq_some_iff.1 n4).1
  have N4 := Lib.hid n4
  have HTR := Lib.hid htr
  have HBW := Lib.hid (below_next hb0 hb4)
  have htl := timesU_len C
  clear c0 c1 n0 n4 hb0 hb4 htr KT
  go_wp2_with fail
  go_loopw [3, 5, 6] (fun z i u wr => ∃ k : Nat, k ≤ (timesU C).length ∧ i = .int .i64 k ∧ OwnSt wr W4.heap.size z (((timesU C).take k).foldl (fun l t => layU l t (ratU first C t)) []) ∧ Below W4.heap.size W4 wr) (fun _ i _ _ => (timesU C).length - (intOf i).toNat)
  case atStart => exact ⟨0, by omega, rfl, ⟨rfl, .inl ⟨rfl, rfl⟩⟩, Below.refl _ _⟩
  case round =>
    obtain ⟨k, hk, rfl, ho, hb⟩ := hrel
    have HBr := Lib.hid hb
    have hll := layfold_len (ratU first C) ((timesU C).take k) []
    rw [List.length_take] at hll
    simp only [List.length_nil] at hll
    obtain ⟨l, hl⟩ : ∃ l, l = ((timesU C).take k).foldl (fun l t => layU l t (ratU first C t)) [] := ⟨_, rfl⟩
    rw [← hl] at ho hll
    have HL := Lib.hid hl.symm
    clear hl
    obtain ⟨za, zc, rfl, hza⟩ := ho.form
    have HO := Lib.hid ho
    clear hb ho
    by_cases hlt : k < (timesU C).length
    case neg =>
      have hd : decide (k < (timesU C).length) = false := decide_eq_false hlt
      have hke : k = (timesU C).length := by omega
      have hle : l = listR first C := by rw [← HL.out, hke, List.take_length]; rfl
      have HR := Lib.hid (show OwnSt wr w.heap.size (.slice za l.length zc) (listR first C) from own_less (show OwnSt wr W4.heap.size (.slice za l.length zc) (listR first C) from hle ▸ HO.out) HBW.out.size)
      clear hle
      have HB9 := Lib.hid (Below.trans HBW.out (Below.mono HBr.out HBW.out.size))
      clear HO hke
      go_wp2_with fail
      go_ret
      exact ⟨_, rfl, HR.out, HB9.out⟩
    case pos =>
      have hd : decide (k < (timesU C).length) = true := decide_eq_true hlt
      have hix : (k : Int) < ((timesU C).length : Int) := by omega
      have hw1 : IntKind.i64.wrap ((k : Int) + 1) = ((k + 1 : Nat) : Int) := by rw [IntKind.wrap_i64]; omega
      have HS := Lib.hid (fold_step (fun l t => layU l t (ratU first C t)) [] (timesU C) (0 : Int) hlt)
      have q0 := (HBr.out.cell (p := ⟨gt, k, none⟩) hgt).trans (HTR.out k hlt)
      generalize (timesU C).getD k 0 = tk at *
      have n1 := (HBr.out.block _ hw4).trans N4.out
      have hw5 := (Array.getElem?_eq_some_iff.1 n1).1
      have c0 := cell_of_block (o := 0) n1 rfl
      have c1 := cell_of_block (o := 1) n1 rfl
      have hgt5 : gt < wr.heap.size := Nat.lt_of_lt_of_le hgt HBr.out.size
      have KA := Lib.hid (fun W (hb : Below wr.heap.size wr W) => rat_any (H.out W (Below.trans HBW.out (Below.trans (Below.mono HBr.out HBW.out.size) (Below.mono hb (Nat.le_trans HBW.out.size HBr.out.size))))) (by omega) first tk)
      obtain ⟨lv, hlv⟩ : ∃ lv, lv = ratU first C tk := ⟨_, rfl⟩
      rw [← hlv] at KA HS
      clear hlv
      go_upto_region 6 with fail
      refine Rl.wp_region_rel (fun a b => Below a.heap.size a b) wr (fun a b c h h' => below_next h h') (fun a => Below.refl _ _) hmx (by kernel_rfl) (Below.refl _ _).drew ?_
      iterate 5 (refine Rl.textR_run ?_ (fun ρ => ?_) (fun ρ W hS hd => ?_) ?_; rotate_left; (focus go_simp); (focus (obtain ⟨hc, hf⟩ := bcell hS; go_simp; first | exact ⟨rfl, Below.refl _ _⟩ | (refine ⟨?_, Below.refl _ _⟩; rfl))); (try go_simp))
      (refine Rl.textR_run ?_ (fun ρ => ?_) (fun ρ W hS hd => ?_) ?_; rotate_left; (focus go_simp); (focus (obtain ⟨hc, hf⟩ := bcell hS; go_simp; refine (KA.out _ hS).mono ?_; rintro e w1 ⟨rfl, hb⟩; refine ⟨_, rfl, ?_, hb⟩; rfl)); (try go_simp))
      (refine Rl.textR_run ?_ (fun ρ => ?_) (fun ρ W hS hd => ?_) ?_; rotate_left; (focus go_simp); (focus (obtain ⟨hc, hf⟩ := bcell hS; go_simp; first | exact ⟨rfl, Below.refl _ _⟩ | (refine ⟨?_, Below.refl _ _⟩; rfl))); (try go_simp))
      refine Rl.textR_nil ?_
      intro ρ w1 hg hk1
      dsimp only
      have HB1 := Lib.hid (Below.trans HBr.out (Below.mono hg HBr.out.size))
      have HO1 := Lib.hid (show OwnSt w1 W4.heap.size (.slice za l.length zc) l from Ap.own_below HO.out hg)
      have q0 := (hg.cell (p := ⟨gt, k, none⟩) hgt5).trans q0
      have hza1 : 0 < l.length → ∃ g, za = some ⟨g, 0, none⟩ ∧ w1.cell? ⟨g, (l.length - 1) * 2 + 1, none⟩ = some (.int .i64 (l.getD (l.length - 1) (0, 0)).2) := fun hp => by
        obtain ⟨g, e, _, hgl, hr⟩ := hza hp
        exact ⟨g, e, (hg.cell (p := ⟨g, (l.length - 1) * 2 + 1, none⟩) hgl).trans (hr (l.length - 1) (by omega)).2⟩
      have HZA := Lib.hid hza1
      clear hg hk1 c0 c1 n1 HO KA HBr hza hza1
      by_cases h0 : l.length = 0
      case pos =>
        have hq : ((l.length : Int) == 0) = true := beq_iff_eq.2 (by omega)
        have hnl : l = [] := List.eq_nil_of_length_eq_zero h0
        have HNL := Lib.hid hnl
        clear hnl h0
        go_upto_region 8 with fail
        refine wp_region_lit ?_
        refine wpList_yield (w' := w1) (v := .slice za l.length zc) rfl (by first | (go_simp; done) | (go_simp; rfl)) ?_
        refine wpList_yield (w' := w1) (v := .slice (some ⟨gt, 0, none⟩) (timesU C).length ct) rfl (by first | (go_simp; done) | (go_simp; rfl)) ?_
        refine wpList_yield (w' := w1) (v := .int .i64 k) rfl (by first | (go_simp; done) | (go_simp; rfl)) ?_
        refine wpList_yield (w' := w1) (v := .pointer (some ⟨gt, k, none⟩)) rfl (by first | (go_simp; done) | (go_simp; rfl)) ?_
        refine wpList_yield (w' := w1) (v := .int .i64 tk) rfl (by first | (go_simp; done) | (go_simp; rfl)) ?_
        refine wpList_yield (w' := w1) (v := .int .i64 lv) rfl (by first | (go_simp; done) | (go_simp; rfl)) ?_
        refine wpList_yield (w' := w1) (v := .agg #[.int .i64 tk, .int .i64 lv]) rfl (by first | (go_simp; done) | (go_simp; rfl)) ?_
        refine wpList_yield (w' := w1.alloc (.cells #[.int .i64 tk, .int .i64 lv] 142)) (v := .slice (some ⟨w1.heap.size, 0, none⟩) 1 1) rfl (by first | (go_simp; done) | (go_simp; rfl)) ?_
        have hbA := below_alloc (Below.refl _ w1) (.cells #[.int .i64 tk, .int .i64 lv] 142)
        obtain ⟨v', W2, hrun, hown, _, hbel⟩ := Ap.run_app eltSt 137 W4.heap.size _ l.length _ (Ap.own_below HO1.out hbA) _ 1 _ (rd_one w1 #[.int .i64 tk, .int .i64 lv] 142 (size := 2) rfl (by intro u hu; simp at hu; rcases hu with rfl | rfl <;> rfl)) (by unfold maxLen; omega) (by omega) (Nat.le_trans HB1.out.size hbA.size)
        refine wpList_yield (w' := W2) (v := v') rfl (Ap.exec_app rfl (by go_simp) (by go_simp) hrun) ?_
        have HO2 := Lib.hid (show OwnSt W2 W4.heap.size v' ((timesU C).take (k + 1) |>.foldl (fun l t => layU l t (ratU first C t)) []) from by
          rw [HS.out, HL.out, show layU l tk lv = l ++ [(tk, lv)] from if_neg (by rw [HNL.out]; simp)]
          unfold OwnSt
          rw [List.length_append, flatU_append]
          exact hown)
        have HB2 := Lib.hid (Below.trans HB1.out (Below.trans (Below.mono hbA HB1.out.size) hbel))
        obtain ⟨a2, n2, c2, rfl⟩ : ∃ a n c, v' = .slice a n c := by
          rcases hown.2 with ⟨e, _⟩ | ⟨g, cap, cur, e, _⟩ <;> exact ⟨_, _, _, e⟩
        clear hown hrun hbel hbA q0
        go_wp2_with fail
        exact ⟨⟨k + 1, by omega, rfl, HO2.out, HB2.out⟩, by show (timesU C).length - (((k + 1 : Nat) : Int)).toNat < (timesU C).length - ((k : Int)).toNat; omega⟩
      case neg =>
        have hq : ((l.length : Int) == 0) = false := beq_false_of_ne (by omega)
        obtain ⟨g, rfl, q1⟩ := HZA.out (by omega)
        have hwl : IntKind.i64.wrap ((l.length : Int) - 1) = ((l.length - 1 : Nat) : Int) := by rw [IntKind.wrap_i64]; omega
        have hix2 : ((l.length - 1 : Nat) : Int) < (l.length : Int) := by omega
        have HLG := Lib.hid (last_getD (l := l) (by omega))
        by_cases hv : (l.getD (l.length - 1) (0, 0)).2 = lv
        case pos =>
          have hqv : ((l.getD (l.length - 1) (0, 0)).2 == lv) = true := beq_iff_eq.2 hv
          have HO2 := Lib.hid (show OwnSt w1 W4.heap.size (.slice (some ⟨g, 0, none⟩) l.length zc) ((timesU C).take (k + 1) |>.foldl (fun l t => layU l t (ratU first C t)) []) from by
            rw [HS.out, HL.out, show layU l tk lv = l from if_pos (by rw [HLG.out]; simp only [Option.map_some]; rw [hv])]
            exact HO1.out)
          clear hv
          generalize (l.getD (l.length - 1) (0, 0)).2 = lw at *
          go_wp2_with fail
          exact ⟨⟨k + 1, by omega, rfl, HO2.out, HB1.out⟩, by show (timesU C).length - (((k + 1 : Nat) : Int)).toNat < (timesU C).length - ((k : Int)).toNat; omega⟩
        case neg =>
          have hqv : ((l.getD (l.length - 1) (0, 0)).2 == lv) = false := beq_false_of_ne hv
          have HNE := Lib.hid (show ¬ l.getLast?.map (·.2) = some lv from by rw [HLG.out]; simp only [Option.map_some]; intro e; exact hv (by simpa using e))
          clear hv HLG
          generalize (l.getD (l.length - 1) (0, 0)).2 = lw at *
          go_upto_region 8 with fail
          refine wp_region_lit ?_
          refine wpList_yield (w' := w1) (v := .slice (some ⟨g, 0, none⟩) l.length zc) rfl (by first | (go_simp; done) | (go_simp; rfl)) ?_
          refine wpList_yield (w' := w1) (v := .slice (some ⟨gt, 0, none⟩) (timesU C).length ct) rfl (by first | (go_simp; done) | (go_simp; rfl)) ?_
          refine wpList_yield (w' := w1) (v := .int .i64 k) rfl (by first | (go_simp; done) | (go_simp; rfl)) ?_
          refine wpList_yield (w' := w1) (v := .pointer (some ⟨gt, k, none⟩)) rfl (by first | (go_simp; done) | (go_simp; rfl)) ?_
          refine wpList_yield (w' := w1) (v := .int .i64 tk) rfl (by first | (go_simp; done) | (go_simp; rfl)) ?_
          refine wpList_yield (w' := w1) (v := .int .i64 lv) rfl (by first | (go_simp; done) | (go_simp; rfl)) ?_
          refine wpList_yield (w' := w1) (v := .agg #[.int .i64 tk, .int .i64 lv]) rfl (by first | (go_simp; done) | (go_simp; rfl)) ?_
          refine wpList_yield (w' := w1.alloc (.cells #[.int .i64 tk, .int .i64 lv] 142)) (v := .slice (some ⟨w1.heap.size, 0, none⟩) 1 1) rfl (by first | (go_simp; done) | (go_simp; rfl)) ?_
          have hbA := below_alloc (Below.refl _ w1) (.cells #[.int .i64 tk, .int .i64 lv] 142)
          obtain ⟨v', W2, hrun, hown, _, hbel⟩ := Ap.run_app eltSt 137 W4.heap.size _ l.length _ (Ap.own_below HO1.out hbA) _ 1 _ (rd_one w1 #[.int .i64 tk, .int .i64 lv] 142 (size := 2) rfl (by intro u hu; simp at hu; rcases hu with rfl | rfl <;> rfl)) (by unfold maxLen; omega) (by omega) (Nat.le_trans HB1.out.size hbA.size)
          refine wpList_yield (w' := W2) (v := v') rfl (Ap.exec_app rfl (by go_simp) (by go_simp) hrun) ?_
          have HO2 := Lib.hid (show OwnSt W2 W4.heap.size v' ((timesU C).take (k + 1) |>.foldl (fun l t => layU l t (ratU first C t)) []) from by
            rw [HS.out, HL.out, show layU l tk lv = l ++ [(tk, lv)] from if_neg (by exact HNE.out)]
            unfold OwnSt
            rw [List.length_append, flatU_append]
            exact hown)
          have HB2 := Lib.hid (Below.trans HB1.out (Below.trans (Below.mono hbA HB1.out.size) hbel))
          obtain ⟨a2, n2, c2, rfl⟩ : ∃ a n c, v' = .slice a n c := by
            rcases hown.2 with ⟨e, _⟩ | ⟨g, cap, cur, e, _⟩ <;> exact ⟨_, _, _, e⟩
          clear hown hrun hbel hbA q0
          go_wp2_with fail
          exact ⟨⟨k + 1, by omega, rfl, HO2.out, HB2.out⟩, by show (timesU C).length - (((k + 1 : Nat) : Int)).toNat < (timesU C).length - ((k : Int)).toNat; omega⟩
set_option maxRecDepth 100000 in
set_option maxHeartbeats 8000000 in
theorem like_any {w : World} {S : Nat} {L : List (Int × Int)} {v : Value} {C : List ChgC} {first : Int} (h : USt w S L) (hr : RightU L) (hc : RowC w v C) (hlen : C.length ≤ 1048576) (hlk : LikeU first L C) :
    Calls Try.prog 24 #[.pointer (some ⟨S, 0, none⟩), .agg #[.int .i64 first, v]] w fun e w' => e = .returned (.int .i64 1) ∧ Below w.heap.size w w' := by
  have hmx : Try.prog.follows .mixedOrders = true := by kernel_rfl
  have hLL := like_list hlk hr
  obtain ⟨ad, cp, hv⟩ := hc.form
  have hpos := hr.pos
  have hlenL := h.len
  have hb0 := below_alloc (Below.refl _ w) (.cells #[.int .i64 first, v] 28)
  have n0 := World.alloc_heap_new w (.cells #[.int .i64 first, v] 28)
  have H := Lib.hid (fun W (hb : Below w.heap.size w W) => hc.below hb)
  have HU := Lib.hid (fun W (hb : Below w.heap.size w W) => h.below hb)
  clear h hc hlk hr
  subst hv
  go_enter Try.func24, Try.ntmps24
  go_upto_region 1 with fail
  generalize w.alloc (.cells #[.int .i64 first, .slice ad C.length cp] 28) = W at *
  have hW := (Array.getElem?_eq_some_iff.1 n0).1
  refine Ap.wp_region_K (S1 := fun X => X.cell? ⟨w.heap.size, 0, none⟩ = some (.int .i64 first) ∧ X.cell? ⟨w.heap.size, 1, none⟩ = some (.slice ad C.length cp)) (S2 := fun _ => True) (js := 5) hmx ?_
  change Ap.wpAnyK _ _ _ _ _ _ _ 6 _ _ W.drew
  have hSS : (fun X : World => X.cell? ⟨w.heap.size, 0, none⟩ = some (.int .i64 first) ∧ X.cell? ⟨w.heap.size, 1, none⟩ = some (.slice ad C.length cp)) W.drew ∧ (fun _ : World => True) W.drew := ⟨⟨cell_of_block n0 rfl, cell_of_block n0 rfl⟩, trivial⟩
  have hbd : Below w.heap.size w W.drew := Below.drew hb0
  refine Ap.wpAnyK_take1 (i := 0) (v := .pointer (some ⟨S, 0, none⟩)) rfl (by decide) (by decide +kernel) (by decide +kernel) (by decide +kernel) (fun _ _ _ h => h) (.inl ⟨by first | rfl | (go_simp; done), fun X hX => by have hx1 := hX.1; have hx2 := hX.2; clear hX; first | (go_simp; done) | (go_simp; rfl)⟩) hSS ?_
  refine Ap.wpAnyK_take1 (i := 2) (v := .agg #[.int .i64 first, .slice ad C.length cp]) rfl (by decide) (by decide +kernel) (by decide +kernel) (by decide +kernel) (fun _ _ _ h => h) (.inl ⟨by first | rfl | (go_simp; done), fun X hX => by have hx1 := hX.1; have hx2 := hX.2; clear hX; first | (go_simp; done) | (go_simp; rfl)⟩) hSS ?_
  refine Ap.anyK_call (i := 1) (by decide +kernel) rfl rfl (by go_simp) (list_any (HU.out _ hbd)) ?_
  rintro e X ⟨g, c, rfl, g1, g2, g3, g4, hbx⟩
  have hS1 : (fun X : World => X.cell? ⟨w.heap.size, 0, none⟩ = some (.int .i64 first) ∧ X.cell? ⟨w.heap.size, 1, none⟩ = some (.slice ad C.length cp)) X := ⟨(hbx.cell (p := ⟨w.heap.size, 0, none⟩) hW).trans hSS.1.1, (hbx.cell (p := ⟨w.heap.size, 1, none⟩) hW).trans hSS.1.2⟩
  refine ⟨_, rfl, ⟨hS1, fun _ => trivial⟩, ?_⟩
  refine Ap.anyK_call (i := 3) (by decide +kernel) rfl rfl (by go_simp) (rlist_any (H.out _ (below_next hbd hbx)) hlen first) ?_
  rintro e X2 ⟨v2, rfl, ho, hbx2⟩
  rw [hLL] at ho
  obtain ⟨ad2, c2, rfl, hf⟩ := ho.form
  obtain ⟨g9, rfl, h9, h10, h11⟩ := hf hpos
  have hWX : w.heap.size < X.heap.size := Nat.lt_of_lt_of_le hW hbx.size
  have hS2 : (fun X : World => X.cell? ⟨w.heap.size, 0, none⟩ = some (.int .i64 first) ∧ X.cell? ⟨w.heap.size, 1, none⟩ = some (.slice ad C.length cp)) X2 := ⟨(hbx2.cell (p := ⟨w.heap.size, 0, none⟩) hWX).trans hS1.1, (hbx2.cell (p := ⟨w.heap.size, 1, none⟩) hWX).trans hS1.2⟩
  refine ⟨_, rfl, ⟨hS2, fun _ => trivial⟩, ?_⟩
  have HR1 := Lib.hid (show URow X2 g L from g4.mono (hbx2.block g g2))
  have HR2 := Lib.hid h11
  have hg2 : g < X2.heap.size := Nat.lt_of_lt_of_le g2 hbx2.size
  have HB := Lib.hid (below_next (below_next hbd hbx) hbx2)
  clear ho hf h11 g4 hbx hbx2 hS1 hSS n0 hb0 hbd hLL
  refine Ap.anyK_val1 (i := 4) (v := .slice (some ⟨g, 0, none⟩) L.length c) (w' := X2) (by decide +kernel) rfl rfl (by first | (go_simp; done) | (go_simp; rfl)) ⟨hS2, trivial⟩ ?_
  refine Ap.anyK_val1 (i := 5) (v := .slice (some ⟨g9, 0, none⟩) L.length c2) (w' := X2) (by decide +kernel) rfl rfl (by first | (go_simp; done) | (go_simp; rfl)) ⟨hS2, trivial⟩ ?_
  refine Ap.wpAnyK_done (by decide +kernel) ?_ _
  clear hS2
  go_wp2_with fail
  go_loopw [7] (fun i wr => ∃ k : Nat, k ≤ L.length ∧ i = .int .i64 k ∧ Below X2.heap.size X2 wr) (fun i _ => L.length - (intOf i).toNat)
  case atStart => exact ⟨0, by omega, rfl, Below.refl _ _⟩
  case round =>
    obtain ⟨k, hk, rfl, hb⟩ := hrel
    have HBr := Lib.hid hb
    by_cases hlt : k < L.length
    case neg =>
      have hd : decide (k < L.length) = false := decide_eq_false hlt
      clear hb
      go_wp2_with fail
      go_ret
      exact ⟨rfl, below_next HB.out HBr.out⟩
    case pos =>
      have hd : decide (k < L.length) = true := decide_eq_true hlt
      have hix : (k : Int) < (L.length : Int) := by omega
      have hw1 : IntKind.i64.wrap ((k : Int) + 1) = ((k + 1 : Nat) : Int) := by rw [IntKind.wrap_i64]; omega
      have q0 := (hb.cell (p := ⟨g, k * 2, none⟩) hg2).trans (HR1.out k hlt).1
      have q1 := (hb.cell (p := ⟨g, k * 2 + 1, none⟩) hg2).trans (HR1.out k hlt).2
      have r0 := (hb.cell (p := ⟨g9, k * 2, none⟩) h10).trans (HR2.out k hlt).1
      have r1 := (hb.cell (p := ⟨g9, k * 2 + 1, none⟩) h10).trans (HR2.out k hlt).2
      have hgw : g < wr.heap.size := Nat.lt_of_lt_of_le hg2 hb.size
      have hgw9 : g9 < wr.heap.size := Nat.lt_of_lt_of_le h10 hb.size
      generalize L.getD k (0, 0) = p at *
      obtain ⟨p1, p2⟩ := p
      simp only at q0 q1 r0 r1
      clear hb
      go_upto_region 7 with fail
      refine Rl.wp_region_rel (fun a b => Below a.heap.size a b) wr (fun a b c h h' => below_next h h') (fun a => Below.refl _ _) hmx (by kernel_rfl) (Below.refl _ _).drew ?_
      iterate 24 (refine Rl.textR_run ?_ (fun ρ => ?_) (fun ρ W hS hd => ?_) ?_; rotate_left; (focus go_simp); (focus (obtain ⟨hc, hf⟩ := bcell hS; go_simp; first | exact ⟨rfl, Below.refl _ _⟩ | (refine ⟨?_, Below.refl _ _⟩; rfl))); (try go_simp))
      refine Rl.textR_nil ?_
      intro ρ w1 hg hk1
      dsimp only
      have HB1 := Lib.hid (below_next HBr.out hg)
      clear hg hk1 q0 q1 r0 r1
      go_wp2_with fail
      exact ⟨⟨k + 1, by omega, rfl, HB1.out⟩, by show L.length - (((k + 1 : Nat) : Int)).toNat < L.length - ((k : Int)).toNat; omega⟩
end Go.Proofs.Ytbhnjmdlagjfbaa
namespace Go.Proofs.Ytbhnjmdlagjfbaa
set_option linter.unusedVariables false
open Go.ChangeShapes Go.WideShapes Go.ChangeAt Go.RowKit
/-- where the part that begins at a list's head ends -/
def endT (r : List Int) : Int := (r.head?).getD 1099511627776
/-- what In tells of one part -/
def inStep (first : Int) (C : List ChgC) (P : Int × Int) (x e : Int) : List (Int × Int) :=
  if (cutI P (x, e)).1 < (cutI P (x, e)).2 then [(ratU first C (cutI P (x, e)).1, (cutI P (x, e)).2 - (cutI P (x, e)).1)] else []
def inU (first : Int) (C : List ChgC) (P : Int × Int) : List Int → List (Int × Int)
  | [] => []
  | x :: r => inStep first C P x (endT r) ++ inU first C P r
/-- the sum of the levels above 0 -/
def sumP (M : List (Int × Int)) : Int := M.foldl (fun s p => s + maxU p.1 0 * p.2) 0
theorem sumP_from : ∀ (M : List (Int × Int)) (s : Int), M.foldl (fun s p => s + maxU p.1 0 * p.2) s = s + sumP M
  | [], s => by simp [sumP]
  | p :: r, s => by
    unfold sumP
    rw [List.foldl_cons, List.foldl_cons, sumP_from r (s + _), sumP_from r (0 + _)]
    omega
theorem sumP_append (M N : List (Int × Int)) : sumP (M ++ N) = sumP M + sumP N := by
  unfold sumP
  rw [List.foldl_append]
  exact sumP_from N _
theorem cut_in {F T x e : Int} (hF : 0 ≤ F ∧ F ≤ 1099511627776) (hT : 0 ≤ T ∧ T ≤ 1099511627776) (hx : 0 ≤ x) (he : x < e) (he' : e ≤ 1099511627776) : cutI (F, T) (x, e) = if min T e ≤ max F x then (0, 0) else (max F x, min T e) := by
  unfold cutI bothT bothF
  simp only
  rw [clampI_of hF.1 hF.2, clampI_of hT.1 hT.2, clampI_of hx (by omega), clampI_of (by omega) he']
/-- what In tells of the times from a part's beginning on -/
structure InOk (g : Int → Int) (F T x : Int) (M : List (Int × Int)) : Prop where
  all : ∀ y, x ≤ y → y < 1099511627776 → F ≤ y → y < T → ∃ p ∈ M, p.1 = g y
  ex : ∀ p ∈ M, 0 < p.2 ∧ p.2 ≤ 1099511627776 ∧ ∃ y, x ≤ y ∧ y < 1099511627776 ∧ F ≤ y ∧ y < T ∧ g y = p.1
  sum : sumP M = areaS (fun y => maxU (g y) 0) (max x F) T
theorem in_ok {first : Int} {C : List ChgC} {F T : Int} (hF : 0 ≤ F ∧ F ≤ 1099511627776) (hT : 0 ≤ T ∧ T ≤ 1099511627776) {g : Int → Int} (hg0 : g = fun x => C.foldl (ratStep x) (boundU first)) : ∀ (r : List Int) (x : Int), 0 ≤ x → x < 1099511627776 → (x :: r).Pairwise (· < ·) → (∀ y ∈ r, y < 1099511627776) →
    (∀ a b : List Int, ∀ u y : Int, x :: r = a ++ u :: y :: b → ∀ z, u ≤ z → z < y → g z = g u) → (∀ u, (x :: r).getLast? = some u → ∀ z, u ≤ z → z < 1099511627776 → g z = g u) → InOk g F T x (inU first C (F, T) (x :: r)) := by
  have base : ∀ (x e : Int) (M : List (Int × Int)), 0 ≤ x → x < e → e ≤ 1099511627776 → (∀ z, x ≤ z → z < e → g z = g x) → (e < 1099511627776 → InOk g F T e M) → (e = 1099511627776 → M = []) → InOk g F T x (inStep first C (F, T) x e ++ M) := by
    intro x e M hx he he' hc hM hM0
    have hsum : sumP M = areaS (fun y => maxU (g y) 0) (max e F) T := by
      rcases Int.lt_or_le e 1099511627776 with h | h
      · exact (hM h).sum
      · rw [hM0 (by omega), areaS_none _ (by omega)]; rfl
    have hin : inStep first C (F, T) x e = if min T e ≤ max F x then [] else [(g x, min T e - max F x)] := by
      unfold inStep
      rw [cut_in hF hT hx he he']
      by_cases h : min T e ≤ max F x
      · rw [if_pos h, if_pos h, if_neg (by simp)]
      · rw [if_neg h, if_neg h]
        simp only
        rw [if_pos (by omega), ratU_fold (by omega) (by omega)]
        have := hc (max F x) (by omega) (by omega)
        rw [hg0] at this ⊢
        simp only at this ⊢
        rw [this]
    rw [hin]
    by_cases h : min T e ≤ max F x
    · rw [if_pos h, List.nil_append]
      refine ⟨fun y h1 h2 h3 h4 => ?_, fun p hp => ?_, ?_⟩
      · have hye : e ≤ y := by omega
        exact (hM (by omega)).all y hye h2 h3 h4
      · rcases Int.lt_or_le e 1099511627776 with h' | h'
        · obtain ⟨q0, q00, y, q1, q2, q3, q4, q5⟩ := (hM h').ex p hp
          exact ⟨q0, q00, y, by omega, q2, q3, q4, q5⟩
        · rw [hM0 (by omega)] at hp; cases hp
      · rw [hsum]
        by_cases hTF : T ≤ max x F
        · rw [areaS_none _ (by omega), areaS_none _ hTF]
        · rw [show max e F = max x F by omega]
    · rw [if_neg h]
      refine ⟨fun y h1 h2 h3 h4 => ?_, fun p hp => ?_, ?_⟩
      · by_cases hye : y < e
        · exact ⟨_, List.mem_cons_self, (hc y h1 hye).symm⟩
        · obtain ⟨p, hp, e'⟩ := (hM (by omega)).all y (by omega) h2 h3 h4
          exact ⟨p, List.mem_cons_of_mem _ hp, e'⟩
      · rcases List.mem_cons.1 hp with rfl | hp
        · exact ⟨by simp only; omega, by simp only; omega, max F x, by omega, by omega, by omega, by omega, hc _ (by omega) (by omega)⟩
        · rcases Int.lt_or_le e 1099511627776 with h' | h'
          · obtain ⟨q0, q00, y, q1, q2, q3, q4, q5⟩ := (hM h').ex p hp
            exact ⟨q0, q00, y, by omega, q2, q3, q4, q5⟩
          · rw [hM0 (by omega)] at hp; cases hp
      · rw [show [(g x, min T e - max F x)] ++ M = [(g x, min T e - max F x)] ++ M from rfl, sumP_append, hsum]
        have h1 : sumP [(g x, min T e - max F x)] = areaS (fun y => maxU (g y) 0) (max x F) (min T e) := by
          unfold sumP areaS
          rw [List.foldl_cons, List.foldl_nil, sumS_const (v := maxU (g x) 0) fun y hy hy' => by rw [hc y (by omega) (by omega)]]
          rw [show max F x = max x F by omega]
          rw [Int.zero_add, Int.mul_comm, show (((min T e - max x F).toNat : Nat) : Int) = min T e - max x F by omega]
        rw [h1]
        by_cases hTe : T ≤ e
        · rw [show min T e = T by omega, areaS_none _ (show T ≤ max e F by omega), Int.add_zero]
        · rw [show min T e = e by omega, show max e F = e by omega]
          exact (areaS_split _ (by omega) (by omega)).symm
  intro r
  induction r with
  | nil =>
    intro x h0 h1 _ _ _ hl
    unfold inU
    exact base x 1099511627776 [] h0 h1 (by decide) (hl x rfl) (fun h => absurd h (by decide)) (fun _ => rfl)
  | cons y r ih =>
    intro x h0 h1 hs hh hg hl
    obtain ⟨s1, s2⟩ := List.pairwise_cons.1 hs
    have hxy := s1 y List.mem_cons_self
    have hy := hh y List.mem_cons_self
    unfold inU
    exact base x y _ h0 hxy (by omega) (hg [] r x y rfl) (fun _ => ih y (by omega) hy s2 (fun z hz => hh z (List.mem_cons_of_mem _ hz)) (fun a b u z e => hg (x :: a) b u z (by rw [e]; rfl)) (fun u hu => hl u (by rw [List.getLast?_cons_cons]; exact hu))) (fun e => by omega)
/-- the least and the greatest of what was told, as the law goes through it -/
def pickL (lt : Int → Int → Bool) : List Int → Int
  | [] => 0
  | x :: r => r.foldl (fun m y => if lt y m then y else m) x
theorem pick_spec (lt : Int → Int → Bool) (le : Int → Int → Prop) (hrefl : ∀ a, le a a) (htr : ∀ a b c, le a b → le b c → le a c) (h1 : ∀ a b, lt a b = true → le a b) (h2 : ∀ a b, lt a b = false → le b a) : ∀ (r : List Int) (x : Int), (r.foldl (fun m y => if lt y m then y else m) x ∈ x :: r) ∧ ∀ y ∈ x :: r, le (r.foldl (fun m y => if lt y m then y else m) x) y
  | [], x => ⟨by simp, fun y hy => by simp at hy; subst hy; exact hrefl _⟩
  | z :: r, x => by
    rw [List.foldl_cons]
    cases hz : lt z x with
    | true =>
      simp only [if_true]
      obtain ⟨i1, i2⟩ := pick_spec lt le hrefl htr h1 h2 r z
      refine ⟨List.mem_cons_of_mem _ i1, fun y hy => ?_⟩
      rcases List.mem_cons.1 hy with rfl | hy
      · exact htr _ _ _ (i2 z List.mem_cons_self) (h1 _ _ hz)
      · exact i2 y hy
    | false =>
      simp only [Bool.false_eq_true, if_false]
      obtain ⟨i1, i2⟩ := pick_spec lt le hrefl htr h1 h2 r x
      refine ⟨?_, fun y hy => ?_⟩
      · rcases List.mem_cons.1 i1 with e | e
        · rw [e]; exact List.mem_cons_self
        · exact List.mem_cons_of_mem _ (List.mem_cons_of_mem _ e)
      · rcases List.mem_cons.1 hy with rfl | hy
        · exact i2 y List.mem_cons_self
        · rcases List.mem_cons.1 hy with rfl | hy
          · exact htr _ _ _ (i2 x List.mem_cons_self) (h2 _ _ hz)
          · exact i2 y (List.mem_cons_of_mem _ hy)
theorem pickL_snoc (lt : Int → Int → Bool) (l : List Int) (y : Int) : pickL lt (l ++ [y]) = if l = [] ∨ lt y (pickL lt l) = true then y else pickL lt l := by
  cases l with
  | nil => simp [pickL]
  | cons x r =>
    simp only [List.cons_append, pickL, List.foldl_append, List.foldl_cons, List.foldl_nil]
    simp
/-- the law's area: a sum that stops at Never -/
def satU (s v n : Int) : Int := if v > 0 ∧ s < 1099511627776 then (if n > 1099511627776 / v then 1099511627776 else (if 1099511627776 < s + n * v then 1099511627776 else s + n * v)) else s
theorem sat_fold : ∀ (M : List (Int × Int)) (s S : Int), (∀ p ∈ M, 0 < p.2) → 0 ≤ S → s = minU S 1099511627776 → M.foldl (fun s p => satU s p.1 p.2) s = minU (M.foldl (fun s p => s + maxU p.1 0 * p.2) S) 1099511627776
  | [], s, S, _, _, h => h
  | p :: r, s, S, hp, h0, h => by
    rw [List.foldl_cons, List.foldl_cons]
    have hn := hp p List.mem_cons_self
    obtain ⟨v, n⟩ := p
    simp only at hn ⊢
    have hm0 : 0 ≤ maxU v 0 := by unfold maxU; split <;> omega
    have hmn : 0 ≤ maxU v 0 * n := Int.mul_nonneg hm0 (by omega)
    refine sat_fold r _ _ (fun q hq => hp q (List.mem_cons_of_mem _ hq)) (by omega) ?_
    unfold satU
    by_cases hv : v > 0
    · have e1 : maxU v 0 = v := by unfold maxU; rw [if_neg (by omega)]
      rw [e1] at hmn ⊢
      by_cases hs : s < 1099511627776
      · have eS : s = S := by rw [h]; unfold minU; rw [h] at hs; unfold minU at hs; split <;> (try rfl); rename_i h9; rw [if_neg h9] at hs; omega
        rw [if_pos ⟨hv, hs⟩]
        by_cases hq : n > 1099511627776 / v
        · rw [if_pos hq]
          have : 1099511627776 < v * n := by
            have := (Int.ediv_lt_iff_lt_mul hv).1 hq
            rw [Int.mul_comm]; exact this
          unfold minU
          rw [if_neg (by omega)]
        · rw [if_neg hq, Int.mul_comm n v, eS]
          unfold minU
          by_cases h9 : 1099511627776 < S + v * n
          · rw [if_pos h9, if_neg (by omega)]
          · rw [if_neg h9, if_pos (by omega)]
      · rw [if_neg (fun hh => hs hh.2)]
        have hS : 1099511627776 ≤ S := by unfold minU at h; split at h <;> omega
        have es : s = 1099511627776 := by unfold minU at h; split at h <;> omega
        rw [es]
        unfold minU
        split <;> omega
    · have e1 : maxU v 0 = 0 := by unfold maxU; split <;> omega
      rw [if_neg (fun hh => hv hh.1), e1, Int.zero_mul, Int.add_zero]
      exact h
end Go.Proofs.Ytbhnjmdlagjfbaa
namespace Go.Proofs.Ytbhnjmdlagjfbaa
set_option linter.unusedVariables false
open Go.ChangeShapes Go.WideShapes Go.ChangeAt Go.RowKit
theorem in_none (first : Int) (C : List ChgC) : ∀ l : List Int, inU first C (0, 0) l = []
  | [] => rfl
  | x :: r => by
    unfold inU inStep
    have : cutI (0, 0) (x, endT r) = (0, 0) := by
      unfold cutI bothT bothF
      simp only
      have h1 := clampI_bounds x
      have h2 := clampI_bounds (endT r)
      have e0 : clampI 0 = 0 := by decide +kernel
      rw [e0, if_pos (by omega)]
    rw [this, if_neg (by simp), List.nil_append]
    exact in_none first C r
theorem choose_none {L : List (Int × Int)} (bt : Int → Int → Int) {f t : Int} (h : clampI t ≤ clampI f) : chooseU bt L (f, t) = 0 := by
  have : ∀ (rs : List (Int × Int × Int)) (st : Int × Bool), chooseGo bt (f, t) rs st = st := by
    intro rs
    induction rs with
    | nil => intro st; rfl
    | cons r rs ih =>
      intro st
      have hm : meetsU (r.1, r.2.1) (f, t) = false := by
        unfold meetsU bothT bothF
        simp only [Bool.not_eq_false', decide_eq_true_eq]
        omega
      unfold chooseGo
      simp only [hm, Bool.false_eq_true, if_false]
      rw [ih]
      split <;> rfl
  unfold chooseU
  rw [this]
/-- the list that In goes through -/
def inL (first : Int) (C : List ChgC) (f t : Int) : List (Int × Int) := inU first C (cleanI (f, t)) (putT (timesU C) (cleanI (f, t)).1)
theorem inL_ok {first : Int} {C : List ChgC} {f t : Int} (h : clampI f < clampI t) : InOk (fun x => C.foldl (ratStep x) (boundU first)) (clampI f) (clampI t) 0 (inL first C f t) := by
  have hcl : cleanI (f, t) = (clampI f, clampI t) := by unfold cleanI; simp only; rw [if_neg (by omega)]
  have hF := clampI_bounds f
  have hT := clampI_bounds t
  have ht := (timesU_times C).put (t := clampI f) hF.1
  unfold inL
  rw [hcl]
  simp only
  have hsub : ∀ p ∈ timesU C, p ∈ putT (timesU C) (clampI f) := fun p hp => putT_mem.2 (.inr hp)
  have hz := ht.zero
  have hgap : ∀ a b : List Int, ∀ x y : Int, putT (timesU C) (clampI f) = a ++ x :: y :: b → ∀ z, x ≤ z → z < y → C.foldl (ratStep z) (boundU first) = C.foldl (ratStep x) (boundU first) := fun a b x y e z h1 h2 => by
    have hx := ht.hi x (by rw [e]; simp)
    have hy := ht.hi y (by rw [e]; simp)
    exact same_between hx.1 h1 (by omega) (fun p hp hc => sorted_gap ht.sorted e p (hsub p hp) ⟨hc.1, by omega⟩)
  have hlast : ∀ x, (putT (timesU C) (clampI f)).getLast? = some x → ∀ z, x ≤ z → z < 1099511627776 → C.foldl (ratStep z) (boundU first) = C.foldl (ratStep x) (boundU first) := fun x e z h1 h2 => by
    have hx := ht.hi x (List.mem_of_getLast? e)
    exact same_between hx.1 h1 h2 (fun p hp hc => by have := sorted_last ht.sorted e p (hsub p hp); omega)
  cases hl : putT (timesU C) (clampI f) with
  | nil => rw [hl] at hz; simp at hz
  | cons T r =>
    have hs := ht.sorted
    have hh := ht.hi
    rw [hl] at hz hgap hlast hs hh
    have hT0 : T = 0 := by simpa using hz
    subst hT0
    exact in_ok hF hT rfl r 0 (by decide) (by decide) hs (fun y hy => (hh y (List.mem_cons_of_mem _ hy)).2) hgap hlast
theorem in_least {first : Int} {L : List (Int × Int)} {C : List ChgC} (hlk : LikeU first L C) (hr : RightU L) (f t : Int) :
    pickL (fun a b => decide (a < b)) ((inL first C f t).map (·.1)) = chooseU minU L (f, t) ∧ pickL (fun a b => decide (a > b)) ((inL first C f t).map (·.1)) = chooseU maxU L (f, t) ∧ (inL first C f t).foldl (fun s p => satU s p.1 p.2) 0 = areaU L (f, t) ∧ ∀ p ∈ inL first C f t, 0 < p.2 ∧ p.2 ≤ 1099511627776 := by
  by_cases h : clampI f < clampI t
  · have hk := inL_ok (first := first) (C := C) h
    have hF := clampI_bounds f
    have hT := clampI_bounds t
    have hlv : ∀ y, 0 ≤ y → y < 1099511627776 → lvl 0 L y = C.foldl (ratStep y) (boundU first) := hlk
    generalize inL first C f t = M at *
    obtain ⟨p0, hp0, _⟩ := hk.all (clampI f) hF.1 (by omega) (by omega) h
    have hmem : ∀ y, 0 ≤ y → y < 1099511627776 → clampI f ≤ y → y < clampI t → lvl 0 L y ∈ M.map (·.1) := fun y h1 h2 h3 h4 => by
      obtain ⟨p, hp, e⟩ := hk.all y h1 h2 h3 h4
      rw [hlv y h1 h2]
      exact List.mem_map.2 ⟨p, hp, e⟩
    have hval : ∀ v ∈ M.map (·.1), ∃ y, 0 ≤ y ∧ y < 1099511627776 ∧ clampI f ≤ y ∧ y < clampI t ∧ lvl 0 L y = v := fun v hv => by
      obtain ⟨p, hp, rfl⟩ := List.mem_map.1 hv
      obtain ⟨_, _, y, q1, q2, q3, q4, q5⟩ := hk.ex p hp
      exact ⟨y, q1, q2, q3, q4, by rw [hlv y q1 q2]; exact q5⟩
    have hne : M.map (·.1) ≠ [] := fun e => by
      have := hmem (clampI f) hF.1 (by omega) (by omega) h
      rw [e] at this; cases this
    refine ⟨?_, ?_, ?_, fun p hp => ⟨(hk.ex p hp).1, (hk.ex p hp).2.1⟩⟩
    · obtain ⟨⟨x, x0, x1, x2, x3, x4⟩, hb⟩ := least_spec hr h
      cases hM : M.map (·.1) with
      | nil => exact absurd hM hne
      | cons v vs =>
        obtain ⟨i1, i2⟩ := pick_spec (fun a b => decide (a < b)) (· ≤ ·) (fun a => Int.le_refl a) (fun a b c => Int.le_trans) (fun a b h => by have := of_decide_eq_true h; omega) (fun a b h => by have := of_decide_eq_false h; omega) vs v
        unfold pickL
        simp only
        rw [← hM] at i1 i2
        obtain ⟨y, y0, y1, y2, y3, y4⟩ := hval _ i1
        have h1 := hb y y0 y1 y2 y3
        have h2 := i2 _ (hmem x x0 x1 x2 x3)
        rw [y4] at h1
        rw [x4] at h2
        omega
    · obtain ⟨⟨x, x0, x1, x2, x3, x4⟩, hb⟩ := most_spec hr h
      cases hM : M.map (·.1) with
      | nil => exact absurd hM hne
      | cons v vs =>
        obtain ⟨i1, i2⟩ := pick_spec (fun a b => decide (a > b)) (fun a b => b ≤ a) (fun a => Int.le_refl a) (fun a b c h k => Int.le_trans k h) (fun a b h => by have := of_decide_eq_true h; omega) (fun a b h => by have := of_decide_eq_false h; omega) vs v
        unfold pickL
        simp only
        rw [← hM] at i1 i2
        obtain ⟨y, y0, y1, y2, y3, y4⟩ := hval _ i1
        have h1 := hb y y0 y1 y2 y3
        have h2 := i2 _ (hmem x x0 x1 x2 x3)
        rw [y4] at h1
        rw [x4] at h2
        omega
    · rw [sat_fold M 0 0 (fun p hp => (hk.ex p hp).1) (by decide) (by decide +kernel), area_eq hr]
      have hs := hk.sum
      unfold sumP at hs
      rw [hs, show max 0 (clampI f) = clampI f by omega]
      congr 1
      unfold areaS
      refine sumS_congr fun y hy hy' => ?_
      unfold posL
      rw [hlv y (by omega) (by omega)]
  · have hcl : cleanI (f, t) = (0, 0) := by unfold cleanI; simp only; rw [if_pos (by omega)]
    have hM : inL first C f t = [] := by unfold inL; rw [hcl]; exact in_none _ _ _
    rw [hM, choose_none minU (by omega), choose_none maxU (by omega), area_eq hr, areaS_none _ (by omega)]
    exact ⟨rfl, rfl, by decide +kernel, fun p hp => by cases hp⟩
end Go.Proofs.Ytbhnjmdlagjfbaa
