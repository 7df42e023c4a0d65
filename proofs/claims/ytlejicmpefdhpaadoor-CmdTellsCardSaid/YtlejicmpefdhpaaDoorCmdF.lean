/- A command for the document's answers, and which fields count, and what they may be, by the document (layer 22). No condition. -/
import Derived.Test.YtlejicmpefdhpaaDoorCmdE
namespace Go.Proofs.YtlejicmpefdhpaaDoor
set_option linter.unusedVariables false
open Go.ChangeShapes Go.WideShapes Go.ChangeAt Go.RowKit
attribute [local go_sem ↓] Go.wp_at_zero Go.wp_at_succ comesTo_value_eq comesTo_skip_eq comesTo_enter_eq

set_option maxRecDepth 100000 in
set_option maxHeartbeats 1000000 in
theorem own12 (x0 x1 x2 x3 x4 x5 x6 x7 x8 x9 x10 : Int) (b : Bool) (w : World) : Calls Tryd.prog 9 #[.agg #[.int .i64 x0, .int .i64 x1, .int .i64 x2, .int .i64 x3, .int .i64 x4, .int .i64 x5, .int .i64 x6, .int .i64 x7, .int .i64 x8, .int .i64 x9, .int .i64 x10, .bool b]] w fun e w' => e = .returned (.agg ([.int .i64 x0, .int .i64 x1, .int .i64 x2, .int .i64 x3, .int .i64 x4, .int .i64 x5, .int .i64 x6, .int .i64 x7, .int .i64 x8, .int .i64 x9, .int .i64 x10, .int .i64 (heldN b)] : List Value).toArray) ∧ Below w.heap.size w w' := by
  go_enter Tryd.func9, Tryd.ntmps9
  go_upto_region 1 with fail
  generalize hW : (w.alloc (.cells #[.int .i64 x0, .int .i64 x1, .int .i64 x2, .int .i64 x3, .int .i64 x4, .int .i64 x5, .int .i64 x6, .int .i64 x7, .int .i64 x8, .int .i64 x9, .int .i64 x10, .bool b] 24)).alloc (.cells #[.int .i64 0, .int .i64 0, .int .i64 0, .int .i64 0, .int .i64 0, .int .i64 0, .int .i64 0, .int .i64 0, .int .i64 0, .int .i64 0, .int .i64 0, .int .i64 0] 27) = U
  have hC : U.heap[w.heap.size]? = some (.cells #[.int .i64 x0, .int .i64 x1, .int .i64 x2, .int .i64 x3, .int .i64 x4, .int .i64 x5, .int .i64 x6, .int .i64 x7, .int .i64 x8, .int .i64 x9, .int .i64 x10, .bool b] 24 (0, 0)) := by rw [← hW]; exact ((below_alloc (Below.refl _ _) _).block _ (by simp)).trans (World.alloc_heap_new w _)
  have hZ : U.heap[w.heap.size + 1]? = some (.cells #[.int .i64 0, .int .i64 0, .int .i64 0, .int .i64 0, .int .i64 0, .int .i64 0, .int .i64 0, .int .i64 0, .int .i64 0, .int .i64 0, .int .i64 0, .int .i64 0] 27 (0, 0)) := by
    rw [← hW]
    have := World.alloc_heap_new (w.alloc (.cells #[.int .i64 x0, .int .i64 x1, .int .i64 x2, .int .i64 x3, .int .i64 x4, .int .i64 x5, .int .i64 x6, .int .i64 x7, .int .i64 x8, .int .i64 x9, .int .i64 x10, .bool b] 24)) (.cells #[.int .i64 0, .int .i64 0, .int .i64 0, .int .i64 0, .int .i64 0, .int .i64 0, .int .i64 0, .int .i64 0, .int .i64 0, .int .i64 0, .int .i64 0, .int .i64 0] 27)
    rwa [show (w.alloc (.cells #[.int .i64 x0, .int .i64 x1, .int .i64 x2, .int .i64 x3, .int .i64 x4, .int .i64 x5, .int .i64 x6, .int .i64 x7, .int .i64 x8, .int .i64 x9, .int .i64 x10, .bool b] 24)).heap.size = w.heap.size + 1 by simp] at this
  have HB := Lib.hid (show Below w.heap.size w U by rw [← hW]; exact (by repeat (first | exact Below.refl _ _ | assumption | refine below_drewN ?_ _ | refine Below.drew ?_ | refine below_alloc ?_ _ | refine Below.alloc ?_ (by first | omega | (simp; done) | (simp; omega)) _ | refine Below.setCell ?_ (Below.size (by assumption)) _ | refine Below.setCell ?_ (by first | omega | (simp; done) | (simp; omega)) _ | (refine Below.trans ?_ (Below.mono (by assumption) (by first | omega | (simp; done) | (simp; omega)))) | refine below_next ?_ (by assumption))))
  clear hW
  have c0 := cell_of_block (o := 0) hC rfl
  have c1 := cell_of_block (o := 1) hC rfl
  have c2 := cell_of_block (o := 2) hC rfl
  have c3 := cell_of_block (o := 3) hC rfl
  have c4 := cell_of_block (o := 4) hC rfl
  have c5 := cell_of_block (o := 5) hC rfl
  have c6 := cell_of_block (o := 6) hC rfl
  have c7 := cell_of_block (o := 7) hC rfl
  have c8 := cell_of_block (o := 8) hC rfl
  have c9 := cell_of_block (o := 9) hC rfl
  have c10 := cell_of_block (o := 10) hC rfl
  have c11 := cell_of_block (o := 11) hC rfl
  have HZ := Lib.hid hZ
  clear hZ hC
  cases b
  · go_upto_region 4 with fail
    refine wp_region_lit ?_
    refine wpList_yield (w' := U) (v := .pointer (some ⟨w.heap.size, 0, none⟩)) rfl (by go_simp) ?_
    refine wpList_yield (w' := U) (v := .int .i64 x0) rfl (by go_simp) ?_
    refine wpList_yield (w' := U) (v := .pointer (some ⟨w.heap.size, 1, none⟩)) rfl (by go_simp) ?_
    refine wpList_yield (w' := U) (v := .int .i64 x1) rfl (by go_simp) ?_
    refine wpList_yield (w' := U) (v := .pointer (some ⟨w.heap.size, 2, none⟩)) rfl (by go_simp) ?_
    refine wpList_yield (w' := U) (v := .int .i64 x2) rfl (by go_simp) ?_
    refine wpList_yield (w' := U) (v := .pointer (some ⟨w.heap.size, 3, none⟩)) rfl (by go_simp) ?_
    refine wpList_yield (w' := U) (v := .int .i64 x3) rfl (by go_simp) ?_
    refine wpList_yield (w' := U) (v := .pointer (some ⟨w.heap.size, 4, none⟩)) rfl (by go_simp) ?_
    refine wpList_yield (w' := U) (v := .int .i64 x4) rfl (by go_simp) ?_
    refine wpList_yield (w' := U) (v := .pointer (some ⟨w.heap.size, 5, none⟩)) rfl (by go_simp) ?_
    refine wpList_yield (w' := U) (v := .int .i64 x5) rfl (by go_simp) ?_
    refine wpList_yield (w' := U) (v := .pointer (some ⟨w.heap.size, 6, none⟩)) rfl (by go_simp) ?_
    refine wpList_yield (w' := U) (v := .int .i64 x6) rfl (by go_simp) ?_
    refine wpList_yield (w' := U) (v := .pointer (some ⟨w.heap.size, 7, none⟩)) rfl (by go_simp) ?_
    refine wpList_yield (w' := U) (v := .int .i64 x7) rfl (by go_simp) ?_
    refine wpList_yield (w' := U) (v := .pointer (some ⟨w.heap.size, 8, none⟩)) rfl (by go_simp) ?_
    refine wpList_yield (w' := U) (v := .int .i64 x8) rfl (by go_simp) ?_
    refine wpList_yield (w' := U) (v := .pointer (some ⟨w.heap.size, 9, none⟩)) rfl (by go_simp) ?_
    refine wpList_yield (w' := U) (v := .int .i64 x9) rfl (by go_simp) ?_
    refine wpList_yield (w' := U) (v := .pointer (some ⟨w.heap.size, 10, none⟩)) rfl (by go_simp) ?_
    refine wpList_yield (w' := U) (v := .int .i64 x10) rfl (by go_simp) ?_
    refine wpList_yield (w' := U) (v := .int .i64 0) rfl (by go_simp) ?_
    refine wpList_yield (w' := U) (v := .agg #[.int .i64 x1, .int .i64 x2, .int .i64 x3, .int .i64 x4, .int .i64 x5, .int .i64 x6, .int .i64 x7, .int .i64 x8, .int .i64 x9, .int .i64 x10, .int .i64 0]) rfl (by go_simp) ?_
    refine wpList_yield (w' := U) (v := .agg ([.int .i64 x0, .int .i64 x1, .int .i64 x2, .int .i64 x3, .int .i64 x4, .int .i64 x5, .int .i64 x6, .int .i64 x7, .int .i64 x8, .int .i64 x9, .int .i64 x10, .int .i64 0] : List Value).toArray) rfl (by go_simp) ?_
    clear c0 c1 c2 c3 c4 c5 c6 c7 c8 c9 c10 c11
    refine wpList_store_all rfl 27 _ _ rfl (w.heap.size + 1) (cs := #[.int .i64 0, .int .i64 0, .int .i64 0, .int .i64 0, .int .i64 0, .int .i64 0, .int .i64 0, .int .i64 0, .int .i64 0, .int .i64 0, .int .i64 0, .int .i64 0]) (T := 27) [.int .i64 x0, .int .i64 x1, .int .i64 x2, .int .i64 x3, .int .i64 x4, .int .i64 x5, .int .i64 x6, .int .i64 x7, .int .i64 x8, .int .i64 x9, .int .i64 x10, .int .i64 0] (by go_simp) (by go_simp) HZ.out rfl (by kernel_rfl) rfl ?_
    intro V hV
    have HV := Lib.hid hV
    have HB4 := Lib.hid (hV.below HB.out (by omega))
    clear hV
    go_wp2_with fail
    exact bodyPost_ret (results_all [.int .i64 x0, .int .i64 x1, .int .i64 x2, .int .i64 x3, .int .i64 x4, .int .i64 x5, .int .i64 x6, .int .i64 x7, .int .i64 x8, .int .i64 x9, .int .i64 x10, .int .i64 0] _ Tryd.results9 (by go_simp) HV.out.there Tryd.underlying27 rfl (by kernel_rfl)) rfl ⟨rfl, HB4.out⟩
  · go_upto_region 4 with fail
    refine wp_region_lit ?_
    refine wpList_yield (w' := U) (v := .pointer (some ⟨w.heap.size, 0, none⟩)) rfl (by go_simp) ?_
    refine wpList_yield (w' := U) (v := .int .i64 x0) rfl (by go_simp) ?_
    refine wpList_yield (w' := U) (v := .pointer (some ⟨w.heap.size, 1, none⟩)) rfl (by go_simp) ?_
    refine wpList_yield (w' := U) (v := .int .i64 x1) rfl (by go_simp) ?_
    refine wpList_yield (w' := U) (v := .pointer (some ⟨w.heap.size, 2, none⟩)) rfl (by go_simp) ?_
    refine wpList_yield (w' := U) (v := .int .i64 x2) rfl (by go_simp) ?_
    refine wpList_yield (w' := U) (v := .pointer (some ⟨w.heap.size, 3, none⟩)) rfl (by go_simp) ?_
    refine wpList_yield (w' := U) (v := .int .i64 x3) rfl (by go_simp) ?_
    refine wpList_yield (w' := U) (v := .pointer (some ⟨w.heap.size, 4, none⟩)) rfl (by go_simp) ?_
    refine wpList_yield (w' := U) (v := .int .i64 x4) rfl (by go_simp) ?_
    refine wpList_yield (w' := U) (v := .pointer (some ⟨w.heap.size, 5, none⟩)) rfl (by go_simp) ?_
    refine wpList_yield (w' := U) (v := .int .i64 x5) rfl (by go_simp) ?_
    refine wpList_yield (w' := U) (v := .pointer (some ⟨w.heap.size, 6, none⟩)) rfl (by go_simp) ?_
    refine wpList_yield (w' := U) (v := .int .i64 x6) rfl (by go_simp) ?_
    refine wpList_yield (w' := U) (v := .pointer (some ⟨w.heap.size, 7, none⟩)) rfl (by go_simp) ?_
    refine wpList_yield (w' := U) (v := .int .i64 x7) rfl (by go_simp) ?_
    refine wpList_yield (w' := U) (v := .pointer (some ⟨w.heap.size, 8, none⟩)) rfl (by go_simp) ?_
    refine wpList_yield (w' := U) (v := .int .i64 x8) rfl (by go_simp) ?_
    refine wpList_yield (w' := U) (v := .pointer (some ⟨w.heap.size, 9, none⟩)) rfl (by go_simp) ?_
    refine wpList_yield (w' := U) (v := .int .i64 x9) rfl (by go_simp) ?_
    refine wpList_yield (w' := U) (v := .pointer (some ⟨w.heap.size, 10, none⟩)) rfl (by go_simp) ?_
    refine wpList_yield (w' := U) (v := .int .i64 x10) rfl (by go_simp) ?_
    refine wpList_yield (w' := U) (v := .int .i64 1) rfl (by go_simp) ?_
    refine wpList_yield (w' := U) (v := .agg #[.int .i64 x1, .int .i64 x2, .int .i64 x3, .int .i64 x4, .int .i64 x5, .int .i64 x6, .int .i64 x7, .int .i64 x8, .int .i64 x9, .int .i64 x10, .int .i64 1]) rfl (by go_simp) ?_
    refine wpList_yield (w' := U) (v := .agg ([.int .i64 x0, .int .i64 x1, .int .i64 x2, .int .i64 x3, .int .i64 x4, .int .i64 x5, .int .i64 x6, .int .i64 x7, .int .i64 x8, .int .i64 x9, .int .i64 x10, .int .i64 1] : List Value).toArray) rfl (by go_simp) ?_
    clear c0 c1 c2 c3 c4 c5 c6 c7 c8 c9 c10 c11
    refine wpList_store_all rfl 27 _ _ rfl (w.heap.size + 1) (cs := #[.int .i64 0, .int .i64 0, .int .i64 0, .int .i64 0, .int .i64 0, .int .i64 0, .int .i64 0, .int .i64 0, .int .i64 0, .int .i64 0, .int .i64 0, .int .i64 0]) (T := 27) [.int .i64 x0, .int .i64 x1, .int .i64 x2, .int .i64 x3, .int .i64 x4, .int .i64 x5, .int .i64 x6, .int .i64 x7, .int .i64 x8, .int .i64 x9, .int .i64 x10, .int .i64 1] (by go_simp) (by go_simp) HZ.out rfl (by kernel_rfl) rfl ?_
    intro V hV
    have HV := Lib.hid hV
    have HB4 := Lib.hid (hV.below HB.out (by omega))
    clear hV
    go_wp2_with fail
    exact bodyPost_ret (results_all [.int .i64 x0, .int .i64 x1, .int .i64 x2, .int .i64 x3, .int .i64 x4, .int .i64 x5, .int .i64 x6, .int .i64 x7, .int .i64 x8, .int .i64 x9, .int .i64 x10, .int .i64 1] _ Tryd.results9 (by go_simp) HV.out.there Tryd.underlying27 rfl (by kernel_rfl)) rfl ⟨rfl, HB4.out⟩
theorem own_c {xs : List Int} (h : Cmd12 xs) (w : World) : Calls Tryd.prog 9 #[.agg (cmdC xs).toArray] w fun e w' => e = .returned (.agg (numC xs).toArray) ∧ Below w.heap.size w w' := by
  obtain ⟨x0, x1, x2, x3, x4, x5, x6, x7, x8, x9, x10, x11, rfl⟩ := twelve h.len
  have hl := h.last
  refine (own12 x0 x1 x2 x3 x4 x5 x6 x7 x8 x9 x10 (x11 == 1) w).mono fun e w' hh => ?_
  rw [show heldN (x11 == 1) = x11 by
    rcases (show x11 = 0 ∨ x11 = 1 from hl) with rfl | rfl <;> rfl] at hh
  exact hh
/-- a field's letter; a field's letter in a kind -/
def chrF (j : Nat) : Nat := [45, 73, 85, 80, 87, 78, 65, 110, 119, 84, 77, 72].getD j 45
def fldF (k i : Nat) : Nat := if i + 1 ∈ cntN k then chrF (i + 1) else 45
def fldS (k : Nat) : ByteArray := ⟨((List.range 11).map fun i => UInt8.ofNat (fldF k i)).toArray⟩
theorem fldS_size (k : Nat) : (fldS k).size = 11 := by simp [fldS, ByteArray.size]
theorem fldF_lt (k i : Nat) : fldF k i < 256 := by
  unfold fldF chrF
  split
  · rcases Nat.lt_or_ge (i + 1) 12 with h | h
    · have := of_decide_eq_true (show decide (∀ j : Nat, j < 12 → ([45, 73, 85, 80, 87, 78, 65, 110, 119, 84, 77, 72].getD j 45) < 256) = true by decide +kernel)
      exact this (i + 1) h
    · rw [List.getD_eq_getElem?_getD, List.getElem?_eq_none (by simpa using h)]; decide
  · decide
theorem fldS_get (k i : Nat) (h : i < (fldS k).size) : (((fldS k)[i]'h).toNat : Int) = (fldF k i : Int) := by
  have hi : i < 11 := by rw [fldS_size] at h; exact h
  have : (fldS k)[i]'h = UInt8.ofNat (fldF k i) := by
    show (fldS k).data[i] = _
    simp [fldS]
  rw [this]
  have := fldF_lt k i
  simp
  omega
theorem rfields_at (k : Nat) (h : 1 ≤ k ∧ k ≤ 12) (w : World) : Calls Tryd.prog 27 #[.int .i64 k] w fun e w' => e = .returned (.string (fldS k)) ∧ w = w' := by
  rcases (show k = 1 ∨ k = 2 ∨ k = 3 ∨ k = 4 ∨ k = 5 ∨ k = 6 ∨ k = 7 ∨ k = 8 ∨ k = 9 ∨ k = 10 ∨ k = 11 ∨ k = 12 by omega) with rfl | rfl | rfl | rfl | rfl | rfl | rfl | rfl | rfl | rfl | rfl | rfl
  · rw [show fldS 1 = ⟨#[45, 85, 80, 87, 78, 65, 45, 45, 84, 45, 72]⟩ by decide +kernel]
    clear h
    go_enter Tryd.func27, Tryd.ntmps27
    go_wp2
    go_ret
    exact ⟨rfl, rfl⟩
  · rw [show fldS 2 = ⟨#[73, 45, 45, 45, 45, 45, 45, 45, 45, 45, 45]⟩ by decide +kernel]
    clear h
    go_enter Tryd.func27, Tryd.ntmps27
    go_wp2
    go_ret
    exact ⟨rfl, rfl⟩
  · rw [show fldS 3 = ⟨#[73, 45, 45, 45, 45, 45, 45, 45, 45, 45, 45]⟩ by decide +kernel]
    clear h
    go_enter Tryd.func27, Tryd.ntmps27
    go_wp2
    go_ret
    exact ⟨rfl, rfl⟩
  · rw [show fldS 4 = ⟨#[73, 45, 45, 45, 45, 45, 45, 45, 45, 45, 45]⟩ by decide +kernel]
    clear h
    go_enter Tryd.func27, Tryd.ntmps27
    go_wp2
    go_ret
    exact ⟨rfl, rfl⟩
  · rw [show fldS 5 = ⟨#[73, 45, 45, 45, 45, 45, 45, 45, 84, 45, 45]⟩ by decide +kernel]
    clear h
    go_enter Tryd.func27, Tryd.ntmps27
    go_wp2
    go_ret
    exact ⟨rfl, rfl⟩
  · rw [show fldS 6 = ⟨#[45, 45, 80, 87, 45, 45, 45, 45, 84, 77, 45]⟩ by decide +kernel]
    clear h
    go_enter Tryd.func27, Tryd.ntmps27
    go_wp2
    go_ret
    exact ⟨rfl, rfl⟩
  · rw [show fldS 7 = ⟨#[73, 45, 80, 45, 45, 45, 45, 45, 45, 45, 45]⟩ by decide +kernel]
    clear h
    go_enter Tryd.func27, Tryd.ntmps27
    go_wp2
    go_ret
    exact ⟨rfl, rfl⟩
  · rw [show fldS 8 = ⟨#[45, 45, 80, 87, 45, 45, 45, 45, 45, 45, 45]⟩ by decide +kernel]
    clear h
    go_enter Tryd.func27, Tryd.ntmps27
    go_wp2
    go_ret
    exact ⟨rfl, rfl⟩
  · rw [show fldS 9 = ⟨#[45, 45, 80, 45, 45, 45, 45, 45, 45, 45, 45]⟩ by decide +kernel]
    clear h
    go_enter Tryd.func27, Tryd.ntmps27
    go_wp2
    go_ret
    exact ⟨rfl, rfl⟩
  · rw [show fldS 10 = ⟨#[45, 45, 45, 45, 45, 45, 45, 45, 84, 45, 45]⟩ by decide +kernel]
    clear h
    go_enter Tryd.func27, Tryd.ntmps27
    go_wp2
    go_ret
    exact ⟨rfl, rfl⟩
  · rw [show fldS 11 = ⟨#[45, 45, 80, 45, 45, 45, 110, 119, 45, 45, 45]⟩ by decide +kernel]
    clear h
    go_enter Tryd.func27, Tryd.ntmps27
    go_wp2
    go_ret
    exact ⟨rfl, rfl⟩
  · rw [show fldS 12 = ⟨#[73, 45, 45, 45, 45, 45, 45, 45, 45, 45, 45]⟩ by decide +kernel]
    clear h
    go_enter Tryd.func27, Tryd.ntmps27
    go_wp2
    go_ret
    exact ⟨rfl, rfl⟩
theorem rfields_no (k : Int) (h : k < 1 ∨ 12 < k) (w : World) : Calls Tryd.prog 27 #[.int .i64 k] w fun e w' => e = .returned (.string ⟨#[]⟩) ∧ w = w' := by
  have h1 : (k == 1) = false := by rw [beq_eq_false_iff_ne]; omega
  have h2 : (k == 2) = false := by rw [beq_eq_false_iff_ne]; omega
  have h3 : (k == 3) = false := by rw [beq_eq_false_iff_ne]; omega
  have h4 : (k == 4) = false := by rw [beq_eq_false_iff_ne]; omega
  have h5 : (k == 5) = false := by rw [beq_eq_false_iff_ne]; omega
  have h6 : (k == 6) = false := by rw [beq_eq_false_iff_ne]; omega
  have h7 : (k == 7) = false := by rw [beq_eq_false_iff_ne]; omega
  have h8 : (k == 8) = false := by rw [beq_eq_false_iff_ne]; omega
  have h9 : (k == 9) = false := by rw [beq_eq_false_iff_ne]; omega
  have h10 : (k == 10) = false := by rw [beq_eq_false_iff_ne]; omega
  have h11 : (k == 11) = false := by rw [beq_eq_false_iff_ne]; omega
  have h12 : (k == 12) = false := by rw [beq_eq_false_iff_ne]; omega
  clear h
  go_enter Tryd.func27, Tryd.ntmps27
  go_wp2
  go_ret
  exact ⟨rfl, rfl⟩
/-- may a number be a field's? -/
def inB (k : Int) (j : Nat) (v : Int) : Bool := decide ((bndF k j).1 ≤ v) && decide (v ≤ (bndF k j).2)
theorem rmay_dash (k v : Int) (w : World) : Calls Tryd.prog 29 #[.int .i64 k, .int .u8 45, .int .i64 v] w fun e w' => e = .returned (.bool true) ∧ w = w' := by
  go_enter Tryd.func29, Tryd.ntmps29
  go_wp2
  go_ret
  exact ⟨rfl, rfl⟩
theorem inB_low {k : Int} {j : Nat} {v lo hi : Int} (h : bndF k j = (lo, hi)) (hv : ¬ lo ≤ v) : inB k j v = false := by unfold inB; rw [h, decide_eq_false hv]; rfl
theorem inB_high {k : Int} {j : Nat} {v lo hi : Int} (h : bndF k j = (lo, hi)) (hl : lo ≤ v) (hv : ¬ v ≤ hi) : inB k j v = false := by unfold inB; rw [h, decide_eq_false hv, Bool.and_false]
theorem inB_yes {k : Int} {j : Nat} {v lo hi : Int} (h : bndF k j = (lo, hi)) (hl : lo ≤ v) (hv : v ≤ hi) : inB k j v = true := by unfold inB; rw [h, decide_eq_true hl, decide_eq_true hv]; rfl
theorem rmay_f1 (k v : Int) (w : World) : Calls Tryd.prog 29 #[.int .i64 k, .int .u8 73, .int .i64 v] w fun e w' => e = .returned (.bool (inB k 1 v)) ∧ w = w' := by
  have hb : bndF k 1 = (1, 1073741824) := rfl
  by_cases h1 : 1 ≤ v
  · have q1 : decide (v ≥ 1) = true := decide_eq_true (by omega)
    by_cases h2 : v ≤ 1073741824
    · have q2 : decide (v ≤ 1073741824) = true := decide_eq_true (by omega)
      rw [inB_yes hb h1 h2]
      clear hb h1 h2
      go_enter Tryd.func29, Tryd.ntmps29
      go_wp2
      go_ret
      exact ⟨rfl, rfl⟩
    · have q2 : decide (v ≤ 1073741824) = false := decide_eq_false (by omega)
      rw [inB_high hb h1 h2]
      clear hb h1 h2
      go_enter Tryd.func29, Tryd.ntmps29
      go_wp2
      go_ret
      exact ⟨rfl, rfl⟩
  · have q1 : decide (v ≥ 1) = false := decide_eq_false (by omega)
    rw [inB_low hb h1]
    clear hb h1
    go_enter Tryd.func29, Tryd.ntmps29
    go_wp2
    go_ret
    exact ⟨rfl, rfl⟩
theorem rmay_f2 (k v : Int) (w : World) : Calls Tryd.prog 29 #[.int .i64 k, .int .u8 85, .int .i64 v] w fun e w' => e = .returned (.bool (inB k 2 v)) ∧ w = w' := by
  have hb : bndF k 2 = (1, 16) := rfl
  by_cases h1 : 1 ≤ v
  · have q1 : decide (v ≥ 1) = true := decide_eq_true (by omega)
    by_cases h2 : v ≤ 16
    · have q2 : decide (v ≤ 16) = true := decide_eq_true (by omega)
      rw [inB_yes hb h1 h2]
      clear hb h1 h2
      go_enter Tryd.func29, Tryd.ntmps29
      go_wp2
      go_ret
      exact ⟨rfl, rfl⟩
    · have q2 : decide (v ≤ 16) = false := decide_eq_false (by omega)
      rw [inB_high hb h1 h2]
      clear hb h1 h2
      go_enter Tryd.func29, Tryd.ntmps29
      go_wp2
      go_ret
      exact ⟨rfl, rfl⟩
  · have q1 : decide (v ≥ 1) = false := decide_eq_false (by omega)
    rw [inB_low hb h1]
    clear hb h1
    go_enter Tryd.func29, Tryd.ntmps29
    go_wp2
    go_ret
    exact ⟨rfl, rfl⟩
theorem rmay_f3 (k v : Int) (w : World) : Calls Tryd.prog 29 #[.int .i64 k, .int .u8 80, .int .i64 v] w fun e w' => e = .returned (.bool (inB k 3 v)) ∧ w = w' := by
  have hb : bndF k 3 = (0, 3) := rfl
  by_cases h1 : 0 ≤ v
  · have q1 : decide (v ≥ 0) = true := decide_eq_true (by omega)
    by_cases h2 : v ≤ 3
    · have q2 : decide (v ≤ 3) = true := decide_eq_true (by omega)
      rw [inB_yes hb h1 h2]
      clear hb h1 h2
      go_enter Tryd.func29, Tryd.ntmps29
      go_wp2
      go_ret
      exact ⟨rfl, rfl⟩
    · have q2 : decide (v ≤ 3) = false := decide_eq_false (by omega)
      rw [inB_high hb h1 h2]
      clear hb h1 h2
      go_enter Tryd.func29, Tryd.ntmps29
      go_wp2
      go_ret
      exact ⟨rfl, rfl⟩
  · have q1 : decide (v ≥ 0) = false := decide_eq_false (by omega)
    rw [inB_low hb h1]
    clear hb h1
    go_enter Tryd.func29, Tryd.ntmps29
    go_wp2
    go_ret
    exact ⟨rfl, rfl⟩
theorem rmay_f4 (k v : Int) (w : World) : Calls Tryd.prog 29 #[.int .i64 k, .int .u8 87, .int .i64 v] w fun e w' => e = .returned (.bool (inB k 4 v)) ∧ w = w' := by
  have hb : bndF k 4 = (1, 64) := rfl
  by_cases h1 : 1 ≤ v
  · have q1 : decide (v ≥ 1) = true := decide_eq_true (by omega)
    by_cases h2 : v ≤ 64
    · have q2 : decide (v ≤ 64) = true := decide_eq_true (by omega)
      rw [inB_yes hb h1 h2]
      clear hb h1 h2
      go_enter Tryd.func29, Tryd.ntmps29
      go_wp2
      go_ret
      exact ⟨rfl, rfl⟩
    · have q2 : decide (v ≤ 64) = false := decide_eq_false (by omega)
      rw [inB_high hb h1 h2]
      clear hb h1 h2
      go_enter Tryd.func29, Tryd.ntmps29
      go_wp2
      go_ret
      exact ⟨rfl, rfl⟩
  · have q1 : decide (v ≥ 1) = false := decide_eq_false (by omega)
    rw [inB_low hb h1]
    clear hb h1
    go_enter Tryd.func29, Tryd.ntmps29
    go_wp2
    go_ret
    exact ⟨rfl, rfl⟩
theorem rmay_f5 (k v : Int) (w : World) : Calls Tryd.prog 29 #[.int .i64 k, .int .u8 78, .int .i64 v] w fun e w' => e = .returned (.bool (inB k 5 v)) ∧ w = w' := by
  have hb : bndF k 5 = (-100, 100) := rfl
  by_cases h1 : (-100) ≤ v
  · have q1 : decide (v ≥ (-100)) = true := decide_eq_true (by omega)
    by_cases h2 : v ≤ 100
    · have q2 : decide (v ≤ 100) = true := decide_eq_true (by omega)
      rw [inB_yes hb h1 h2]
      clear hb h1 h2
      go_enter Tryd.func29, Tryd.ntmps29
      go_wp2
      go_ret
      exact ⟨rfl, rfl⟩
    · have q2 : decide (v ≤ 100) = false := decide_eq_false (by omega)
      rw [inB_high hb h1 h2]
      clear hb h1 h2
      go_enter Tryd.func29, Tryd.ntmps29
      go_wp2
      go_ret
      exact ⟨rfl, rfl⟩
  · have q1 : decide (v ≥ (-100)) = false := decide_eq_false (by omega)
    rw [inB_low hb h1]
    clear hb h1
    go_enter Tryd.func29, Tryd.ntmps29
    go_wp2
    go_ret
    exact ⟨rfl, rfl⟩
theorem rmay_f6 (k v : Int) (w : World) : Calls Tryd.prog 29 #[.int .i64 k, .int .u8 65, .int .i64 v] w fun e w' => e = .returned (.bool (inB k 6 v)) ∧ w = w' := by
  have hb : bndF k 6 = (0, 1073741824) := rfl
  by_cases h1 : 0 ≤ v
  · have q1 : decide (v ≥ 0) = true := decide_eq_true (by omega)
    by_cases h2 : v ≤ 1073741824
    · have q2 : decide (v ≤ 1073741824) = true := decide_eq_true (by omega)
      rw [inB_yes hb h1 h2]
      clear hb h1 h2
      go_enter Tryd.func29, Tryd.ntmps29
      go_wp2
      go_ret
      exact ⟨rfl, rfl⟩
    · have q2 : decide (v ≤ 1073741824) = false := decide_eq_false (by omega)
      rw [inB_high hb h1 h2]
      clear hb h1 h2
      go_enter Tryd.func29, Tryd.ntmps29
      go_wp2
      go_ret
      exact ⟨rfl, rfl⟩
  · have q1 : decide (v ≥ 0) = false := decide_eq_false (by omega)
    rw [inB_low hb h1]
    clear hb h1
    go_enter Tryd.func29, Tryd.ntmps29
    go_wp2
    go_ret
    exact ⟨rfl, rfl⟩
theorem rmay_f7 (k v : Int) (w : World) : Calls Tryd.prog 29 #[.int .i64 k, .int .u8 110, .int .i64 v] w fun e w' => e = .returned (.bool (inB k 7 v)) ∧ w = w' := by
  have hb : bndF k 7 = (0, 63) := rfl
  by_cases h1 : 0 ≤ v
  · have q1 : decide (v ≥ 0) = true := decide_eq_true (by omega)
    by_cases h2 : v ≤ 63
    · have q2 : decide (v ≤ 63) = true := decide_eq_true (by omega)
      rw [inB_yes hb h1 h2]
      clear hb h1 h2
      go_enter Tryd.func29, Tryd.ntmps29
      go_wp2
      go_ret
      exact ⟨rfl, rfl⟩
    · have q2 : decide (v ≤ 63) = false := decide_eq_false (by omega)
      rw [inB_high hb h1 h2]
      clear hb h1 h2
      go_enter Tryd.func29, Tryd.ntmps29
      go_wp2
      go_ret
      exact ⟨rfl, rfl⟩
  · have q1 : decide (v ≥ 0) = false := decide_eq_false (by omega)
    rw [inB_low hb h1]
    clear hb h1
    go_enter Tryd.func29, Tryd.ntmps29
    go_wp2
    go_ret
    exact ⟨rfl, rfl⟩
theorem rmay_f8 (k v : Int) (w : World) : Calls Tryd.prog 29 #[.int .i64 k, .int .u8 119, .int .i64 v] w fun e w' => e = .returned (.bool (inB k 8 v)) ∧ w = w' := by
  have hb : bndF k 8 = (0, 4) := rfl
  by_cases h1 : 0 ≤ v
  · have q1 : decide (v ≥ 0) = true := decide_eq_true (by omega)
    by_cases h2 : v ≤ 4
    · have q2 : decide (v ≤ 4) = true := decide_eq_true (by omega)
      rw [inB_yes hb h1 h2]
      clear hb h1 h2
      go_enter Tryd.func29, Tryd.ntmps29
      go_wp2
      go_ret
      exact ⟨rfl, rfl⟩
    · have q2 : decide (v ≤ 4) = false := decide_eq_false (by omega)
      rw [inB_high hb h1 h2]
      clear hb h1 h2
      go_enter Tryd.func29, Tryd.ntmps29
      go_wp2
      go_ret
      exact ⟨rfl, rfl⟩
  · have q1 : decide (v ≥ 0) = false := decide_eq_false (by omega)
    rw [inB_low hb h1]
    clear hb h1
    go_enter Tryd.func29, Tryd.ntmps29
    go_wp2
    go_ret
    exact ⟨rfl, rfl⟩
theorem rmay_f10 (k v : Int) (w : World) : Calls Tryd.prog 29 #[.int .i64 k, .int .u8 77, .int .i64 v] w fun e w' => e = .returned (.bool (inB k 10 v)) ∧ w = w' := by
  have hb : bndF k 10 = (1, 1099511627775) := rfl
  by_cases h1 : 1 ≤ v
  · have q1 : decide (v ≥ 1) = true := decide_eq_true (by omega)
    by_cases h2 : v ≤ 1099511627775
    · have q2 : decide (v < 1099511627776) = true := decide_eq_true (by omega)
      rw [inB_yes hb h1 h2]
      clear hb h1 h2
      go_enter Tryd.func29, Tryd.ntmps29
      go_wp2
      go_ret
      exact ⟨rfl, rfl⟩
    · have q2 : decide (v < 1099511627776) = false := decide_eq_false (by omega)
      rw [inB_high hb h1 h2]
      clear hb h1 h2
      go_enter Tryd.func29, Tryd.ntmps29
      go_wp2
      go_ret
      exact ⟨rfl, rfl⟩
  · have q1 : decide (v ≥ 1) = false := decide_eq_false (by omega)
    rw [inB_low hb h1]
    clear hb h1
    go_enter Tryd.func29, Tryd.ntmps29
    go_wp2
    go_ret
    exact ⟨rfl, rfl⟩
theorem rmay_t1a (v : Int) (w : World) : Calls Tryd.prog 29 #[.int .i64 1, .int .u8 84, .int .i64 v] w fun e w' => e = .returned (.bool (inB 1 9 v)) ∧ w = w' := by
  have hb : bndF 1 9 = (1, 1048576) := by decide
  by_cases h1 : 1 ≤ v
  · have q1 : decide (v ≥ 1) = true := decide_eq_true (by omega)
    by_cases h2 : v ≤ 1048576
    · have q2 : decide (v ≤ 1048576) = true := decide_eq_true (by omega)
      rw [inB_yes hb h1 h2]
      clear hb h1 h2
      go_enter Tryd.func29, Tryd.ntmps29
      go_wp2
      go_ret
      exact ⟨rfl, rfl⟩
    · have q2 : decide (v ≤ 1048576) = false := decide_eq_false (by omega)
      rw [inB_high hb h1 h2]
      clear hb h1 h2
      go_enter Tryd.func29, Tryd.ntmps29
      go_wp2
      go_ret
      exact ⟨rfl, rfl⟩
  · have q1 : decide (v ≥ 1) = false := decide_eq_false (by omega)
    rw [inB_low hb h1]
    clear hb h1
    go_enter Tryd.func29, Tryd.ntmps29
    go_wp2
    go_ret
    exact ⟨rfl, rfl⟩
theorem rmay_t1b (v : Int) (w : World) : Calls Tryd.prog 29 #[.int .i64 5, .int .u8 84, .int .i64 v] w fun e w' => e = .returned (.bool (inB 5 9 v)) ∧ w = w' := by
  have hb : bndF 5 9 = (1, 1048576) := by decide
  by_cases h1 : 1 ≤ v
  · have q1 : decide (v ≥ 1) = true := decide_eq_true (by omega)
    by_cases h2 : v ≤ 1048576
    · have q2 : decide (v ≤ 1048576) = true := decide_eq_true (by omega)
      rw [inB_yes hb h1 h2]
      clear hb h1 h2
      go_enter Tryd.func29, Tryd.ntmps29
      go_wp2
      go_ret
      exact ⟨rfl, rfl⟩
    · have q2 : decide (v ≤ 1048576) = false := decide_eq_false (by omega)
      rw [inB_high hb h1 h2]
      clear hb h1 h2
      go_enter Tryd.func29, Tryd.ntmps29
      go_wp2
      go_ret
      exact ⟨rfl, rfl⟩
  · have q1 : decide (v ≥ 1) = false := decide_eq_false (by omega)
    rw [inB_low hb h1]
    clear hb h1
    go_enter Tryd.func29, Tryd.ntmps29
    go_wp2
    go_ret
    exact ⟨rfl, rfl⟩
theorem rmay_t1 (k v : Int) (hk : k = 1 ∨ k = 5) (w : World) : Calls Tryd.prog 29 #[.int .i64 k, .int .u8 84, .int .i64 v] w fun e w' => e = .returned (.bool (inB k 9 v)) ∧ w = w' := by
  rcases hk with rfl | rfl
  · exact rmay_t1a v w
  · exact rmay_t1b v w
theorem rmay_t0 (k v : Int) (hk : ¬ (k = 1 ∨ k = 5)) (w : World) : Calls Tryd.prog 29 #[.int .i64 k, .int .u8 84, .int .i64 v] w fun e w' => e = .returned (.bool (inB k 9 v)) ∧ w = w' := by
  have hb : bndF k 9 = (0, 1099511627775) := by unfold bndF; rw [if_pos rfl, if_neg hk]
  have hkq : (k == 1) = false := by rw [beq_eq_false_iff_ne]; exact fun h => hk (.inl h)
  have hkr : (k == 5) = false := by rw [beq_eq_false_iff_ne]; exact fun h => hk (.inr h)
  clear hk
  by_cases h1 : 0 ≤ v
  · have q1 : decide (v ≥ 0) = true := decide_eq_true (by omega)
    by_cases h2 : v ≤ 1099511627775
    · have q2 : decide (v < 1099511627776) = true := decide_eq_true (by omega)
      rw [inB_yes hb h1 h2]
      clear hb h1 h2
      go_enter Tryd.func29, Tryd.ntmps29
      go_wp2
      go_ret
      exact ⟨rfl, rfl⟩
    · have q2 : decide (v < 1099511627776) = false := decide_eq_false (by omega)
      rw [inB_high hb h1 h2]
      clear hb h1 h2
      go_enter Tryd.func29, Tryd.ntmps29
      go_wp2
      go_ret
      exact ⟨rfl, rfl⟩
  · have q1 : decide (v ≥ 0) = false := decide_eq_false (by omega)
    rw [inB_low hb h1]
    clear hb h1
    go_enter Tryd.func29, Tryd.ntmps29
    go_wp2
    go_ret
    exact ⟨rfl, rfl⟩
theorem rmay_h (k v : Int) (w : World) : Calls Tryd.prog 29 #[.int .i64 k, .int .u8 72, .int .i64 v] w fun e w' => e = .returned (.bool (inB k 11 v)) ∧ w = w' := by
  have hb : bndF k 11 = (0, 1) := rfl
  by_cases h0 : v = 0
  · subst h0
    rw [inB_yes hb (by decide) (by decide)]
    go_enter Tryd.func29, Tryd.ntmps29
    go_wp2
    go_ret
    exact ⟨rfl, rfl⟩
  · have q0 : (v == 0) = false := by rw [beq_eq_false_iff_ne]; exact h0
    by_cases h1 : v = 1
    · subst h1
      rw [inB_yes hb (by decide) (by decide)]
      clear h0 q0
      go_enter Tryd.func29, Tryd.ntmps29
      go_wp2
      go_ret
      exact ⟨rfl, rfl⟩
    · have q1 : (v == 1) = false := by rw [beq_eq_false_iff_ne]; exact h1
      have hf : inB k 11 v = false := by
        by_cases h : 0 ≤ v
        · exact inB_high hb h (by omega)
        · exact inB_low hb h
      rw [hf]
      clear hf hb h0 h1
      go_enter Tryd.func29, Tryd.ntmps29
      go_wp2
      go_ret
      exact ⟨rfl, rfl⟩
/-- any field of a kind -/
def mayB (k : Nat) (i : Nat) (v : Int) : Bool := if i + 1 ∈ cntN k then inB (k : Int) (i + 1) v else true
theorem rmay_any (k i : Nat) (hi : i < 11) (v : Int) (w : World) : Calls Tryd.prog 29 #[.int .i64 k, .int .u8 (fldF k i : Int), .int .i64 v] w fun e w' => e = .returned (.bool (mayB k i v)) ∧ w = w' := by
  unfold mayB fldF
  by_cases hc : i + 1 ∈ cntN k
  · rw [if_pos hc, if_pos hc]
    rcases (show i = 0 ∨ i = 1 ∨ i = 2 ∨ i = 3 ∨ i = 4 ∨ i = 5 ∨ i = 6 ∨ i = 7 ∨ i = 8 ∨ i = 9 ∨ i = 10 by omega) with rfl | rfl | rfl | rfl | rfl | rfl | rfl | rfl | rfl | rfl | rfl
    · exact rmay_f1 k v w
    · exact rmay_f2 k v w
    · exact rmay_f3 k v w
    · exact rmay_f4 k v w
    · exact rmay_f5 k v w
    · exact rmay_f6 k v w
    · exact rmay_f7 k v w
    · exact rmay_f8 k v w
    · by_cases hk : (k : Int) = 1 ∨ (k : Int) = 5
      · exact rmay_t1 k v hk w
      · exact rmay_t0 k v hk w
    · exact rmay_f10 k v w
    · exact rmay_h k v w
  · rw [if_neg hc, if_neg hc]
    exact rmay_dash k v w
end Go.Proofs.YtlejicmpefdhpaaDoor
