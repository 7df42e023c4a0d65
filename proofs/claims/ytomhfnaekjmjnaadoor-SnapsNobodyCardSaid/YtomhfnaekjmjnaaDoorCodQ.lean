/- What is laid is read as it was; cut by a byte it is not. Plainly. No condition. -/
import Derived.Test.YtomhfnaekjmjnaaDoorCodOne
namespace Go.Proofs.YtomhfnaekjmjnaaDoor
set_option linter.unusedVariables false
open Go Go.RowKit

theorem intF_put {v : Int} (h : -9223372036854775808 ≤ v ∧ v ≤ 9223372036854775807) (ys : List Int) : intF ⟨putI v ++ ys, 0⟩ = (⟨ys, 0⟩, v) := by
  unfold intF
  rw [if_pos rfl]
  simp only [scan_putI h]
theorem smallF_put {n most : Int} (h0 : 0 ≤ n) (h1 : n ≤ most) (h2 : n ≤ 9223372036854775807) (ys : List Int) : smallF ⟨putI n ++ ys, 0⟩ most = (⟨ys, 0⟩, n) := by
  unfold smallF
  rw [intF_put (by omega)]
  rw [if_neg (by simp only; omega)]
theorem textF_put {bs : List Int} (h : bs.length ≤ 65536) (ys : List Int) : textF ⟨putT bs ++ ys, 0⟩ = (⟨ys, 0⟩, bs) := by
  unfold textF putT
  rw [List.append_assoc, smallF_put (by omega) (by omega) (by omega)]
  simp only
  rw [if_neg (by simp; omega)]
  simp
theorem readN_put : ∀ (l : List Int) (j : Nat) (ys : List Int), (∀ x ∈ l, -9223372036854775808 ≤ x ∧ x ≤ 9223372036854775807) → readN (l.length + j) ⟨l.flatMap putI ++ ys, 0⟩ = ((readN j ⟨ys, 0⟩).1, l ++ (readN j ⟨ys, 0⟩).2)
  | [], j, ys, _ => by simp
  | x :: l, j, ys, h => by
    rw [show (x :: l).length + j = (l.length + j) + 1 by simp; omega, readN_succ, if_pos rfl, List.flatMap_cons, List.append_assoc, intF_put (h x List.mem_cons_self)]
    simp only
    rw [readN_put l j ys fun y hy => h y (List.mem_cons_of_mem _ hy)]
    simp
theorem intsF_put {l : List Int} (hl : ∀ x ∈ l, -9223372036854775808 ≤ x ∧ x ≤ 9223372036854775807) {most : Int} (h : (l.length : Int) ≤ most) (h2 : (l.length : Int) ≤ 9223372036854775807) (ys : List Int) : intsF ⟨putL l ++ ys, 0⟩ most = (⟨ys, 0⟩, l) := by
  have h1 := smallF_put (n := (l.length : Int)) (most := most) (by omega) h h2 (l.flatMap putI ++ ys)
  have h3 := readN_put l 0 ys hl
  unfold intsF putL
  rw [List.append_assoc, h1]
  simp only [Int.toNat_natCast]
  rw [Nat.add_zero] at h3
  rw [h3]
  simp [readN]
theorem intF_cut {v : Int} (h : -9223372036854775808 ≤ v ∧ v ≤ 9223372036854775807) {k : Nat} (hk : k < (putI v).length) : intF ⟨(putI v).take k, 0⟩ = (⟨[], 10⟩, 0) := by
  unfold intF
  rw [if_pos rfl]
  have := scan_cut (foldF v) 0 0 k (by decide) (by simpa using fold_lt h) hk
  simp only [show (putI v).take k = (putU (foldF v)).take k from rfl, this]
theorem smallF_cut {v : Int} (h : -9223372036854775808 ≤ v ∧ v ≤ 9223372036854775807) {k : Nat} (hk : k < (putI v).length) (most : Int) : smallF ⟨(putI v).take k, 0⟩ most = (⟨[], 10⟩, 0) := by
  unfold smallF
  rw [intF_cut h hk]
  split <;> rfl
theorem putI_pos (v : Int) : 1 ≤ (putI v).length := putU_len _
theorem intsF_cut {l : List Int} (hl : ∀ x ∈ l, -9223372036854775808 ≤ x ∧ x ≤ 9223372036854775807) {most : Int} (h : (l.length : Int) ≤ most) (h2 : (l.length : Int) ≤ 9223372036854775807) : intsF ⟨(putL l).take ((putL l).length - 1), 0⟩ most = (⟨[], 10⟩, []) := by
  rcases List.eq_nil_or_concat l with rfl | ⟨i, x, rfl⟩
  · have e : putL [] = putI 0 := by unfold putL; simp
    rw [e]
    unfold intsF
    rw [smallF_cut (by decide) (by have := putI_pos 0; omega)]
    rfl
  · rw [List.concat_eq_append] at *
    have hx : -9223372036854775808 ≤ x ∧ x ≤ 9223372036854775807 := hl x (by simp)
    have hi : ∀ y ∈ i, -9223372036854775808 ≤ y ∧ y ≤ 9223372036854775807 := fun y hy => hl y (by simp [hy])
    have hp := putI_pos x
    have e : (putL (i ++ [x])).take ((putL (i ++ [x])).length - 1) = putI ((i ++ [x]).length : Int) ++ (i.flatMap putI ++ (putI x).take ((putI x).length - 1)) := by
      unfold putL
      rw [List.flatMap_append, show [x].flatMap putI = putI x by simp, ← List.append_assoc, ← List.append_assoc]
      generalize putI ((i ++ [x]).length : Int) ++ i.flatMap putI = A
      rw [List.take_append, List.length_append, List.take_of_length_le (by omega), show A.length + (putI x).length - 1 - A.length = (putI x).length - 1 by omega]
    have h1 := smallF_put (n := ((i ++ [x]).length : Int)) (most := most) (by omega) h h2 (i.flatMap putI ++ (putI x).take ((putI x).length - 1))
    have h3 := readN_put i 1 ((putI x).take ((putI x).length - 1)) hi
    have hc : readN 1 ⟨(putI x).take ((putI x).length - 1), 0⟩ = (⟨[], 10⟩, [0]) := by
      rw [readN_succ, if_pos rfl, intF_cut hx (by omega)]
      rfl
    rw [hc] at h3
    unfold intsF
    rw [e, h1]
    simp only [Int.toNat_natCast]
    rw [show (i ++ [x]).length = i.length + 1 by simp, h3]
    simp
theorem str_bytes (s : ByteArray) : strOfNums (bytesOf s) = s := by
  refine bytesOf_inj ?_
  have := bytesOf_in s
  exact bytesOf_str _ (fun k hk => (getD_in this k hk).1) (fun k hk => (getD_in this k hk).2)
theorem putI_mem (v : Int) : ∀ x ∈ putI v, 0 ≤ x ∧ x ≤ 255 := putU_bytes _
theorem strOf_inj {xs ys : List Int} (hx : ∀ x ∈ xs, 0 ≤ x ∧ x ≤ 255) (hy : ∀ x ∈ ys, 0 ≤ x ∧ x ≤ 255) (h : strOfNums xs = strOfNums ys) : xs = ys := by
  have h1 := bytesOf_str xs (fun k hk => (getD_in hx k hk).1) (fun k hk => (getD_in hx k hk).2)
  have h2 := bytesOf_str ys (fun k hk => (getD_in hy k hk).1) (fun k hk => (getD_in hy k hk).2)
  rw [← h1, h, h2]
end Go.Proofs.YtomhfnaekjmjnaaDoor
