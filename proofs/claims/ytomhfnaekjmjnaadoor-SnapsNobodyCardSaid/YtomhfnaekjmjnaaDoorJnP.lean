/- Records' frames, plainly: what is laid, what is read of any bytes, and that it is the same. No condition. -/
import Derived.Test.YtomhfnaekjmjnaaDoorCodQ
import Derived.Test.YtomhfnaekjmjnaaDoorSumPlain
import Derived.Test.YtomhfnaekjmjnaaDoorJna
namespace Go.Proofs.YtomhfnaekjmjnaaDoor
set_option linter.unusedVariables false
open Go Go.RowKit

abbrev JRec := Int × List Int
def sumF (xs : List Int) : Int := (sumAll (1, 0) xs).2 * 65536 + (sumAll (1, 0) xs).1
def bodyF (r : JRec) : List Int := putI r.1 ++ r.2
def frameF (r : JRec) : List Int := four (bodyF r).length ++ (four (sumF (bodyF r)) ++ bodyF r)
def firstF (xs : List Int) : Option (JRec × Nat) :=
  if xs.length < 8 then none
  else if num4 xs > 65546 ∨ num4 xs > (xs.length : Int) - 8 then none
  else if sumF ((xs.drop 8).take (num4 xs).toNat) ≠ num4 (xs.drop 4) then none
  else if (scan 0 0 ((xs.drop 8).take (num4 xs).toNat)).2.1 ≠ 0 ∨ (scan 0 0 ((xs.drop 8).take (num4 xs).toNat)).1.length > 65536 then none
  else some (((scan 0 0 ((xs.drop 8).take (num4 xs).toNat)).2.2, (scan 0 0 ((xs.drop 8).take (num4 xs).toNat)).1), 8 + (num4 xs).toNat)
def parseN : Nat → List Int → List JRec × Nat
  | 0, _ => ([], 0)
  | k + 1, xs => match firstF xs with
    | none => ([], 0)
    | some (r, n) => (r :: (parseN k (xs.drop n)).1, n + (parseN k (xs.drop n)).2)
def parseF (xs : List Int) : List JRec × Nat := parseN xs.length xs
def framesF (l : List JRec) : List Int := l.flatMap frameF
/-- a record that may be -/
structure GoodR (r : JRec) : Prop where
  gen : -9223372036854775808 ≤ r.1 ∧ r.1 ≤ 9223372036854775807
  len : r.2.length ≤ 65536
  mem : ∀ x ∈ r.2, 0 ≤ x ∧ x ≤ 255

theorem sumF_bd (xs : List Int) : 0 ≤ sumF xs ∧ sumF xs < 4294967296 := by
  have := sumAll_bd (1, 0) xs (by decide)
  unfold sumF
  omega
theorem num4_four {v : Int} (h : 0 ≤ v ∧ v < 4294967296) (ys : List Int) : num4 (four v ++ ys) = v := by
  unfold num4 four
  simp only [List.cons_append, List.nil_append, List.getD_cons_zero, List.getD_cons_succ]
  omega
theorem four_len (v : Int) : (four v).length = 4 := rfl
theorem four_mem {v : Int} : ∀ x ∈ four v, 0 ≤ x ∧ x ≤ 255 := by
  intro x hx
  simp only [four, List.mem_cons, List.not_mem_nil, or_false] at hx
  omega
theorem frame_len (r : JRec) : (frameF r).length = 8 + (bodyF r).length := by unfold frameF; simp [four_len]; omega
theorem body_len {r : JRec} (h : GoodR r) : (bodyF r).length ≤ 65546 ∧ 1 ≤ (bodyF r).length := by
  have := putI_len h.gen
  have := putI_pos r.1
  have := h.len
  unfold bodyF; simp; omega
theorem body_mem {r : JRec} (h : GoodR r) : ∀ x ∈ bodyF r, 0 ≤ x ∧ x ≤ 255 := by
  intro x hx
  rcases List.mem_append.1 hx with hx | hx
  · exact putI_mem _ x hx
  · exact h.mem x hx
theorem frame_mem {r : JRec} (h : GoodR r) : ∀ x ∈ frameF r, 0 ≤ x ∧ x ≤ 255 := by
  intro x hx
  rcases List.mem_append.1 hx with hx | hx
  · exact four_mem x hx
  · rcases List.mem_append.1 hx with hx | hx
    · exact four_mem x hx
    · exact body_mem h x hx
theorem frames_mem {l : List JRec} (h : ∀ r ∈ l, GoodR r) : ∀ x ∈ framesF l, 0 ≤ x ∧ x ≤ 255 := by
  intro x hx
  obtain ⟨r, hr, hx⟩ := List.mem_flatMap.1 hx
  exact frame_mem (h r hr) x hx
theorem first_frame {r : JRec} (h : GoodR r) (ys : List Int) : firstF (frameF r ++ ys) = some (r, (frameF r).length) := by
  have hb := body_len h
  have hs := sumF_bd (bodyF r)
  have hn : num4 (frameF r ++ ys) = (bodyF r).length := by
    unfold frameF; rw [List.append_assoc]; exact num4_four (by omega) _
  have h4 : (frameF r ++ ys).drop 4 = four (sumF (bodyF r)) ++ (bodyF r ++ ys) := by
    unfold frameF
    rw [List.append_assoc, List.drop_left' (four_len _), List.append_assoc]
  have h8 : (frameF r ++ ys).drop 8 = bodyF r ++ ys := by
    rw [show 8 = 4 + 4 from rfl, ← List.drop_drop, h4, List.drop_left' (four_len _)]
  have hl : (frameF r ++ ys).length = 8 + (bodyF r).length + ys.length := by rw [List.length_append, frame_len]
  have ht : ((frameF r ++ ys).drop 8).take (num4 (frameF r ++ ys)).toNat = bodyF r := by
    rw [h8, hn, Int.toNat_natCast, List.take_left' rfl]
  have hsc : scan 0 0 (bodyF r) = (r.2, 0, r.1) := scan_putI h.gen r.2
  unfold firstF
  rw [if_neg (by omega), if_neg (by rw [hn, hl]; omega), ht, h4, num4_four hs, if_neg (by simp), hsc, if_neg (by have := h.len; simp; omega), hn, frame_len]
  simp
theorem num4_take {xs : List Int} {k : Nat} (h : 4 ≤ k) : num4 (xs.take k) = num4 xs := by
  unfold num4
  have : ∀ j, j < 4 → (xs.take k).getD j 0 = xs.getD j 0 := fun j hj => by
    simp only [List.getD, List.getElem?_take]
    rw [if_pos (by omega)]
  rw [this 0 (by decide), this 1 (by decide), this 2 (by decide), this 3 (by decide)]
theorem first_cut {r : JRec} (h : GoodR r) {k : Nat} (hk : k < (frameF r).length) : firstF ((frameF r).take k) = none := by
  have hb := body_len h
  have hl : ((frameF r).take k).length = k := by rw [List.length_take]; omega
  unfold firstF
  by_cases h8 : k < 8
  · rw [if_pos (by omega)]
  · have hn : num4 ((frameF r).take k) = (bodyF r).length := by
      rw [num4_take (by omega)]
      unfold frameF
      exact num4_four (by omega) _
    rw [frame_len] at hk
    rw [if_neg (by omega), if_pos (by right; omega)]
theorem first_pos {xs : List Int} {r : JRec} {n : Nat} (h : firstF xs = some (r, n)) : 8 ≤ n ∧ n ≤ xs.length := by
  unfold firstF at h
  split at h
  · cases h
  · split at h
    · cases h
    · split at h
      · cases h
      · split at h
        · cases h
        · simp only [Option.some.injEq, Prod.mk.injEq] at h
          omega
theorem parseN_le : ∀ (k : Nat) (xs : List Int), xs.length ≤ k → parseN k xs = parseF xs := by
  intro k
  induction k using Nat.strongRecOn with
  | _ k ih =>
    intro xs hk
    unfold parseF
    cases hf : firstF xs with
    | none =>
      have hz : ∀ j, parseN j xs = ([], 0) := fun j => by
        cases j with
        | zero => rfl
        | succ j => simp only [parseN, hf]
      rw [hz, hz]
    | some p =>
      obtain ⟨r, n⟩ := p
      have hp := first_pos hf
      obtain ⟨j, rfl⟩ : ∃ j, k = j + 1 := ⟨k - 1, by omega⟩
      obtain ⟨i, hi⟩ : ∃ i, xs.length = i + 1 := ⟨xs.length - 1, by omega⟩
      have hd : (xs.drop n).length = xs.length - n := List.length_drop
      rw [hi]
      simp only [parseN, hf]
      rw [ih j (by omega) _ (by omega)]
      by_cases hij : i < j + 1
      · rw [ih i hij _ (by omega)]
      · have : i = j := by omega
        subst this
        rw [ih i (by omega) _ (by omega)]
theorem parse_none {xs : List Int} (h : firstF xs = none) : parseF xs = ([], 0) := by
  unfold parseF
  cases hx : xs.length with
  | zero => rfl
  | succ j => simp only [parseN, h]
theorem parse_some {xs : List Int} {r : JRec} {n : Nat} (h : firstF xs = some (r, n)) : parseF xs = (r :: (parseF (xs.drop n)).1, n + (parseF (xs.drop n)).2) := by
  have hp := first_pos h
  obtain ⟨i, hi⟩ : ∃ i, xs.length = i + 1 := ⟨xs.length - 1, by omega⟩
  have hd : (xs.drop n).length = xs.length - n := List.length_drop
  rw [← parseN_le xs.length xs (Nat.le_refl _), hi]
  simp only [parseN, h]
  rw [parseN_le i _ (by omega)]
theorem parse_le : ∀ (k : Nat) (xs : List Int), xs.length ≤ k → (parseF xs).2 ≤ xs.length := by
  intro k
  induction k with
  | zero => intro xs h; rw [parse_none (by unfold firstF; rw [if_pos (by omega)])]; exact Nat.zero_le _
  | succ k ih =>
    intro xs h
    cases hf : firstF xs with
    | none => rw [parse_none hf]; exact Nat.zero_le _
    | some p =>
      obtain ⟨r, n⟩ := p
      have hp := first_pos hf
      have hd : (xs.drop n).length = xs.length - n := List.length_drop
      rw [parse_some hf]
      have := ih (xs.drop n) (by omega)
      simp only
      omega
theorem parse_frames {l : List JRec} (h : ∀ r ∈ l, GoodR r) (ys : List Int) : parseF (framesF l ++ ys) = (l ++ (parseF ys).1, (framesF l).length + (parseF ys).2) := by
  induction l with
  | nil => simp [framesF]
  | cons r l ih =>
    have hr := h r List.mem_cons_self
    have hi := ih (fun q hq => h q (List.mem_cons_of_mem _ hq))
    have e : framesF (r :: l) ++ ys = frameF r ++ (framesF l ++ ys) := by unfold framesF; rw [List.flatMap_cons, List.append_assoc]
    rw [e, parse_some (first_frame hr _), List.drop_left' rfl, hi]
    simp [framesF, Nat.add_assoc]
theorem parse_nil : parseF [] = ([], 0) := rfl
theorem parse_whole {l : List JRec} (h : ∀ r ∈ l, GoodR r) : parseF (framesF l) = (l, (framesF l).length) := by
  have := parse_frames h []
  rw [parse_nil] at this
  simpa using this
theorem parse_cut {l : List JRec} (h : ∀ r ∈ l, GoodR r) {r : JRec} (hr : GoodR r) {k : Nat} (hk : k < (frameF r).length) : parseF (framesF l ++ (frameF r).take k) = (l, (framesF l).length) := by
  rw [parse_frames h, parse_none (first_cut hr hk)]
  simp
theorem frames_append (l m : List JRec) : framesF (l ++ m) = framesF l ++ framesF m := by unfold framesF; rw [List.flatMap_append]
theorem frames_one (r : JRec) : framesF [r] = frameF r := by unfold framesF; simp
/-- the bytes of records, cut anywhere -/
theorem parse_take {l : List JRec} (h : ∀ r ∈ l, GoodR r) {n j : Nat} (hj : j ≤ l.length) (h1 : (framesF (l.take j)).length ≤ n) (h2 : j < l.length → n < (framesF (l.take (j + 1))).length) :
    parseF ((framesF l).take n) = (l.take j, (framesF (l.take j)).length) := by
  have hg : ∀ r ∈ l.take j, GoodR r := fun r hr => h r (List.mem_of_mem_take hr)
  by_cases hjl : j < l.length
  · have hc : l = l.take j ++ (l[j] :: l.drop (j + 1)) := by rw [← List.drop_eq_getElem_cons hjl, List.take_append_drop]
    have e : framesF l = framesF (l.take j) ++ (frameF l[j] ++ framesF (l.drop (j + 1))) := by
      conv => lhs; rw [hc]
      rw [frames_append]
      unfold framesF
      rw [List.flatMap_cons]
    have h3 := h2 hjl
    have e2 : framesF (l.take (j + 1)) = framesF (l.take j) ++ frameF l[j] := by
      rw [List.take_succ_eq_append_getElem hjl, frames_append, frames_one]
    rw [e2, List.length_append] at h3
    rw [e, List.take_append, List.take_of_length_le h1, List.take_append_of_le_length (by omega)]
    exact parse_cut hg (h _ (List.getElem_mem hjl)) (by omega)
  · have : j = l.length := by omega
    subst this
    rw [List.take_length] at h1 ⊢
    rw [List.take_of_length_le h1]
    exact parse_whole h
end Go.Proofs.YtomhfnaekjmjnaaDoor
