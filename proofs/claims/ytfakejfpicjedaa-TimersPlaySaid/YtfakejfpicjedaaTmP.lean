/- Alarms as a heap, plainly (layer 17): up, down, push, pop, remove, fix; what they leave. No condition. -/
import Derived.WalkKit
namespace Go.Proofs.Ytfakejfpicjedaa.Tm
set_option linter.unusedVariables false

abbrev AL := Int × Int
def zA : AL := (0, 0)
def ltB (a b : AL) : Bool := decide (a.1 < b.1 ∨ a.1 = b.1 ∧ a.2 < b.2)
theorem lt_iff {a b : AL} : ltB a b = true ↔ a.1 < b.1 ∨ a.1 = b.1 ∧ a.2 < b.2 := by unfold ltB; exact decide_eq_true_iff
theorem lt_not {a b : AL} : ltB a b = false ↔ ¬ (a.1 < b.1 ∨ a.1 = b.1 ∧ a.2 < b.2) := by unfold ltB; exact decide_eq_false_iff_not
theorem lt_irr (a : AL) : ltB a a = false := by rw [lt_not]; omega
theorem lt_asy {a b : AL} (h : ltB a b = true) : ltB b a = false := by rw [lt_iff] at h; rw [lt_not]; omega
theorem le_tr {a b c : AL} (h1 : ltB b a = false) (h2 : ltB c b = false) : ltB c a = false := by rw [lt_not] at *; omega
theorem lt_le {a b c : AL} (h1 : ltB a b = true) (h2 : ltB c b = false) : ltB c a = false := by rw [lt_iff] at h1; rw [lt_not] at *; omega
theorem lt_tr {a b c : AL} (h1 : ltB a b = true) (h2 : ltB b c = true) : ltB a c = true := by rw [lt_iff] at *; omega
theorem lt_anti {a b : AL} (h1 : ltB a b = false) (h2 : ltB b a = false) : a = b := by
  rw [lt_not] at *
  exact Prod.ext (by omega) (by omega)
def gA (A : List AL) (k : Nat) : AL := A.getD k zA
theorem gA_get {A : List AL} {k : Nat} (h : k < A.length) : gA A k = A[k] := by unfold gA; simp [List.getD, h]
theorem gA_mem {A : List AL} {k : Nat} (h : k < A.length) : gA A k ∈ A := by rw [gA_get h]; exact List.getElem_mem h
theorem gA_set {A : List AL} {i : Nat} (x : AL) (hi : i < A.length) (k : Nat) : gA (A.set i x) k = if k = i then x else gA A k := by
  unfold gA
  simp only [List.getD, List.getElem?_set]
  by_cases h : i = k
  · subst h; simp [hi]
  · rw [if_neg h, if_neg (fun e => h e.symm)]
def swapA (A : List AL) (i j : Nat) : List AL := (A.set i (gA A j)).set j (gA A i)
theorem swapA_len (A : List AL) (i j : Nat) : (swapA A i j).length = A.length := by unfold swapA; simp
theorem gA_swap {A : List AL} {i j : Nat} (hi : i < A.length) (hj : j < A.length) (k : Nat) : gA (swapA A i j) k = if k = j then gA A i else if k = i then gA A j else gA A k := by
  unfold swapA
  rw [gA_set _ (by simpa using hj), gA_set _ hi]
theorem swapA_perm {A : List AL} {i j : Nat} (hi : i < A.length) (hj : j < A.length) : (swapA A i j).Perm A := by
  unfold swapA
  rw [gA_get hi, gA_get hj]
  exact List.set_set_perm hi hj
def upF (A : List AL) (j : Nat) : List AL :=
  if 0 < j ∧ ltB (gA A j) (gA A ((j - 1) / 2)) = true then upF (swapA A ((j - 1) / 2) j) ((j - 1) / 2) else A
termination_by j
decreasing_by omega
def kidA (A : List AL) (i n : Nat) : Nat := if 2 * i + 2 < n ∧ ltB (gA A (2 * i + 2)) (gA A (2 * i + 1)) = true then 2 * i + 2 else 2 * i + 1
theorem kidA_in {A : List AL} {i n : Nat} (h : 2 * i + 1 < n) : i < kidA A i n ∧ kidA A i n < n ∧ (kidA A i n - 1) / 2 = i := by
  unfold kidA
  split <;> omega
def downF (A : List AL) (i n : Nat) : List AL × Nat :=
  if h : 2 * i + 1 < n ∧ ltB (gA A (kidA A i n)) (gA A i) = true then downF (swapA A i (kidA A i n)) (kidA A i n) n else (A, i)
termination_by n - i
decreasing_by
  have := kidA_in (A := A) h.1
  omega
/-- a heap up to n -/
def HP (A : List AL) (n : Nat) : Prop := ∀ k, 0 < k → k < n → ltB (gA A k) (gA A ((k - 1) / 2)) = false
theorem upF_len (A : List AL) (j : Nat) : (upF A j).length = A.length := by
  induction j using Nat.strongRecOn generalizing A with
  | _ j ih =>
    unfold upF
    split
    · rename_i h
      rw [ih _ (by omega), swapA_len]
    · rfl
theorem upF_perm (A : List AL) (j : Nat) (hj : j < A.length) : (upF A j).Perm A := by
  induction j using Nat.strongRecOn generalizing A with
  | _ j ih =>
    unfold upF
    split
    · rename_i h
      exact (ih _ (by omega) (swapA A ((j - 1) / 2) j) (by rw [swapA_len]; omega)).trans (swapA_perm (by omega) hj)
    · exact .refl _
theorem upF_past {A : List AL} {j : Nat} (hj : j < A.length) {k : Nat} (hk : j < k) : gA (upF A j) k = gA A k := by
  induction j using Nat.strongRecOn generalizing A with
  | _ j ih =>
    unfold upF
    split
    · rename_i h
      rw [ih _ (by omega) (by rw [swapA_len]; omega) (by omega), gA_swap (by omega) hj, if_neg (by omega), if_neg (by omega)]
    · rfl
theorem upF_heap {n : Nat} (A : List AL) (j : Nat) (hn : n ≤ A.length) (hj : j < n) (h1 : ∀ k, 0 < k → k < n → k ≠ j → ltB (gA A k) (gA A ((k - 1) / 2)) = false)
    (h2 : 0 < j → ∀ k, 0 < k → k < n → (k - 1) / 2 = j → ltB (gA A k) (gA A ((j - 1) / 2)) = false) : HP (upF A j) n := by
  induction j using Nat.strongRecOn generalizing A with
  | _ j ih =>
    unfold upF
    split
    · rename_i h
      obtain ⟨h0, hlt⟩ := h
      obtain ⟨i, hi⟩ : ∃ i, i = (j - 1) / 2 := ⟨_, rfl⟩
      rw [← hi] at hlt h2 ⊢
      have hiL : i < A.length := by omega
      have hjL : j < A.length := by omega
      refine ih i (by omega) (swapA A i j) (by rw [swapA_len]; exact hn) (by omega) (fun k k0 kn kne => ?_) (fun i0 k k0 kn kp => ?_)
      · rw [gA_swap hiL hjL, gA_swap hiL hjL]
        by_cases e1 : k = j
        · subst e1
          rw [if_pos rfl, ← hi, if_neg (by omega), if_pos rfl]
          exact lt_asy hlt
        · rw [if_neg e1, if_neg kne]
          by_cases e2 : (k - 1) / 2 = j
          · rw [if_pos e2]
            exact h2 h0 k k0 kn e2
          · rw [if_neg e2]
            by_cases e3 : (k - 1) / 2 = i
            · rw [if_pos e3]
              have := h1 k k0 kn e1
              rw [e3] at this
              exact lt_le hlt this
            · rw [if_neg e3]
              exact h1 k k0 kn e1
      · rw [gA_swap hiL hjL, gA_swap hiL hjL, if_neg (show ¬ (i - 1) / 2 = j by omega), if_neg (show ¬ (i - 1) / 2 = i by omega)]
        have hip := h1 i i0 (by omega) (by omega)
        by_cases e1 : k = j
        · rw [if_pos e1]; exact hip
        · rw [if_neg e1, if_neg (by omega)]
          have := h1 k k0 kn e1
          rw [kp] at this
          exact le_tr hip this
    · rename_i h
      intro k k0 kn
      by_cases e : k = j
      · subst e
        cases hc : ltB (gA A k) (gA A ((k - 1) / 2)) with
        | false => rfl
        | true => exact absurd ⟨k0, hc⟩ h
      · exact h1 k k0 kn e
theorem downF_len (A : List AL) (i n : Nat) : (downF A i n).1.length = A.length := by
  obtain ⟨m, hm⟩ : ∃ m, m = n - i := ⟨_, rfl⟩
  induction m using Nat.strongRecOn generalizing A i with
  | _ m ih =>
    unfold downF
    split
    · rename_i h
      have hk := kidA_in (A := A) h.1
      rw [ih (n - kidA A i n) (by omega) _ _ rfl, swapA_len]
    · rfl
theorem downF_perm (A : List AL) (i n : Nat) (hn : n ≤ A.length) : (downF A i n).1.Perm A := by
  obtain ⟨m, hm⟩ : ∃ m, m = n - i := ⟨_, rfl⟩
  induction m using Nat.strongRecOn generalizing A i with
  | _ m ih =>
    unfold downF
    split
    · rename_i h
      have hk := kidA_in (A := A) h.1
      exact (ih (n - kidA A i n) (by omega) _ _ (by rw [swapA_len]; exact hn) rfl).trans (swapA_perm (by omega) (by omega))
    · exact .refl _
theorem downF_past (A : List AL) (i n : Nat) (hn : n ≤ A.length) {k : Nat} (hk : n ≤ k) : gA (downF A i n).1 k = gA A k := by
  obtain ⟨m, hm⟩ : ∃ m, m = n - i := ⟨_, rfl⟩
  induction m using Nat.strongRecOn generalizing A i with
  | _ m ih =>
    unfold downF
    split
    · rename_i h
      have hq := kidA_in (A := A) h.1
      rw [ih (n - kidA A i n) (by omega) _ _ (by rw [swapA_len]; exact hn) rfl, gA_swap (by omega) (by omega), if_neg (by omega), if_neg (by omega)]
    · rfl
theorem downF_ge (A : List AL) (i n : Nat) : i ≤ (downF A i n).2 := by
  obtain ⟨m, hm⟩ : ∃ m, m = n - i := ⟨_, rfl⟩
  induction m using Nat.strongRecOn generalizing A i with
  | _ m ih =>
    unfold downF
    split
    · rename_i h
      have hk := kidA_in (A := A) h.1
      have := ih (n - kidA A i n) (by omega) (swapA A i (kidA A i n)) (kidA A i n) rfl
      omega
    · exact Nat.le_refl _
theorem kid_least {A : List AL} {i n : Nat} (h : ltB (gA A (kidA A i n)) (gA A i) = false) {k : Nat} (k0 : 0 < k) (kn : k < n) (kp : (k - 1) / 2 = i) : ltB (gA A k) (gA A i) = false := by
  unfold kidA at h
  split at h
  · rename_i hc
    rcases (show k = 2 * i + 1 ∨ k = 2 * i + 2 by omega) with rfl | rfl
    · exact le_tr h (lt_asy hc.2)
    · exact h
  · rename_i hc
    rcases (show k = 2 * i + 1 ∨ k = 2 * i + 2 by omega) with rfl | rfl
    · exact h
    · cases hq : ltB (gA A (2 * i + 2)) (gA A (2 * i + 1)) with
      | true => exact absurd ⟨kn, hq⟩ hc
      | false => exact le_tr h hq
/-- one step down: what the next place has -/
theorem down_step {A : List AL} {i n : Nat} (hn : n ≤ A.length) (hc : 2 * i + 1 < n) (hl : ltB (gA A (kidA A i n)) (gA A i) = true) (h1 : ∀ k, 0 < k → k < n → (k - 1) / 2 ≠ i → k ≠ i → ltB (gA A k) (gA A ((k - 1) / 2)) = false)
    (h2 : 0 < i → ∀ k, 0 < k → k < n → (k - 1) / 2 = i → ltB (gA A k) (gA A ((i - 1) / 2)) = false) :
    (∀ k, 0 < k → k < n → (k - 1) / 2 ≠ kidA A i n → ltB (gA (swapA A i (kidA A i n)) k) (gA (swapA A i (kidA A i n)) ((k - 1) / 2)) = false) ∧
    (0 < kidA A i n → ∀ k, 0 < k → k < n → (k - 1) / 2 = kidA A i n → ltB (gA (swapA A i (kidA A i n)) k) (gA (swapA A i (kidA A i n)) ((kidA A i n - 1) / 2)) = false) := by
  have hk := kidA_in (A := A) hc
  have hmin : ∀ k, 0 < k → k < n → (k - 1) / 2 = i → ltB (gA A k) (gA A (kidA A i n)) = false := by
    intro k k0 kn kp
    unfold kidA
    split
    · rename_i hq
      rcases (show k = 2 * i + 1 ∨ k = 2 * i + 2 by omega) with rfl | rfl
      · exact lt_asy hq.2
      · exact lt_irr _
    · rename_i hq
      rcases (show k = 2 * i + 1 ∨ k = 2 * i + 2 by omega) with rfl | rfl
      · exact lt_irr _
      · cases hz : ltB (gA A (2 * i + 2)) (gA A (2 * i + 1)) with
        | true => exact absurd ⟨kn, hz⟩ hq
        | false => rfl
  obtain ⟨c, hcc⟩ : ∃ c, c = kidA A i n := ⟨_, rfl⟩
  rw [← hcc] at hk hl hmin ⊢
  have hiL : i < A.length := by omega
  have hcL : c < A.length := by omega
  refine ⟨fun k k0 kn kp => ?_, fun _ k k0 kn kp => ?_⟩
  · rw [gA_swap hiL hcL, gA_swap hiL hcL, if_neg kp]
    by_cases e1 : k = c
    · rw [if_pos e1, e1, hk.2.2, if_pos rfl]
      exact lt_asy hl
    · rw [if_neg e1]
      by_cases e2 : k = i
      · subst e2
        rw [if_pos rfl, if_neg (by omega)]
        exact h2 k0 c (by omega) hk.2.1 hk.2.2
      · rw [if_neg e2]
        by_cases e3 : (k - 1) / 2 = i
        · rw [if_pos e3]
          exact hmin k k0 kn e3
        · rw [if_neg e3]
          exact h1 k k0 kn e3 e2
  · rw [gA_swap hiL hcL, gA_swap hiL hcL, hk.2.2, if_neg (show ¬ k = c by omega), if_neg (show ¬ k = i by omega), if_neg (show ¬ i = c by omega), if_pos rfl]
    have := h1 k k0 kn (by omega) (by omega)
    rw [kp] at this
    exact this
theorem downF_heap {n : Nat} (A : List AL) (i : Nat) (hn : n ≤ A.length) (h1 : ∀ k, 0 < k → k < n → (k - 1) / 2 ≠ i → ltB (gA A k) (gA A ((k - 1) / 2)) = false)
    (h2 : 0 < i → ∀ k, 0 < k → k < n → (k - 1) / 2 = i → ltB (gA A k) (gA A ((i - 1) / 2)) = false) : HP (downF A i n).1 n := by
  obtain ⟨m, hm⟩ : ∃ m, m = n - i := ⟨_, rfl⟩
  induction m using Nat.strongRecOn generalizing A i with
  | _ m ih =>
    unfold downF
    split
    · rename_i h
      have hk := kidA_in (A := A) h.1
      obtain ⟨s1, s2⟩ := down_step hn h.1 h.2 (fun k k0 kn kp _ => h1 k k0 kn kp) h2
      exact ih (n - kidA A i n) (by omega) _ _ (by rw [swapA_len]; exact hn) s1 s2 rfl
    · rename_i h
      intro k k0 kn
      by_cases e : (k - 1) / 2 = i
      · rw [e]
        refine kid_least ?_ k0 kn e
        cases hc : ltB (gA A (kidA A i n)) (gA A i) with
        | false => rfl
        | true => exact absurd ⟨by omega, hc⟩ h
      · exact h1 k k0 kn e
theorem downF_moved {n : Nat} (A : List AL) (i : Nat) (hn : n ≤ A.length) (h1 : ∀ k, 0 < k → k < n → (k - 1) / 2 ≠ i → k ≠ i → ltB (gA A k) (gA A ((k - 1) / 2)) = false)
    (h2 : 0 < i → ∀ k, 0 < k → k < n → (k - 1) / 2 = i → ltB (gA A k) (gA A ((i - 1) / 2)) = false) (hm : i < (downF A i n).2) : HP (downF A i n).1 n := by
  unfold downF at hm ⊢
  split
  · rename_i h
    obtain ⟨s1, s2⟩ := down_step hn h.1 h.2 h1 h2
    exact downF_heap _ _ (by rw [swapA_len]; exact hn) s1 s2
  · rename_i h
    rw [dif_neg h] at hm
    exact absurd hm (Nat.lt_irrefl _)
theorem downF_stay {n : Nat} (A : List AL) (i : Nat) (hm : ¬ i < (downF A i n).2) : (downF A i n).1 = A ∧ ∀ k, 0 < k → k < n → (k - 1) / 2 = i → ltB (gA A k) (gA A i) = false := by
  unfold downF at hm ⊢
  split
  · rename_i h
    rw [dif_pos h] at hm
    have hk := kidA_in (A := A) h.1
    have := downF_ge (swapA A i (kidA A i n)) (kidA A i n) n
    exact absurd (show i < (downF (swapA A i (kidA A i n)) (kidA A i n) n).2 by omega) hm
  · rename_i h
    refine ⟨rfl, fun k k0 kn kp => kid_least ?_ k0 kn kp⟩
    cases hc : ltB (gA A (kidA A i n)) (gA A i) with
    | false => rfl
    | true => exact absurd ⟨by omega, hc⟩ h
/-- down, and up where nothing moved -/
def fixF (A : List AL) (i n : Nat) : List AL := if i < (downF A i n).2 then (downF A i n).1 else upF (downF A i n).1 i
theorem fixF_heap {n : Nat} {A : List AL} {i : Nat} (hn : n ≤ A.length) (hi : i < n) (h1 : ∀ k, 0 < k → k < n → (k - 1) / 2 ≠ i → k ≠ i → ltB (gA A k) (gA A ((k - 1) / 2)) = false)
    (h2 : 0 < i → ∀ k, 0 < k → k < n → (k - 1) / 2 = i → ltB (gA A k) (gA A ((i - 1) / 2)) = false) : HP (fixF A i n) n := by
  unfold fixF
  split
  · rename_i h; exact downF_moved A i hn h1 h2 h
  · rename_i h
    obtain ⟨e, hs⟩ := downF_stay A i h
    rw [e]
    refine upF_heap A i hn hi (fun k k0 kn kne => ?_) h2
    by_cases ep : (k - 1) / 2 = i
    · rw [ep]; exact hs k k0 kn ep
    · exact h1 k k0 kn ep kne
theorem fixF_len (A : List AL) (i n : Nat) : (fixF A i n).length = A.length := by
  unfold fixF
  split
  · exact downF_len _ _ _
  · rw [upF_len, downF_len]
theorem fixF_perm {A : List AL} {i n : Nat} (hn : n ≤ A.length) (hi : i < n) : (fixF A i n).Perm A := by
  unfold fixF
  split
  · exact downF_perm _ _ _ hn
  · exact (upF_perm _ _ (by rw [downF_len]; omega)).trans (downF_perm _ _ _ hn)
theorem fixF_past {A : List AL} {i n : Nat} (hn : n ≤ A.length) (hi : i < n) {k : Nat} (hk : n ≤ k) : gA (fixF A i n) k = gA A k := by
  unfold fixF
  split
  · exact downF_past _ _ _ hn hk
  · rw [upF_past (by rw [downF_len]; omega) (by omega), downF_past _ _ _ hn hk]
/-- the first is the least -/
theorem HP.least {A : List AL} {n : Nat} (h : HP A n) : ∀ k, k < n → ltB (gA A k) (gA A 0) = false := by
  intro k
  induction k using Nat.strongRecOn with
  | _ k ih =>
    intro hk
    rcases Nat.eq_zero_or_pos k with rfl | k0
    · exact lt_irr _
    · exact le_tr (ih ((k - 1) / 2) (by omega) (by omega)) (h k k0 hk)
theorem HP.less {A : List AL} {n m : Nat} (h : HP A n) (hm : m ≤ n) : HP A m := fun k k0 km => h k k0 (by omega)
theorem HP.of_eq {A B : List AL} {n : Nat} (h : HP A n) (e : ∀ k, k < n → gA B k = gA A k) : HP B n := fun k k0 kn => by
  rw [e k kn, e _ (by omega)]
  exact h k k0 kn
/-- one that is set anew -/
theorem set_fix {A : List AL} (h : HP A A.length) {i : Nat} (hi : i < A.length) (x : AL) : HP (fixF (A.set i x) i A.length) A.length := by
  refine fixF_heap (by simp) hi (fun k k0 kn kp kne => ?_) (fun i0 k k0 kn kp => ?_)
  · rw [gA_set x hi, gA_set x hi, if_neg kne, if_neg kp]
    exact h k k0 kn
  · rw [gA_set x hi, gA_set x hi, if_neg (by omega), if_neg (by omega)]
    have a := h k k0 kn
    rw [kp] at a
    exact le_tr (h i i0 hi) a
/-- one more -/
def pushF (A : List AL) (x : AL) : List AL := upF (A ++ [x]) A.length
theorem gA_app {A : List AL} {x : AL} {k : Nat} : gA (A ++ [x]) k = if k = A.length then x else gA A k := by
  unfold gA
  simp only [List.getD]
  by_cases h : k < A.length
  · rw [List.getElem?_append_left h, if_neg (by omega)]
  · by_cases e : k = A.length
    · subst e; simp
    · rw [if_neg e, List.getElem?_eq_none (by simp; omega), List.getElem?_eq_none (by omega)]
theorem pushF_heap {A : List AL} (h : HP A A.length) (x : AL) : HP (pushF A x) (A.length + 1) := by
  unfold pushF
  refine upF_heap (A ++ [x]) A.length (by simp) (by omega) (fun k k0 kn kne => ?_) (fun _ k k0 kn kp => by omega)
  rw [gA_app, gA_app, if_neg kne, if_neg (by omega)]
  exact h k k0 (by omega)
theorem pushF_perm (A : List AL) (x : AL) : (pushF A x).Perm (A ++ [x]) := upF_perm _ _ (by simp)
theorem pushF_len (A : List AL) (x : AL) : (pushF A x).length = A.length + 1 := by unfold pushF; rw [upF_len]; simp
/-- one less: what stands before the last is taken off -/
def remF (A : List AL) (i : Nat) : List AL := if i = A.length - 1 then A else fixF (swapA A i (A.length - 1)) i (A.length - 1)
theorem remF_len (A : List AL) (i : Nat) : (remF A i).length = A.length := by
  unfold remF
  split
  · rfl
  · rw [fixF_len, swapA_len]
theorem remF_last {A : List AL} {i : Nat} (hi : i < A.length) : gA (remF A i) (A.length - 1) = gA A i := by
  unfold remF
  split
  · rename_i h; rw [← h]
  · rename_i h
    rw [fixF_past (by rw [swapA_len]; omega) (by omega) (Nat.le_refl _), gA_swap hi (by omega), if_pos rfl]
theorem remF_perm {A : List AL} {i : Nat} (hi : i < A.length) : (remF A i).Perm A := by
  unfold remF
  split
  · exact .refl _
  · exact (fixF_perm (by rw [swapA_len]; omega) (by omega)).trans (swapA_perm hi (by omega))
theorem remF_heap {A : List AL} (h : HP A A.length) {i : Nat} (hi : i < A.length) : HP (remF A i) (A.length - 1) := by
  unfold remF
  split
  · exact h.less (by omega)
  · rename_i hne
    have hl : A.length - 1 < A.length := by omega
    refine fixF_heap (by rw [swapA_len]; omega) (by omega) (fun k k0 kn kp kne => ?_) (fun i0 k k0 kn kp => ?_)
    · rw [gA_swap hi hl, gA_swap hi hl, if_neg (by omega), if_neg kne, if_neg (by omega), if_neg kp]
      exact h k k0 (by omega)
    · rw [gA_swap hi hl, gA_swap hi hl, if_neg (by omega), if_neg (by omega), if_neg (by omega), if_neg (by omega)]
      have a := h k k0 (by omega)
      rw [kp] at a
      exact le_tr (h i i0 hi) a
/-- the first taken off: by the way of Pop -/
def popF (A : List AL) : List AL := (downF (swapA A 0 (A.length - 1)) 0 (A.length - 1)).1
theorem popF_len (A : List AL) : (popF A).length = A.length := by unfold popF; rw [downF_len, swapA_len]
theorem popF_last {A : List AL} (h0 : 0 < A.length) : gA (popF A) (A.length - 1) = gA A 0 := by
  unfold popF
  rw [downF_past _ _ _ (by rw [swapA_len]; omega) (Nat.le_refl _), gA_swap h0 (by omega), if_pos rfl]
theorem popF_perm {A : List AL} (h0 : 0 < A.length) : (popF A).Perm A := by
  unfold popF
  exact (downF_perm _ _ _ (by rw [swapA_len]; omega)).trans (swapA_perm h0 (by omega))
theorem popF_heap {A : List AL} (h : HP A A.length) (h0 : 0 < A.length) : HP (popF A) (A.length - 1) := by
  unfold popF
  have hl : A.length - 1 < A.length := by omega
  refine downF_heap _ _ (by rw [swapA_len]; omega) (fun k k0 kn kp => ?_) (fun i0 => absurd i0 (Nat.lt_irrefl _))
  rw [gA_swap h0 hl, gA_swap h0 hl, if_neg (by omega), if_neg (by omega), if_neg (by omega), if_neg kp]
  exact h k k0 (by omega)
theorem drop_perm {A : List AL} {k : Nat} (hk : A.length = k + 1) : A.Perm (gA A k :: A.take k) := by
  have e : A = A.take k ++ [gA A k] := by
    have h1 := List.take_append_drop k A
    have h2 : A.drop k = [gA A k] := by
      rw [gA_get (by omega), List.drop_eq_getElem_cons (by omega), List.drop_of_length_le (by omega)]
    rw [h2] at h1
    exact h1.symm
  conv => lhs; rw [e]
  exact List.perm_append_comm
theorem gA_take {A : List AL} {n k : Nat} (h : k < n) : gA (A.take n) k = gA A k := by
  unfold gA
  simp only [List.getD, List.getElem?_take, if_pos h]
end Go.Proofs.Ytfakejfpicjedaa.Tm
