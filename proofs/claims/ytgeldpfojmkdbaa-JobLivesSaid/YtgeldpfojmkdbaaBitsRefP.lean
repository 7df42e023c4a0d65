/- The reference's lists of nodes (layer 7), as sets. Plain facts, no condition. -/
import Derived.Test.YtgeldpfojmkdbaaPickP
namespace Go.Proofs.Ytgeldpfojmkdbaa
set_option linter.unusedVariables false
open Go
/-- the numbers below k for which p holds, rising -/
def upto (p : Nat → Bool) (k : Nat) : List Int := ((List.range k).filter p).map Int.ofNat
theorem upto_zero (p : Nat → Bool) : upto p 0 = [] := rfl
theorem upto_yes {p : Nat → Bool} {k : Nat} (h : p k = true) : upto p (k + 1) = upto p k ++ [(k : Int)] := by
  unfold upto; rw [List.range_succ, List.filter_append]; simp [h]
theorem upto_no {p : Nat → Bool} {k : Nat} (h : p k = false) : upto p (k + 1) = upto p k := by
  unfold upto; rw [List.range_succ, List.filter_append]; simp [h]
theorem upto_length (p : Nat → Bool) (k : Nat) : (upto p k).length ≤ k := by
  unfold upto; rw [List.length_map]; exact Nat.le_trans (List.length_filter_le _ _) (by simp)
theorem mem_upto {p : Nat → Bool} {k : Nat} {n : Int} : n ∈ upto p k ↔ 0 ≤ n ∧ n < k ∧ p n.toNat = true := by
  unfold upto
  simp only [List.mem_map, List.mem_filter, List.mem_range]
  constructor
  · rintro ⟨i, ⟨h1, h2⟩, rfl⟩
    exact ⟨by simp, by simpa using h1, by simpa using h2⟩
  · rintro ⟨h0, h1, h2⟩
    exact ⟨n.toNat, ⟨by omega, h2⟩, by simp; omega⟩
theorem upto_sorted (p : Nat → Bool) : ∀ k, (upto p k).Pairwise (· < ·)
  | 0 => .nil
  | k + 1 => by
    have ih := upto_sorted p k
    cases h : p k with
    | false => rw [upto_no h]; exact ih
    | true =>
      rw [upto_yes h, List.pairwise_append]
      refine ⟨ih, by simp, fun a ha b hb => ?_⟩
      rw [List.mem_singleton] at hb
      have := (mem_upto.1 ha).2.1
      omega
theorem sorted_ext : ∀ (a b : List Int), a.Pairwise (· < ·) → b.Pairwise (· < ·) → (∀ n, n ∈ a ↔ n ∈ b) → a = b
  | [], [], _, _, _ => rfl
  | [], y :: b, _, _, h => by have := (h y).2 (by simp); cases this
  | x :: a, [], _, _, h => by have := (h x).1 (by simp); cases this
  | x :: a, y :: b, ha, hb, h => by
    obtain ⟨ha1, ha2⟩ := List.pairwise_cons.1 ha
    obtain ⟨hb1, hb2⟩ := List.pairwise_cons.1 hb
    have hxy : x = y := by
      have h1 := (h x).1 (by simp)
      have h2 := (h y).2 (by simp)
      rcases List.mem_cons.1 h1 with e | e
      · exact e
      · rcases List.mem_cons.1 h2 with e' | e'
        · exact e'.symm
        · have := hb1 _ e; have := ha1 _ e'; omega
    subst hxy
    rw [sorted_ext a b ha2 hb2 fun n => ?_]
    constructor
    · intro hn
      have := ha1 _ hn
      rcases List.mem_cons.1 ((h n).1 (by simp [hn])) with e | e
      · omega
      · exact e
    · intro hn
      have := hb1 _ hn
      rcases List.mem_cons.1 ((h n).2 (by simp [hn])) with e | e
      · omega
      · exact e
theorem upto_nodes (s : NSet) : upto (fun i => s.getLsbD i) 64 = nodes s := by
  refine sorted_ext _ _ (upto_sorted _ _) (nodes_sorted (card s) s rfl) fun n => ?_
  rw [mem_upto, nodes_mem (card s) s rfl, hasI_iff]
  constructor
  · rintro ⟨h0, _, h2⟩; exact ⟨h0, h2⟩
  · rintro ⟨h0, h2⟩
    refine ⟨h0, ?_, h2⟩
    have := hasI_lt ((hasI_iff s n).2 ⟨h0, h2⟩)
    omega
/-! a list's set -/
theorem addL_get (i : Nat) (hi : i < 64) : ∀ (l : List Int) (c : NSet), (addL c l).getLsbD i = (c.getLsbD i || decide ((i : Int) ∈ l))
  | [], c => by simp [addL]
  | x :: l, c => by
    rw [addL_cons, addL_get i hi l, BitVec.getLsbD_or, oneI_get]
    simp only [hi, decide_true, Bool.true_and, List.mem_cons]
    by_cases h : x = (i : Int)
    · simp [h]
    · have h' : ¬ (i : Int) = x := fun e => h e.symm
      simp [h, h']
theorem addL_has (l : List Int) (n : Int) (h0 : 0 ≤ n) (h1 : n < 64) : hasI (addL 0#64 l) n = decide (n ∈ l) := by
  unfold hasI
  rw [addL_get n.toNat (by omega), BitVec.getLsbD_zero, Bool.false_or]
  have : ((n.toNat : Nat) : Int) = n := by omega
  simp [h0, this]
theorem made_nodes (l : List Int) : upto (fun i => decide ((i : Int) ∈ l)) 64 = nodes (addL 0#64 l) := by
  rw [← upto_nodes]
  unfold upto
  congr 1
  refine List.filter_congr fun i hi => ?_
  have hi' := List.mem_range.1 hi
  rw [addL_get i hi', BitVec.getLsbD_zero, Bool.false_or]
theorem addL_nodes (s : NSet) : addL 0#64 (nodes s) = s := by
  have := ofL_nodes (card s) s rfl
  have key : ∀ (l : List Int) (c : NSet), addL c l = c ||| ofL l := by
    intro l
    induction l with
    | nil => intro c; simp [addL, ofL]
    | cons x l ih => intro c; rw [addL_cons, ih, BitVec.or_assoc]; rfl
  rw [key, this]; simp
/-- nodes that rise are each new -/
theorem rising_new {l : List Int} (hs : l.Pairwise (· < ·)) (hr : ∀ x ∈ l, 0 ≤ x ∧ x < 64) (k : Nat) (hk : k < l.length) : hasI (addL 0#64 (l.take k)) (l.getD k 0) = false := by
  have e : l.getD k 0 = l[k] := by simp [List.getD, List.getElem?_eq_getElem hk]
  rw [e]
  have hb := hr l[k] (List.getElem_mem hk)
  rw [addL_has _ _ hb.1 hb.2, decide_eq_false_iff_not]
  intro hm
  obtain ⟨j, hj, hje⟩ := List.getElem_of_mem hm
  rw [List.length_take] at hj
  rw [List.getElem_take] at hje
  have := List.pairwise_iff_getElem.1 hs j k (by omega) hk (by omega)
  omega
theorem add_or_nat {a b : NSet} (h : a &&& b = 0#64) : a.toNat + b.toNat = (a ||| b).toNat := by
  have h1 := BitVec.add_eq_or_of_and_eq_zero a b h
  have h2 : (a + b).toNat = a.toNat + b.toNat := by
    rw [BitVec.toNat_add_of_and_eq_zero h]
  rw [← h1, h2]
theorem and_oneI_zero {s : NSet} {n : Int} (h : hasI s n = false) : s &&& oneI n = 0#64 := (and_one s n).2 h
end Go.Proofs.Ytgeldpfojmkdbaa
