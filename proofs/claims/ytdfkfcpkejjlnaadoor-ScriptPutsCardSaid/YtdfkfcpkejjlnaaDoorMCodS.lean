/- What is read is laid so (the same as laws of layer 22, under a name of its own); plainly. No condition. -/
import Derived.Test.YtdfkfcpkejjlnaaDoorMad
namespace Go.Proofs.YtdfkfcpkejjlnaaDoor
set_option linter.unusedVariables false
open Go Go.RowKit
namespace Cs
theorem fold_unfold (m : Nat) : foldF (unfoldF m) = m := by unfold foldF unfoldF; split <;> split <;> omega
theorem scan_back (xs : List Int) : ∀ (i u : Nat) (ys : List Int) (v : Int), (∀ x ∈ xs, 0 ≤ x ∧ x ≤ 255) → scan i u xs = (ys, 0, v) → ∃ m : Nat, xs = putU m ++ ys ∧ v = unfoldF (u + m * 2 ^ (7 * i)) ∧ (0 < i → 0 < m) := by
  induction xs with
  | nil => intro i u ys v _ h; unfold scan at h; simp at h
  | cons x xs ih =>
    intro i u ys v hb h
    have hx := hb x List.mem_cons_self
    have hp : 2 ^ (7 * (i + 1)) = 128 * 2 ^ (7 * i) := by rw [show 7 * (i + 1) = 7 + 7 * i by omega, Nat.pow_add]
    unfold scan at h
    by_cases h9 : i = 9 ∧ 1 < x
    · rw [if_pos h9] at h; simp at h
    · rw [if_neg h9] at h
      by_cases h1 : 128 ≤ x
      · rw [if_pos h1] at h
        obtain ⟨m, hm, hv, h0⟩ := ih (i + 1) _ ys v (fun y hy => hb y (List.mem_cons_of_mem _ hy)) h
        have hm0 := h0 (by omega)
        refine ⟨(x - 128).toNat + 128 * m, ?_, ?_, fun _ => by omega⟩
        · rw [putU_ge (by omega), hm, show ((x - 128).toNat + 128 * m) / 128 = m by omega, show (((x - 128).toNat + 128 * m) % 128 + 128 : Nat) = x.toNat by omega, show ((x.toNat : Nat) : Int) = x by omega]
          rfl
        · rw [hv, hp, Nat.add_mul, show 128 * m * 2 ^ (7 * i) = m * (128 * 2 ^ (7 * i)) by rw [← Nat.mul_assoc, Nat.mul_comm 128 m], Nat.add_assoc]
      · rw [if_neg h1] at h
        by_cases h2 : 0 < i ∧ x = 0
        · rw [if_pos h2] at h; simp at h
        · rw [if_neg h2] at h
          injection h with e1 e2
          injection e2 with _ e3
          subst e1
          refine ⟨x.toNat, ?_, e3.symm, fun hi => by omega⟩
          rw [putU_lt (by omega), show ((x.toNat : Nat) : Int) = x by omega]
          rfl
theorem intF_back {xs ys : List Int} {v : Int} (hb : ∀ x ∈ xs, 0 ≤ x ∧ x ≤ 255) (h : intF ⟨xs, 0⟩ = (⟨ys, 0⟩, v)) : xs = putI v ++ ys := by
  unfold intF at h
  rw [if_pos rfl] at h
  injection h with e1 e2
  injection e1 with e3 e4
  obtain ⟨m, hm, hv, _⟩ := scan_back xs 0 0 ys v hb (by
    rw [← e2, ← e3, ← e4])
  rw [hm]
  unfold putI
  rw [hv]
  simp [fold_unfold]
theorem scan_rest (xs : List Int) : ∀ (i u : Nat), (∀ x ∈ xs, 0 ≤ x ∧ x ≤ 255) → ∀ y ∈ (scan i u xs).1, 0 ≤ y ∧ y ≤ 255 := by
  induction xs with
  | nil => intro i u _ y hy; cases hy
  | cons x xs ih =>
    intro i u h y hy
    have ht : ∀ z ∈ xs, 0 ≤ z ∧ z ≤ 255 := fun z hz => h z (List.mem_cons_of_mem _ hz)
    unfold scan at hy
    split at hy
    · cases hy
    · split at hy
      · exact ih _ _ ht y hy
      · split at hy
        · cases hy
        · exact ht y hy
theorem intF_rest {xs : List Int} (hb : ∀ x ∈ xs, 0 ≤ x ∧ x ≤ 255) : ∀ y ∈ (intF ⟨xs, 0⟩).1.xs, 0 ≤ y ∧ y ≤ 255 := by
  unfold intF
  rw [if_pos rfl]
  exact scan_rest xs 0 0 hb
theorem endF_ok {st : CS} (h : endF st = 0) : st = ⟨[], 0⟩ := by
  unfold endF at h
  obtain ⟨xs, bd⟩ := st
  simp only at h
  split at h
  · omega
  · rename_i hn
    subst h
    simp at hn
    rw [hn]
theorem intF_off {st : CS} (h : st.bad ≠ 0) : intF st = (st, 0) := by unfold intF; rw [if_neg h]
theorem smallF_off {st : CS} (h : st.bad ≠ 0) {most : Int} (hm : 0 ≤ most) : smallF st most = (st, 0) := by
  unfold smallF
  rw [intF_off h]
  rw [if_neg (by simp only; omega)]
theorem smallF_out {n most : Int} (hn : -9223372036854775808 ≤ n ∧ n ≤ 9223372036854775807) (h : ¬ (0 ≤ n ∧ n ≤ most)) (ys : List Int) : smallF ⟨putI n ++ ys, 0⟩ most = (⟨[], 2⟩, 0) := by
  unfold smallF
  rw [intF_put hn]
  rw [if_pos (by simp only; omega)]
  rfl
theorem smallF_back {xs : List Int} {st : CS} {v most : Int} (hb : ∀ x ∈ xs, 0 ≤ x ∧ x ≤ 255) (h : smallF ⟨xs, 0⟩ most = (st, v)) (h0 : st.bad = 0) : xs = putI v ++ st.xs ∧ (∀ x ∈ st.xs, 0 ≤ x ∧ x ≤ 255) := by
  unfold smallF at h
  have hr := intF_rest hb
  rcases hi : intF ⟨xs, 0⟩ with ⟨s1, n⟩
  rw [hi] at h hr
  simp only at h hr
  split at h
  · injection h with e1 e2
    rw [← e1] at h0
    unfold failF at h0
    split at h0
    · simp at h0
    · rename_i hn; exact absurd h0 hn
  · injection h with e1 e2
    subst e1 e2
    obtain ⟨ys, bd⟩ := s1
    simp only at h0
    subst h0
    exact ⟨intF_back hb hi, hr⟩
theorem smallF_bad0 {st : CS} {most : Int} (hm : 0 ≤ most) (h : (smallF st most).1.bad = 0) : st.bad = 0 := by
  refine Classical.byContradiction fun hn => ?_
  rw [smallF_off hn hm] at h
  exact hn h
/-- a state's bytes are bytes -/
def By (st : CS) : Prop := ∀ x ∈ st.xs, 0 ≤ x ∧ x ≤ 255
theorem intF_by {st : CS} (h : By st) : By (intF st).1 := by
  by_cases h0 : st.bad = 0
  · obtain ⟨xs, bd⟩ := st
    simp only at h0
    subst h0
    exact intF_rest h
  · rw [intF_off h0]; exact h
theorem failF_by {st : CS} (h : By st) (e : Int) : By (failF st e) := by
  unfold failF
  split
  · intro x hx; cases hx
  · exact h
theorem smallF_by {st : CS} (h : By st) (most : Int) : By (smallF st most).1 := by
  unfold smallF
  split
  · exact failF_by (intF_by h) 2
  · exact intF_by h
theorem intF_bk {st : CS} {ys : List Int} {v : Int} (hb : By st) (h : intF st = (⟨ys, 0⟩, v)) : st.bad = 0 ∧ st.xs = putI v ++ ys ∧ By ⟨ys, 0⟩ := by
  have hy := intF_by hb
  rw [h] at hy
  by_cases h0 : st.bad = 0
  · obtain ⟨xs, bd⟩ := st
    simp only at h0
    subst h0
    exact ⟨rfl, intF_back hb h, hy⟩
  · rw [intF_off h0] at h
    injection h with e1 e2
    rw [e1] at h0
    exact absurd rfl h0
theorem smallF_bk {st : CS} {ys : List Int} {v most : Int} (hb : By st) (h : smallF st most = (⟨ys, 0⟩, v)) : st.bad = 0 ∧ st.xs = putI v ++ ys ∧ By ⟨ys, 0⟩ := by
  unfold smallF at h
  split at h
  · injection h with e1 e2
    unfold failF at e1
    split at e1
    · injection e1 with _ e4
      exact absurd e4 (by decide)
    · rename_i hn
      rw [e1] at hn
      exact absurd rfl hn
  · exact intF_bk hb h
end Cs
end Go.Proofs.YtdfkfcpkejjlnaaDoor
