/- The reference's text (layer 7), word by word. Plain facts, no condition. -/
import Derived.Test.YtkllhnfnkgkelaaDoorBitsRefP
namespace Go.Proofs.YtkllhnfnkgkelaaDoor
set_option linter.unusedVariables false
open Go
theorem dec2_ne (n : Nat) : dec2 n ≠ [] := by unfold dec2; split <;> simp
theorem join_snoc (ws : List (List UInt8)) (t : List UInt8) : Lib.join (ws ++ [t]) [44] = if ws = [] then t else Lib.join ws [44] ++ 44 :: t := by
  cases ws with
  | nil => rw [if_pos rfl, List.nil_append, Lib.join_one]
  | cons x r =>
    rw [if_neg (by simp), List.cons_append, Lib.join_cons, Lib.join_cons]
    unfold Lib.joinTail
    simp
/-- words that may stand in a text -/
def Words (ws : List (List UInt8)) : Prop := ∀ t ∈ ws, t.length ≤ 5 ∧ t ≠ []
theorem join_len2 {ws : List (List UInt8)} (h : Words ws) : (Lib.join ws [44]).length ≤ 6 * ws.length := by
  by_cases hw : ws = []
  · subst hw; simp [Lib.join_nil]
  · have h1 := congrArg List.length (join_flat ws hw)
    have h2 := flat_len ws (fun t ht => (h t ht).1)
    rw [List.length_append] at h1
    omega
theorem join_empty {ws : List (List UInt8)} (h : Words ws) : Lib.join ws [44] = [] ↔ ws = [] := by
  constructor
  · intro e
    cases ws with
    | nil => rfl
    | cons x r =>
      rw [Lib.join_cons] at e
      exact absurd (List.append_eq_nil_iff.1 e).1 (h x (by simp)).2
  · rintro rfl; exact Lib.join_nil _
theorem drop_at {l : List Int} {k : Nat} (hk : k < l.length) : l.drop k = l.getD k 0 :: l.drop (k + 1) := by
  rw [List.drop_eq_getElem_cons hk]
  simp [List.getD, List.getElem?_eq_getElem hk]
theorem toks_open (x : Int) (t : List Int) : toks none (x :: t) = toks (some x) (x :: t) := by rw [toks, toks]; rfl
theorem tok_run (l : List Int) (i : Nat) : ∀ k, i ≤ k → k < l.length → (∀ j, i ≤ j → j < k → l.getD (j + 1) 0 = l.getD j 0 + 1) → toks none (l.drop i) = toks (some (l.getD i 0)) (l.drop k) := by
  intro k
  induction k with
  | zero =>
    intro hik hk _
    obtain rfl : i = 0 := by omega
    rw [drop_at hk, toks_open]
  | succ k ih =>
    intro hik hk hrun
    by_cases he : i = k + 1
    · subst he; rw [drop_at hk, toks_open]
    · rw [ih (by omega) (by omega) (fun j h1 h2 => hrun j h1 (by omega)), drop_at (show k < l.length by omega), toks, drop_at hk, List.head?_cons, hrun k (by omega) (by omega), if_pos rfl]
      rfl
theorem tok_end (l : List Int) (f : Int) (k : Nat) (hk : k < l.length) (hend : k + 1 = l.length ∨ l.getD (k + 1) 0 ≠ l.getD k 0 + 1) : toks (some f) (l.drop k) = rowT f (l.getD k 0) ++ toks none (l.drop (k + 1)) := by
  rw [drop_at hk, toks]
  rw [if_neg]
  · rfl
  · intro h
    rcases hend with e | e
    · rw [List.drop_of_length_le (by omega)] at h; cases h
    · by_cases hk1 : k + 1 < l.length
      · rw [drop_at hk1, List.head?_cons] at h
        exact e (Option.some.inj h)
      · rw [List.drop_of_length_le (by omega)] at h; cases h
theorem run_val (l : List Int) (i : Nat) : ∀ k, i ≤ k → (∀ j, i ≤ j → j < k → l.getD (j + 1) 0 = l.getD j 0 + 1) → l.getD k 0 = l.getD i 0 + ((k : Int) - i) := by
  intro k
  induction k with
  | zero => intro hik _; obtain rfl : i = 0 := by omega
            simp
  | succ k ih =>
    intro hik hrun
    by_cases he : i = k + 1
    · subst he; omega
    · have h1 := ih (by omega) (fun j h1 h2 => hrun j h1 (by omega))
      have h2 := hrun k (by omega) (by omega)
      omega
theorem tok_long {l : List Int} {i k : Nat} (hik : i + 2 ≤ k) (hk : k < l.length) (hrun : ∀ j, i ≤ j → j < k → l.getD (j + 1) 0 = l.getD j 0 + 1) (hend : k + 1 = l.length ∨ l.getD (k + 1) 0 ≠ l.getD k 0 + 1) :
    toks none (l.drop i) = [dec2 (l.getD i 0).toNat ++ 45 :: dec2 (l.getD k 0).toNat] ++ toks none (l.drop (k + 1)) := by
  have hv := run_val l i k (by omega) hrun
  rw [tok_run l i k (by omega) hk hrun, tok_end l _ k hk hend]
  unfold rowT
  rw [if_neg (by omega), if_neg (by omega)]
theorem tok_short {l : List Int} {i k : Nat} (hik : i ≤ k) (hk2 : k < i + 2) (hk : k < l.length) (hrun : ∀ j, i ≤ j → j < k → l.getD (j + 1) 0 = l.getD j 0 + 1) (hend : k + 1 = l.length ∨ l.getD (k + 1) 0 ≠ l.getD k 0 + 1) :
    toks none (l.drop i) = [dec2 (l.getD i 0).toNat] ++ toks none (l.drop (i + 1)) := by
  have hv := run_val l i k (by omega) hrun
  rw [tok_run l i k (by omega) hk hrun, tok_end l _ k hk hend]
  by_cases he : k = i
  · subst he
    unfold rowT
    rw [if_pos (by omega)]
  · obtain rfl : k = i + 1 := by omega
    rw [drop_at hk, toks_open, ← drop_at hk, tok_end l _ (i + 1) hk hend]
    unfold rowT
    rw [if_neg (by omega), if_pos (by omega), if_pos (by omega)]
    rfl
theorem word_one (n : Nat) : (dec2 n).length ≤ 5 ∧ dec2 n ≠ [] := ⟨by have := dec2_len n; omega, dec2_ne n⟩
theorem word_two (n m : Nat) : (dec2 n ++ 45 :: dec2 m).length ≤ 5 ∧ dec2 n ++ 45 :: dec2 m ≠ [] :=
  ⟨by have := dec2_len n; have := dec2_len m; rw [List.length_append, List.length_cons]; omega, by simp⟩
theorem Words.snoc {ws : List (List UInt8)} (h : Words ws) {t : List UInt8} (ht : t.length ≤ 5 ∧ t ≠ []) : Words (ws ++ [t]) := fun x hx => by
  rcases List.mem_append.1 hx with hx | hx
  · exact h x hx
  · rw [List.mem_singleton] at hx; rw [hx]; exact ht
end Go.Proofs.YtkllhnfnkgkelaaDoor
