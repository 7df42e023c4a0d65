/- Plain facts on check sums: one byte is another one; two bytes change places. No condition but the bytes' bounds. -/
import Derived.Test.YtnmhdodcfbjalaaSumParts
namespace Go.Proofs.Ytnmhdodcfbjalaa
set_option linter.unusedVariables false
open Go.RowKit

def tot : List Int → Int
  | [] => 0
  | x :: l => x + tot l
def wt : List Int → Int
  | [] => 0
  | x :: l => (l.length + 1) * x + wt l
theorem sumAll_form : ∀ (l : List Int) (A B : Int), sumAll (A % 65521, B % 65521) l = ((A + tot l) % 65521, (B + A * l.length + wt l) % 65521)
  | [], A, B => by simp [sumAll, tot, wt]
  | x :: l, A, B => by
    have h : sumAll (A % 65521, B % 65521) (x :: l) = sumAll ((A + x) % 65521, (B + (A + x)) % 65521) l := by
      show sumAll (sumSt (A % 65521, B % 65521) x) l = _
      congr 1
      unfold sumSt
      refine Prod.ext ?_ ?_
      · simp only; omega
      · simp only; omega
    rw [h, sumAll_form l (A + x) (B + (A + x))]
    refine Prod.ext ?_ ?_
    · simp only [tot]; congr 1; omega
    · simp only [wt, List.length_cons]
      congr 1
      push_cast
      grind
theorem tot_set : ∀ (l : List Int) (k : Nat) (t : Int), k < l.length → tot (l.set k t) = tot l + t - l.getD k 0
  | [], k, t, h => by simp at h
  | x :: l, 0, t, _ => by simp [tot]; omega
  | x :: l, k + 1, t, h => by
    have := tot_set l k t (by simpa using h)
    simp only [List.set_cons_succ, tot, this, List.getD_cons_succ]
    omega
theorem wt_set : ∀ (l : List Int) (k : Nat) (t : Int), k < l.length → wt (l.set k t) = wt l + ((l.length : Int) - k) * (t - l.getD k 0)
  | [], k, t, h => by simp at h
  | x :: l, 0, t, _ => by
    simp only [List.set_cons_zero, wt, List.getD_cons_zero, List.length_cons]
    push_cast
    grind
  | x :: l, k + 1, t, h => by
    have := wt_set l k t (by simpa using h)
    simp only [List.set_cons_succ, wt, this, List.getD_cons_succ, List.length_cons, List.length_set]
    push_cast
    grind
theorem adler_form (l : List Int) : adler l % 65536 = (1 + tot l) % 65521 ∧ adler l / 65536 = (l.length + wt l) % 65521 := by
  obtain ⟨h1, h2, _, _⟩ := adler_parts l
  have := sumAll_form l 1 0
  rw [show ((1 : Int) % 65521, (0 : Int) % 65521) = (1, 0) by decide] at this
  rw [h1, h2, this]
  refine ⟨rfl, ?_⟩
  simp only
  congr 1
  omega
theorem set_same (l : List Int) (k : Nat) (h : k < l.length) : l.set k (l.getD k 0) = l := by
  apply List.ext_getElem?
  intro i
  by_cases hi : k = i
  · subst hi
    simp [List.getD, h]
  · rw [List.getElem?_set_ne hi]
/-- one byte is another one -/
theorem adler_set (l : List Int) (k : Nat) (t : Int) (hk : k < l.length) (h0 : 0 ≤ l.getD k 0) (h1 : l.getD k 0 ≤ 255) (t0 : 0 ≤ t) (t1 : t ≤ 255) : (adler (l.set k t) = adler l) ↔ l.getD k 0 = t := by
  constructor
  · intro h
    have a := (adler_form (l.set k t)).1
    have b := (adler_form l).1
    rw [h, tot_set l k t hk] at a
    omega
  · intro h
    rw [← h, set_same l k hk]
theorem cop : ∀ b : Nat, b < 256 → 0 < b → Nat.gcd 65521 b = 1 := by decide +kernel
theorem no_div (a b : Nat) (ha : 0 < a) (ha1 : a ≤ 3000) (hb : 0 < b) (hb1 : b ≤ 255) : ¬ 65521 ∣ a * b := fun h => by
  have := Nat.Coprime.dvd_of_dvd_mul_right (cop b (by omega) hb) h
  have := Nat.le_of_dvd ha this
  omega
theorem no_div_int (a x : Int) (ha : 0 < a) (ha1 : a ≤ 3000) (hx : x ≠ 0) (hx0 : -255 ≤ x) (hx1 : x ≤ 255) : (a * x) % 65521 ≠ 0 := fun h => by
  have hd : (65521 : Int) ∣ a * x := Int.dvd_of_emod_eq_zero h
  have h2 : (65521 : Nat) ∣ (a * x).natAbs := by
    have := Int.natAbs_dvd_natAbs.2 hd
    simpa using this
  rw [Int.natAbs_mul] at h2
  exact no_div a.natAbs x.natAbs (by omega) (by omega) (by omega) (by omega) h2
/-- two bytes change places -/
theorem adler_swap (l : List Int) (k n : Nat) (hk : k < l.length) (hn : n < l.length) (hlen : l.length ≤ 3000) (hb : ∀ i, i < l.length → 0 ≤ l.getD i 0 ∧ l.getD i 0 ≤ 255) (hkn : n = k + 1 ∨ (n = 0 ∧ k = l.length - 1)) :
    (adler ((l.set k (l.getD n 0)).set n (l.getD k 0)) = adler l) ↔ l.getD k 0 = l.getD n 0 := by
  have b1 := hb k hk
  have b2 := hb n hn
  constructor
  · intro h
    refine Classical.byContradiction fun hne => ?_
    have hkn' : k ≠ n := fun e => hne (by rw [e])
    have a := (adler_form ((l.set k (l.getD n 0)).set n (l.getD k 0))).2
    have b := (adler_form l).2
    have hg : (l.set k (l.getD n 0)).getD n 0 = l.getD n 0 := by simp [List.getD, List.getElem?_set_ne hkn']
    rw [h, wt_set _ n _ (by simpa using hn), wt_set l k _ hk, hg, List.length_set, List.length_set] at a
    generalize l.getD k 0 = x at *
    generalize l.getD n 0 = y at *
    generalize (l.length : Int) = L at *
    have e : ((L : Int) - k) * (y - x) + (L - n) * (x - y) = ((n : Int) - k) * (y - x) := by grind
    have e2 : (L + (wt l + (L - k) * (y - x) + (L - n) * (x - y))) = (L + wt l) + ((n : Int) - k) * (y - x) := by grind
    rw [e2] at a
    rcases hkn with h1 | ⟨h1, h2⟩
    · rw [show ((n : Int) - k) = 1 by omega, Int.one_mul] at a
      omega
    · have hL : (n : Int) - k = -(k : Int) := by omega
      rw [hL] at a
      have hk0 : 0 < (k : Int) := by omega
      have := no_div_int (k : Int) (y - x) hk0 (by omega) (by omega) (by omega) (by omega)
      rw [show -(k : Int) * (y - x) = -((k : Int) * (y - x)) by grind] at a
      generalize (k : Int) * (y - x) = z at *
      omega
  · intro h
    rw [h]
    have e : l.set k (l.getD n 0) = l := by rw [← h]; exact set_same l k hk
    rw [e, set_same l n hn]
end Go.Proofs.Ytnmhdodcfbjalaa
