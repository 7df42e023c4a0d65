/- The walk of SumParts: any three texts. -/
import Derived.Test.YtnmhdodcfbjalaaSumRuns
import Derived.Test.YtnmhdodcfbjalaaAppend
namespace Go.Proofs.Ytnmhdodcfbjalaa
set_option linter.unusedVariables false
open Go.ChangeShapes Go.WideShapes Go.ChangeAt Go.RowKit

theorem takeI_small (A B : Int) (zs : List Int) (hA : 0 ≤ A ∧ A ≤ 65520) (hB : 0 ≤ B ∧ B ≤ 65520) : takeI A B zs = sumAll (A, B) zs := by
  unfold takeI
  split
  · rename_i h; rw [h]; rfl
  · rw [Int.emod_eq_of_lt hA.1 (by omega), Int.emod_eq_of_lt hB.1 (by omega)]
/-- a text behind another one: its sum, told by its own -/
theorem sum_shift (x y : Int) (hx : 0 ≤ x ∧ x ≤ 65520) (hy : 0 ≤ y ∧ y ≤ 65520) (l : List Int) :
    (sumAll (x, y) l).1 = ((sumAll (1, 0) l).1 + x + 65520) % 65521 ∧ (sumAll (x, y) l).2 = ((sumAll (1, 0) l).2 + y + (l.length : Int) * (x + 65520)) % 65521 := by
  have key : ∀ k : Nat, k ≤ l.length → (sumAll (x, y) (l.take k)).1 = ((sumAll (1, 0) (l.take k)).1 + x + 65520) % 65521 ∧ (sumAll (x, y) (l.take k)).2 = ((sumAll (1, 0) (l.take k)).2 + y + (k : Int) * (x + 65520)) % 65521 := by
    intro k
    induction k with
    | zero => intro _; simp [sumAll]; omega
    | succ k ih =>
      intro hk
      obtain ⟨h1, h2⟩ := ih (by omega)
      rw [take_snoc_getD l k (by omega), sumAll_snoc, sumAll_snoc]
      simp only [sumSt]
      rw [h1, h2]
      have e : ((k + 1 : Nat) : Int) * (x + 65520) = (k : Int) * (x + 65520) + (x + 65520) := by
        rw [Int.natCast_add, Int.add_mul]; simp
      rw [e]
      generalize (k : Int) * (x + 65520) = t
      omega
  have := key l.length (Nat.le_refl _)
  rwa [List.take_length] at this
theorem mul_mod (n k : Int) : n % 65521 * k % 65521 = n * k % 65521 := by
  rw [Int.mul_emod, Int.emod_emod_of_dvd n (Int.dvd_refl 65521), ← Int.mul_emod]
/-- Both -/
def bothI (a b n : Int) : Int := valI ((a % 65536 + b % 65536 + 65520) % 65521, (a / 65536 + b / 65536 + (max n 0) % 65521 * (a % 65536 + 65520)) % 65521)
def adler (l : List Int) : Int := valI (sumAll (1, 0) l)
theorem adler_parts (l : List Int) : adler l % 65536 = (sumAll (1, 0) l).1 ∧ adler l / 65536 = (sumAll (1, 0) l).2 ∧ 0 ≤ adler l ∧ adler l ≤ 4294967295 := by
  obtain ⟨⟨p0, p1⟩, q0, q1⟩ := sumAll_bd (1, 0) l (by decide)
  unfold adler valI
  omega
theorem both_adler (a b : List Int) : bothI (adler a) (adler b) b.length = adler (a ++ b) := by
  obtain ⟨a1, a2, _⟩ := adler_parts a
  obtain ⟨b1, b2, _⟩ := adler_parts b
  obtain ⟨hx, hy⟩ := sumAll_bd (1, 0) a (by decide)
  unfold bothI
  rw [a1, a2, b1, b2, Int.max_eq_left (by omega)]
  conv => rhs; unfold adler; rw [sumAll_append]
  obtain ⟨s1, s2⟩ := sum_shift (sumAll (1, 0) a).1 (sumAll (1, 0) a).2 hx hy b
  rw [show sumAll (sumAll (1, 0) a) b = ((sumAll ((sumAll (1, 0) a).1, (sumAll (1, 0) a).2) b).1, (sumAll ((sumAll (1, 0) a).1, (sumAll (1, 0) a).2) b).2) from rfl, s1, s2]
  have m := mul_mod (b.length : Int) ((sumAll (1, 0) a).1 + 65520)
  generalize (b.length : Int) % 65521 * ((sumAll (1, 0) a).1 + 65520) = P at *
  generalize (b.length : Int) * ((sumAll (1, 0) a).1 + 65520) = T at *
  congr 2
  · omega
  · omega
theorem takes3 (a b c : List Int) : valI (takes (1, 0) [a, b, c]) = adler (a ++ b ++ c) := by
  unfold adler
  simp only [takes, List.foldl]
  obtain ⟨h1, h2⟩ := sumAll_bd (1, 0) a (by decide)
  rw [takeI_small 1 0 a (by decide) (by decide), takeI_small _ _ b h1 h2]
  rw [show ((sumAll (1, 0) a).1, (sumAll (1, 0) a).2) = sumAll (1, 0) a from rfl, ← sumAll_append]
  obtain ⟨h3, h4⟩ := sumAll_bd (1, 0) (a ++ b) (by decide)
  rw [takeI_small _ _ c h3 h4]
  rw [show ((sumAll (1, 0) (a ++ b)).1, (sumAll (1, 0) (a ++ b)).2) = sumAll (1, 0) (a ++ b) from rfl, ← sumAll_append]
theorem takes1 (a : List Int) : valI (takes (1, 0) [a]) = adler a := by
  unfold adler
  simp only [takes, List.foldl]
  rw [takeI_small 1 0 a (by decide) (by decide)]

theorem row3 {W : World} {a b c : Value} {x y z : List Int} {t : TypeId} (ha : TxtAt W a x) (hb : TxtAt W b y) (hc : TxtAt W c z) : TxtRow (W.alloc (.cells #[a, b, c] t)) W.heap.size 0 [a, b, c] [x, y, z] := {
  len := rfl
  few := by simp
  cell := fun k hk => by
    have hk' : k = 0 ∨ k = 1 ∨ k = 2 := by simp at hk; omega
    rcases hk' with rfl | rfl | rfl <;> simp [World.cell?_alloc_new]
  txt := fun k hk => by
    have hk' : k = 0 ∨ k = 1 ∨ k = 2 := by simp at hk; omega
    rcases hk' with rfl | rfl | rfl
    · exact ha.below (by repeat (first | exact Below.refl _ _ | assumption | refine below_drewN ?_ _ | refine Below.drew ?_ | refine below_alloc ?_ _ | refine Below.alloc ?_ (by first | omega | (simp; done) | (simp; omega)) _ | refine Below.setCell ?_ (Below.size (by assumption)) _ | refine Below.setCell ?_ (by first | omega | (simp; done) | (simp; omega)) _ | (refine Below.trans ?_ (Below.mono (by assumption) (by first | omega | (simp; done) | (simp; omega)))) | refine below_next ?_ (by assumption)))
    · exact hb.below (by repeat (first | exact Below.refl _ _ | assumption | refine below_drewN ?_ _ | refine Below.drew ?_ | refine below_alloc ?_ _ | refine Below.alloc ?_ (by first | omega | (simp; done) | (simp; omega)) _ | refine Below.setCell ?_ (Below.size (by assumption)) _ | refine Below.setCell ?_ (by first | omega | (simp; done) | (simp; omega)) _ | (refine Below.trans ?_ (Below.mono (by assumption) (by first | omega | (simp; done) | (simp; omega)))) | refine below_next ?_ (by assumption)))
    · exact hc.below (by repeat (first | exact Below.refl _ _ | assumption | refine below_drewN ?_ _ | refine Below.drew ?_ | refine below_alloc ?_ _ | refine Below.alloc ?_ (by first | omega | (simp; done) | (simp; omega)) _ | refine Below.setCell ?_ (Below.size (by assumption)) _ | refine Below.setCell ?_ (by first | omega | (simp; done) | (simp; omega)) _ | (refine Below.trans ?_ (Below.mono (by assumption) (by first | omega | (simp; done) | (simp; omega)))) | refine below_next ?_ (by assumption))) }
end Go.Proofs.Ytnmhdodcfbjalaa
