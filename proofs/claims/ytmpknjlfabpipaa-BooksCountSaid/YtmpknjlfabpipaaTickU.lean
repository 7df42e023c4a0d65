/- Contracts of the functions of layer 1 (tick) on multiples, and of the reference's. No condition but that arguments fit their kinds. -/
import Derived.Test.YtmpknjlfabpipaaTick
namespace Go.Proofs.Ytmpknjlfabpipaa
set_option linter.unusedVariables false
open Go.ChangeShapes Go.WideShapes Go.ChangeAt Go.RowKit

/-- a product of two numbers, bounded by a quotient's test -/
theorem mul_bd {c n q : Int} (hc : 0 < c) (hn : 0 ≤ n) (h : ¬ q / c < n) : 0 ≤ c * n ∧ c * n ≤ q := by
  have h1 : n ≤ q / c := by omega
  have h2 := (Int.le_ediv_iff_mul_le hc).1 h1
  have h3 := Int.mul_nonneg (Int.le_of_lt hc) hn
  rw [Int.mul_comm] at h2
  exact ⟨h3, h2⟩
theorem timesI_bd (a n : Int) : 0 ≤ timesI a n ∧ timesI a n ≤ 1099511627776 := by
  obtain ⟨a0, a1⟩ := clampI_bd a
  unfold timesI
  split
  · omega
  · split
    · omega
    · split
      · omega
      · exact mul_bd (by omega) (by omega) ‹_›
theorem up_in {c s : Int} (hc : 0 ≤ c) (hs : 1 ≤ s) : 0 ≤ (c + s - 1) / s * s ∧ (c + s - 1) / s * s ≤ c + s - 1 := by
  have h1 := Int.ediv_mul_le (c + s - 1) (show s ≠ 0 by omega)
  have h2 : 0 ≤ (c + s - 1) / s := Int.ediv_nonneg (by omega) (by omega)
  exact ⟨Int.mul_nonneg h2 (by omega), h1⟩
/-- the next multiple, by the rest -/
theorem up_rest {c s : Int} (hs : 1 ≤ s) (h : c % s = 0) : (c + s - 1) / s * s = c := by
  have e : (c + s - 1) / s = c / s := by
    have h1 := Int.emod_add_mul_ediv c s
    rw [h, Int.zero_add] at h1
    have h2 : c + s - 1 = (s - 1) + c / s * s := by rw [Int.mul_comm, h1]; omega
    rw [h2, Int.add_mul_ediv_right _ _ (by omega), Int.ediv_eq_zero_of_lt (by omega) (by omega)]
    omega
  have h1 := Int.emod_add_mul_ediv c s
  rw [e, Int.mul_comm]
  omega
theorem up_more {c s : Int} (hs : 1 ≤ s) (h : c % s ≠ 0) : (c + s - 1) / s * s = c - c % s + s := by
  have h1 := Int.emod_add_mul_ediv c s
  have r0 := Int.emod_nonneg c (show s ≠ 0 by omega)
  have r1 := Int.emod_lt_of_pos c (show 0 < s by omega)
  have e : (c + s - 1) / s = c / s + 1 := by
    have h2 : c + s - 1 = (c % s - 1) + (c / s + 1) * s := by rw [Int.add_mul, Int.mul_comm (c / s) s]; omega
    rw [h2, Int.add_mul_ediv_right _ _ (by omega), Int.ediv_eq_zero_of_lt (by omega) (by omega)]
    omega
  rw [e, Int.add_mul, Int.mul_comm (c / s) s]
  omega
end Go.Proofs.Ytmpknjlfabpipaa
