/- The walks of TickSums, TickOrders and TickSteps, given that the known times are as they are (one). No condition but that arguments fit their kinds. -/
import Derived.Test.YtbhnjmdlagjfbaaTickU
namespace Go.Proofs.Ytbhnjmdlagjfbaa
set_option linter.unusedVariables false
open Go.ChangeShapes Go.WideShapes Go.ChangeAt Go.RowKit

/-! the plain laws of sums -/
theorem addI_bd (a b : Int) : 0 ≤ addI a b ∧ addI a b ≤ 1099511627776 := clampI_bd _
theorem addI_comm (a b : Int) : addI a b = addI b a := by unfold addI; rw [Int.add_comm]
theorem addI_eq (a b : Int) : addI a b = if 1099511627776 ≤ clampI a + clampI b then 1099511627776 else clampI a + clampI b := by
  have ha := clampI_bd a; have hb := clampI_bd b
  unfold addI
  generalize clampI a = x at *; generalize clampI b = y at *
  unfold clampI; repeat' split
  all_goals omega
theorem addI_assoc (a b c : Int) : addI (addI a b) c = addI a (addI b c) := by
  have ha := clampI_bd a; have hb := clampI_bd b; have hc := clampI_bd c
  rw [addI_eq, addI_eq a (addI b c)]
  rw [show clampI (addI a b) = addI a b from clampI_clampI _, show clampI (addI b c) = addI b c from clampI_clampI _]
  rw [addI_eq a b, addI_eq b c]
  generalize clampI a = x at *; generalize clampI b = y at *; generalize clampI c = z at *
  repeat' split
  all_goals omega
theorem addI_le (a b : Int) : clampI a ≤ addI a b := by
  have ha := clampI_bd a; have hb := clampI_bd b
  rw [addI_eq]; split <;> omega
theorem subI_addI (a b : Int) (h : addI a b < 1099511627776) : subI (addI a b) b = clampI a := by
  have ha := clampI_bd a; have hb := clampI_bd b
  have e : addI a b = clampI a + clampI b := by rw [addI_eq] at *; split at * <;> first | omega | rfl
  unfold subI
  rw [show clampI (addI a b) = addI a b from clampI_clampI _, e]
  rw [if_neg (by omega), if_neg (by omega)]
  rw [show clampI a + clampI b - clampI b = clampI a by omega]
  exact clampI_clampI a
theorem subI_self (a : Int) : subI a a = 0 := by
  unfold subI
  rw [show clampI a - clampI a = 0 by omega]
  repeat' split
  all_goals first | rfl | omega
theorem timesI_one (a : Int) : timesI a 1 = clampI a := by
  have ha := clampI_bd a
  unfold timesI
  by_cases h : clampI a = 0
  · rw [if_neg (by omega), if_pos h, h]
  · have : 1 ≤ 1099511627776 / clampI a := by rw [Int.le_ediv_iff_mul_le (by omega)]; omega
    rw [if_neg (by omega), if_neg h, if_neg (by omega), Int.mul_one]
theorem timesI_two (a : Int) : timesI a 2 = addI a a := by
  have ha := clampI_bd a
  unfold timesI
  rw [addI_eq]
  by_cases h : clampI a = 0
  · rw [if_neg (by omega), if_pos h, h]; rfl
  · rw [if_neg (by omega), if_neg h]
    have e := Int.ediv_lt_iff_lt_mul (a := 1099511627776) (b := 2) (c := clampI a) (by omega)
    repeat' split
    all_goals omega

end Go.Proofs.Ytbhnjmdlagjfbaa
