/- Laws that belong together: Contracts of the functions of layer 1 (tick) on integers, and of the reference's. No condition but that arguments fit their kinds.; Contracts of the functions of layer 1 (tick) on multiples, and of the reference's. No condition but that arguments fit their kinds.; The walks of TickSums, TickOrders and TickSteps, given that the known times are as they are (one). No condition but that arguments fit their kinds. -/
import Derived.Test.YtbhnjmdlagjfbaaRows
import Derived.WalkKit
import Derived.ProofKit
import Derived.OpenShut
import Derived.Below
import Derived.Outline
import Derived.WalkLawsBesides
namespace Go.Proofs.Ytbhnjmdlagjfbaa
set_option linter.unusedVariables false
open Go.ChangeShapes Go.WideShapes Go.ChangeAt Go.RowKit

theorem ret_int {k : IntKind} {a b : Int} (h : a = b) : Ending.returned (.int k a) = .returned (.int k b) := by rw [h]
theorem ret_bool {a b : Bool} (h : a = b) : Ending.returned (.bool a) = .returned (.bool b) := by rw [h]

/-- the nearest time -/
def clampI (n : Int) : Int := if n < 0 then 0 else if 1099511627776 < n then 1099511627776 else n
def addI (a b : Int) : Int := clampI (clampI a + clampI b)
def subI (a b : Int) : Int := if clampI b = 1099511627776 then 0 else if clampI a = 1099511627776 then 1099511627776 else clampI (clampI a - clampI b)
def timesI (a n : Int) : Int := if n < 1 then 0 else if clampI a = 0 then 0 else if 1099511627776 / clampI a < n then 1099511627776 else clampI a * n
def upI (a s : Int) : Int := if clampI s < 1 then clampI a else if clampI a = 1099511627776 then clampI a else clampI ((clampI a + clampI s - 1) / clampI s * clampI s)

theorem clampI_bd (n : Int) : 0 ≤ clampI n ∧ clampI n ≤ 1099511627776 := by unfold clampI; split <;> (try split) <;> omega
theorem clampI_id {n : Int} (h0 : 0 ≤ n) (h1 : n ≤ 1099511627776) : clampI n = n := by unfold clampI; split <;> (try split) <;> omega
theorem clampI_nonpos {n : Int} (h : n ≤ 0) : clampI n = 0 := by unfold clampI; split <;> (try split) <;> omega
theorem clampI_clampI (n : Int) : clampI (clampI n) = clampI n := clampI_id (clampI_bd n).1 (clampI_bd n).2

theorem clamp_any (n : Int) (w : World) :
    Calls Try.prog 105 #[.int .i64 n] w fun e w' => e = .returned (.int .i64 (clampI n)) ∧ w = w' := by
  go_enter Try.func105, Try.ntmps105
  go_wp2
  all_goals go_ret
  all_goals exact ⟨ret_int (by unfold clampI; split <;> (try split) <;> (try split at *) <;> omega), rfl⟩
theorem rclamp_any (n : Int) (w : World) :
    Calls Try.prog 124 #[.int .i64 n] w fun e w' => e = .returned (.int .i64 (clampI n)) ∧ w = w' := by
  go_enter Try.func124, Try.ntmps124
  go_wp2
  all_goals go_ret
  all_goals exact ⟨ret_int (by unfold clampI; split <;> (try split) <;> (try split at *) <;> omega), rfl⟩

theorem add_any (a b : Int) (w : World) :
    Calls Try.prog 46 #[.int .i64 a, .int .i64 b] w fun e w' => e = .returned (.int .i64 (addI a b)) ∧ w = w' := by
  obtain ⟨a0, a1⟩ := clampI_bd a
  obtain ⟨b0, b1⟩ := clampI_bd b
  go_enter Try.func46, Try.ntmps46
  go_wp2_with (go_at_call 105; refine (clamp_any _ _).mono ?_; rintro e w' ⟨rfl, rfl⟩)
  go_ret
  exact ⟨rfl, rfl⟩
theorem radd_any (a b : Int) (w : World) :
    Calls Try.prog 162 #[.int .i64 a, .int .i64 b] w fun e w' => e = .returned (.int .i64 (addI a b)) ∧ w = w' := by
  obtain ⟨a0, a1⟩ := clampI_bd a
  obtain ⟨b0, b1⟩ := clampI_bd b
  go_enter Try.func162, Try.ntmps162
  go_wp2_with (go_at_call 124; refine (rclamp_any _ _).mono ?_; rintro e w' ⟨rfl, rfl⟩)
  go_ret
  exact ⟨rfl, rfl⟩
end Go.Proofs.Ytbhnjmdlagjfbaa
namespace Go.Proofs.Ytbhnjmdlagjfbaa
set_option linter.unusedVariables false
open Go.ChangeShapes Go.WideShapes Go.ChangeAt Go.RowKit

/-- a product of two numbers, bounded by a quotient's test -/
theorem mul_bd {c n q : Int} (hc : 0 < c) (hn : 0 ≤ n) (h : ¬ q / c < n) : 0 ≤ c * n ∧ c * n ≤ q := by
  have h1 : n ≤ q / c := by omega
  have h2 := (Int.le_ediv_iff_mul_le hc).1 h1
  have h3 := Int.mul_nonneg (Int.le_of_lt hc) hn
  rw [Int.mul_comm] at h2
  exact ⟨h3, h2⟩
theorem timesI_bd (a n : Int) : 0 ≤ timesI a n ∧ timesI a n ≤ 1099511627776 := by
  obtain ⟨a0, a1⟩ := clampI_bd a
  unfold timesI
  split
  · omega
  · split
    · omega
    · split
      · omega
      · exact mul_bd (by omega) (by omega) ‹_›
theorem up_in {c s : Int} (hc : 0 ≤ c) (hs : 1 ≤ s) : 0 ≤ (c + s - 1) / s * s ∧ (c + s - 1) / s * s ≤ c + s - 1 := by
  have h1 := Int.ediv_mul_le (c + s - 1) (show s ≠ 0 by omega)
  have h2 : 0 ≤ (c + s - 1) / s := Int.ediv_nonneg (by omega) (by omega)
  exact ⟨Int.mul_nonneg h2 (by omega), h1⟩
/-- the next multiple, by the rest -/
theorem up_rest {c s : Int} (hs : 1 ≤ s) (h : c % s = 0) : (c + s - 1) / s * s = c := by
  have e : (c + s - 1) / s = c / s := by
    have h1 := Int.emod_add_mul_ediv c s
    rw [h, Int.zero_add] at h1
    have h2 : c + s - 1 = (s - 1) + c / s * s := by rw [Int.mul_comm, h1]; omega
    rw [h2, Int.add_mul_ediv_right _ _ (by omega), Int.ediv_eq_zero_of_lt (by omega) (by omega)]
    omega
  have h1 := Int.emod_add_mul_ediv c s
  rw [e, Int.mul_comm]
  omega
theorem up_more {c s : Int} (hs : 1 ≤ s) (h : c % s ≠ 0) : (c + s - 1) / s * s = c - c % s + s := by
  have h1 := Int.emod_add_mul_ediv c s
  have r0 := Int.emod_nonneg c (show s ≠ 0 by omega)
  have r1 := Int.emod_lt_of_pos c (show 0 < s by omega)
  have e : (c + s - 1) / s = c / s + 1 := by
    have h2 : c + s - 1 = (c % s - 1) + (c / s + 1) * s := by rw [Int.add_mul, Int.mul_comm (c / s) s]; omega
    rw [h2, Int.add_mul_ediv_right _ _ (by omega), Int.ediv_eq_zero_of_lt (by omega) (by omega)]
    omega
  rw [e, Int.add_mul, Int.mul_comm (c / s) s]
  omega
end Go.Proofs.Ytbhnjmdlagjfbaa
namespace Go.Proofs.Ytbhnjmdlagjfbaa
set_option linter.unusedVariables false
open Go.ChangeShapes Go.WideShapes Go.ChangeAt Go.RowKit

/-! the plain laws of sums -/
theorem addI_bd (a b : Int) : 0 ≤ addI a b ∧ addI a b ≤ 1099511627776 := clampI_bd _
theorem addI_comm (a b : Int) : addI a b = addI b a := by unfold addI; rw [Int.add_comm]
theorem addI_eq (a b : Int) : addI a b = if 1099511627776 ≤ clampI a + clampI b then 1099511627776 else clampI a + clampI b := by
  have ha := clampI_bd a; have hb := clampI_bd b
  unfold addI
  generalize clampI a = x at *; generalize clampI b = y at *
  unfold clampI; repeat' split
  all_goals omega
theorem addI_assoc (a b c : Int) : addI (addI a b) c = addI a (addI b c) := by
  have ha := clampI_bd a; have hb := clampI_bd b; have hc := clampI_bd c
  rw [addI_eq, addI_eq a (addI b c)]
  rw [show clampI (addI a b) = addI a b from clampI_clampI _, show clampI (addI b c) = addI b c from clampI_clampI _]
  rw [addI_eq a b, addI_eq b c]
  generalize clampI a = x at *; generalize clampI b = y at *; generalize clampI c = z at *
  repeat' split
  all_goals omega
theorem addI_le (a b : Int) : clampI a ≤ addI a b := by
  have ha := clampI_bd a; have hb := clampI_bd b
  rw [addI_eq]; split <;> omega
theorem subI_addI (a b : Int) (h : addI a b < 1099511627776) : subI (addI a b) b = clampI a := by
  have ha := clampI_bd a; have hb := clampI_bd b
  have e : addI a b = clampI a + clampI b := by rw [addI_eq] at *; split at * <;> first | omega | rfl
  unfold subI
  rw [show clampI (addI a b) = addI a b from clampI_clampI _, e]
  rw [if_neg (by omega), if_neg (by omega)]
  rw [show clampI a + clampI b - clampI b = clampI a by omega]
  exact clampI_clampI a
theorem subI_self (a : Int) : subI a a = 0 := by
  unfold subI
  rw [show clampI a - clampI a = 0 by omega]
  repeat' split
  all_goals first | rfl | omega
theorem timesI_one (a : Int) : timesI a 1 = clampI a := by
  have ha := clampI_bd a
  unfold timesI
  by_cases h : clampI a = 0
  · rw [if_neg (by omega), if_pos h, h]
  · have : 1 ≤ 1099511627776 / clampI a := by rw [Int.le_ediv_iff_mul_le (by omega)]; omega
    rw [if_neg (by omega), if_neg h, if_neg (by omega), Int.mul_one]
theorem timesI_two (a : Int) : timesI a 2 = addI a a := by
  have ha := clampI_bd a
  unfold timesI
  rw [addI_eq]
  by_cases h : clampI a = 0
  · rw [if_neg (by omega), if_pos h, h]; rfl
  · rw [if_neg (by omega), if_neg h]
    have e := Int.ediv_lt_iff_lt_mul (a := 1099511627776) (b := 2) (c := clampI a) (by omega)
    repeat' split
    all_goals omega

end Go.Proofs.Ytbhnjmdlagjfbaa
