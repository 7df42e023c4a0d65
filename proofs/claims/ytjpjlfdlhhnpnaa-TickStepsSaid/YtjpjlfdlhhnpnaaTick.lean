/- Contracts of the functions of layer 1 (tick) on integers, and of the reference's. No condition but that arguments fit their kinds. -/
import Derived.Test.YtjpjlfdlhhnpnaaRows
import Derived.WalkKit
import Derived.ProofKit
import Derived.OpenShut
import Derived.Below
import Derived.Outline
import Derived.WalkLawsBesides
namespace Go.Proofs.Ytjpjlfdlhhnpnaa
set_option linter.unusedVariables false
open Go.ChangeShapes Go.WideShapes Go.ChangeAt Go.RowKit

theorem ret_int {k : IntKind} {a b : Int} (h : a = b) : Ending.returned (.int k a) = .returned (.int k b) := by rw [h]
theorem ret_bool {a b : Bool} (h : a = b) : Ending.returned (.bool a) = .returned (.bool b) := by rw [h]

/-- the nearest time -/
def clampI (n : Int) : Int := if n < 0 then 0 else if 1099511627776 < n then 1099511627776 else n
def addI (a b : Int) : Int := clampI (clampI a + clampI b)
def subI (a b : Int) : Int := if clampI b = 1099511627776 then 0 else if clampI a = 1099511627776 then 1099511627776 else clampI (clampI a - clampI b)
def timesI (a n : Int) : Int := if n < 1 then 0 else if clampI a = 0 then 0 else if 1099511627776 / clampI a < n then 1099511627776 else clampI a * n
def upI (a s : Int) : Int := if clampI s < 1 then clampI a else if clampI a = 1099511627776 then clampI a else clampI ((clampI a + clampI s - 1) / clampI s * clampI s)

theorem clampI_bd (n : Int) : 0 ≤ clampI n ∧ clampI n ≤ 1099511627776 := by unfold clampI; split <;> (try split) <;> omega
theorem clampI_id {n : Int} (h0 : 0 ≤ n) (h1 : n ≤ 1099511627776) : clampI n = n := by unfold clampI; split <;> (try split) <;> omega
theorem clampI_nonpos {n : Int} (h : n ≤ 0) : clampI n = 0 := by unfold clampI; split <;> (try split) <;> omega
theorem clampI_clampI (n : Int) : clampI (clampI n) = clampI n := clampI_id (clampI_bd n).1 (clampI_bd n).2

theorem clamp_any (n : Int) (w : World) :
    Calls Try.prog 13 #[.int .i64 n] w fun e w' => e = .returned (.int .i64 (clampI n)) ∧ w = w' := by
  go_enter Try.func13, Try.ntmps13
  go_wp2
  all_goals go_ret
  all_goals exact ⟨ret_int (by unfold clampI; split <;> (try split) <;> (try split at *) <;> omega), rfl⟩
theorem rclamp_any (n : Int) (w : World) :
    Calls Try.prog 14 #[.int .i64 n] w fun e w' => e = .returned (.int .i64 (clampI n)) ∧ w = w' := by
  go_enter Try.func14, Try.ntmps14
  go_wp2
  all_goals go_ret
  all_goals exact ⟨ret_int (by unfold clampI; split <;> (try split) <;> (try split at *) <;> omega), rfl⟩

theorem add_any (a b : Int) (w : World) :
    Calls Try.prog 15 #[.int .i64 a, .int .i64 b] w fun e w' => e = .returned (.int .i64 (addI a b)) ∧ w = w' := by
  obtain ⟨a0, a1⟩ := clampI_bd a
  obtain ⟨b0, b1⟩ := clampI_bd b
  go_enter Try.func15, Try.ntmps15
  go_wp2_with (go_at_call 13; refine (clamp_any _ _).mono ?_; rintro e w' ⟨rfl, rfl⟩)
  go_ret
  exact ⟨rfl, rfl⟩
theorem radd_any (a b : Int) (w : World) :
    Calls Try.prog 16 #[.int .i64 a, .int .i64 b] w fun e w' => e = .returned (.int .i64 (addI a b)) ∧ w = w' := by
  obtain ⟨a0, a1⟩ := clampI_bd a
  obtain ⟨b0, b1⟩ := clampI_bd b
  go_enter Try.func16, Try.ntmps16
  go_wp2_with (go_at_call 14; refine (rclamp_any _ _).mono ?_; rintro e w' ⟨rfl, rfl⟩)
  go_ret
  exact ⟨rfl, rfl⟩
theorem sub_any (a b : Int) (w : World) :
    Calls Try.prog 17 #[.int .i64 a, .int .i64 b] w fun e w' => e = .returned (.int .i64 (subI a b)) ∧ w = w' := by
  obtain ⟨a0, a1⟩ := clampI_bd a
  obtain ⟨b0, b1⟩ := clampI_bd b
  go_enter Try.func17, Try.ntmps17
  go_wp2_with (go_at_call 13; refine (clamp_any _ _).mono ?_; rintro e w' ⟨rfl, rfl⟩)
  all_goals go_ret
  all_goals exact ⟨ret_int (by unfold subI; simp only [beq_iff_eq, beq_eq_false_iff_ne, ne_eq] at *; repeat' split; all_goals first | rfl | omega), rfl⟩
theorem rsub_any (a b : Int) (w : World) :
    Calls Try.prog 18 #[.int .i64 a, .int .i64 b] w fun e w' => e = .returned (.int .i64 (subI a b)) ∧ w = w' := by
  obtain ⟨a0, a1⟩ := clampI_bd a
  obtain ⟨b0, b1⟩ := clampI_bd b
  go_enter Try.func18, Try.ntmps18
  go_wp2_with (go_at_call 14; refine (rclamp_any _ _).mono ?_; rintro e w' ⟨rfl, rfl⟩)
  all_goals go_ret
  all_goals exact ⟨ret_int (by unfold subI; repeat' split; all_goals first | rfl | omega | exact clampI_nonpos (by omega) | (rw [show clampI a = 1099511627776 by omega])), rfl⟩
/-- a product of two numbers, bounded by a quotient's test -/
theorem mul_bd {c n q : Int} (hc : 0 < c) (hn : 0 ≤ n) (h : ¬ q / c < n) : 0 ≤ c * n ∧ c * n ≤ q := by
  have h1 : n ≤ q / c := by omega
  have h2 := (Int.le_ediv_iff_mul_le hc).1 h1
  have h3 := Int.mul_nonneg (Int.le_of_lt hc) hn
  rw [Int.mul_comm] at h2
  exact ⟨h3, h2⟩
theorem timesI_bd (a n : Int) : 0 ≤ timesI a n ∧ timesI a n ≤ 1099511627776 := by
  obtain ⟨a0, a1⟩ := clampI_bd a
  unfold timesI
  split
  · omega
  · split
    · omega
    · split
      · omega
      · exact mul_bd (by omega) (by omega) ‹_›
set_option maxHeartbeats 400000 in
theorem times_gen (F : FuncId) (a n : Int) (hn : n ≤ 9223372036854775807) (w : World) (h : F = 19 ∨ F = 20) :
    Calls Try.prog F #[.int .i64 a, .int .i64 n] w fun e w' => e = .returned (.int .i64 (timesI a n)) ∧ w = w' := by
  obtain ⟨a0, a1⟩ := clampI_bd a
  by_cases h1 : n < 1
  · have r : timesI a n = 0 := by unfold timesI; rw [if_pos h1]
    rw [r]; clear r
    rcases h with rfl | rfl
    · go_enter Try.func19, Try.ntmps19
      go_wp2_with (go_at_call 13; refine (clamp_any _ _).mono ?_; rintro e w' ⟨rfl, rfl⟩)
      go_ret
      exact ⟨rfl, rfl⟩
    · go_enter Try.func20, Try.ntmps20
      go_wp2_with (go_at_call 14; refine (rclamp_any _ _).mono ?_; rintro e w' ⟨rfl, rfl⟩)
      go_ret
      exact ⟨rfl, rfl⟩
  by_cases h2 : clampI a = 0
  · have r : timesI a n = 0 := by unfold timesI; rw [if_neg h1, if_pos h2]
    rw [r]; clear r
    rcases h with rfl | rfl
    · go_enter Try.func19, Try.ntmps19
      go_wp2_with (go_at_call 13; refine (clamp_any _ _).mono ?_; rintro e w' ⟨rfl, rfl⟩)
      go_ret
      exact ⟨rfl, rfl⟩
    · go_enter Try.func20, Try.ntmps20
      go_wp2_with (go_at_call 14; refine (rclamp_any _ _).mono ?_; rintro e w' ⟨rfl, rfl⟩)
      go_ret
      exact ⟨rfl, rfl⟩
  have h0 : 1 ≤ clampI a := by omega
  have b2 : (clampI a == 0) = false := by simpa using h2
  have b1 : decide (n < 1) = false := by simpa using h1
  by_cases h3 : 1099511627776 / clampI a < n
  · have r : timesI a n = 1099511627776 := by unfold timesI; rw [if_neg h1, if_neg h2, if_pos h3]
    rw [r]; clear r
    rcases h with rfl | rfl
    · go_enter Try.func19, Try.ntmps19
      go_wp2_with (go_at_call 13; refine (clamp_any _ _).mono ?_; rintro e w' ⟨rfl, rfl⟩)
      go_ret
      exact ⟨rfl, rfl⟩
    · go_enter Try.func20, Try.ntmps20
      go_wp2_with (go_at_call 14; refine (rclamp_any _ _).mono ?_; rintro e w' ⟨rfl, rfl⟩)
      go_ret
      exact ⟨rfl, rfl⟩
  · have r : timesI a n = clampI a * n := by unfold timesI; rw [if_neg h1, if_neg h2, if_neg h3]
    rw [r]; clear r
    obtain ⟨m0, m1⟩ := mul_bd (q := 1099511627776) (by omega) (by omega) h3
    rcases h with rfl | rfl
    · go_enter Try.func19, Try.ntmps19
      go_wp2_with (go_at_call 13; refine (clamp_any _ _).mono ?_; rintro e w' ⟨rfl, rfl⟩)
      go_ret
      exact ⟨rfl, rfl⟩
    · go_enter Try.func20, Try.ntmps20
      go_wp2_with (go_at_call 14; refine (rclamp_any _ _).mono ?_; rintro e w' ⟨rfl, rfl⟩)
      go_ret
      exact ⟨rfl, rfl⟩
theorem times_any (a n : Int) (hn : n ≤ 9223372036854775807) (w : World) :
    Calls Try.prog 19 #[.int .i64 a, .int .i64 n] w fun e w' => e = .returned (.int .i64 (timesI a n)) ∧ w = w' := times_gen _ a n hn w (.inl rfl)
theorem rtimes_any (a n : Int) (hn : n ≤ 9223372036854775807) (w : World) :
    Calls Try.prog 20 #[.int .i64 a, .int .i64 n] w fun e w' => e = .returned (.int .i64 (timesI a n)) ∧ w = w' := times_gen _ a n hn w (.inr rfl)

theorem up_in {c s : Int} (hc : 0 ≤ c) (hs : 1 ≤ s) : 0 ≤ (c + s - 1) / s * s ∧ (c + s - 1) / s * s ≤ c + s - 1 := by
  have h1 := Int.ediv_mul_le (c + s - 1) (show s ≠ 0 by omega)
  have h2 : 0 ≤ (c + s - 1) / s := Int.ediv_nonneg (by omega) (by omega)
  exact ⟨Int.mul_nonneg h2 (by omega), h1⟩
theorem up_any (a s : Int) (w : World) :
    Calls Try.prog 21 #[.int .i64 a, .int .i64 s] w fun e w' => e = .returned (.int .i64 (upI a s)) ∧ w = w' := by
  obtain ⟨a0, a1⟩ := clampI_bd a
  obtain ⟨s0, s1⟩ := clampI_bd s
  by_cases h1 : clampI s < 1
  · have r : upI a s = clampI a := by unfold upI; rw [if_pos h1]
    rw [r]; clear r
    go_enter Try.func21, Try.ntmps21
    go_wp2_with (go_at_call 13; refine (clamp_any _ _).mono ?_; rintro e w' ⟨rfl, rfl⟩)
    go_ret
    exact ⟨rfl, rfl⟩
  by_cases h2 : clampI a = 1099511627776
  · have r : upI a s = clampI a := by unfold upI; rw [if_neg h1, if_pos h2]
    rw [r, h2]; clear r
    go_enter Try.func21, Try.ntmps21
    go_wp2_with (go_at_call 13; refine (clamp_any _ _).mono ?_; rintro e w' ⟨rfl, rfl⟩)
    go_ret
    exact ⟨rfl, rfl⟩
  have b2 : (clampI a == 1099511627776) = false := by simpa using h2
  have b1 : decide (clampI s < 1) = false := by simpa using h1
  have r : upI a s = clampI ((clampI a + clampI s - 1) / clampI s * clampI s) := by unfold upI; rw [if_neg h1, if_neg h2]
  rw [r]; clear r
  have s2 : 1 ≤ clampI s := by omega
  obtain ⟨u0, u1⟩ := up_in a0 s2
  go_enter Try.func21, Try.ntmps21
  go_wp2_with (go_at_call 13; refine (clamp_any _ _).mono ?_; rintro e w' ⟨rfl, rfl⟩)
  go_ret
  exact ⟨rfl, rfl⟩
/-- the next multiple, by the rest -/
theorem up_rest {c s : Int} (hs : 1 ≤ s) (h : c % s = 0) : (c + s - 1) / s * s = c := by
  have e : (c + s - 1) / s = c / s := by
    have h1 := Int.emod_add_mul_ediv c s
    rw [h, Int.zero_add] at h1
    have h2 : c + s - 1 = (s - 1) + c / s * s := by rw [Int.mul_comm, h1]; omega
    rw [h2, Int.add_mul_ediv_right _ _ (by omega), Int.ediv_eq_zero_of_lt (by omega) (by omega)]
    omega
  have h1 := Int.emod_add_mul_ediv c s
  rw [e, Int.mul_comm]
  omega
theorem up_more {c s : Int} (hs : 1 ≤ s) (h : c % s ≠ 0) : (c + s - 1) / s * s = c - c % s + s := by
  have h1 := Int.emod_add_mul_ediv c s
  have r0 := Int.emod_nonneg c (show s ≠ 0 by omega)
  have r1 := Int.emod_lt_of_pos c (show 0 < s by omega)
  have e : (c + s - 1) / s = c / s + 1 := by
    have h2 : c + s - 1 = (c % s - 1) + (c / s + 1) * s := by rw [Int.add_mul, Int.mul_comm (c / s) s]; omega
    rw [h2, Int.add_mul_ediv_right _ _ (by omega), Int.ediv_eq_zero_of_lt (by omega) (by omega)]
    omega
  rw [e, Int.add_mul, Int.mul_comm (c / s) s]
  omega
theorem rup_any (a s : Int) (s9 : s ≤ 9223372036854775807) (w : World) :
    Calls Try.prog 22 #[.int .i64 a, .int .i64 s] w fun e w' => e = .returned (.int .i64 (upI a s)) ∧ w = w' := by
  obtain ⟨a0, a1⟩ := clampI_bd a
  by_cases h1 : s < 1
  · have r : upI a s = clampI a := by unfold upI; rw [if_pos (by rw [clampI_nonpos (by omega)]; decide)]
    rw [r]; clear r
    go_enter Try.func22, Try.ntmps22
    go_wp2_with (go_at_call 14; refine (rclamp_any _ _).mono ?_; rintro e w' ⟨rfl, rfl⟩)
    go_ret
    exact ⟨rfl, rfl⟩
  have b1 : decide (s < 1) = false := by simpa using h1
  have c1 : 1 ≤ clampI s := by unfold clampI; repeat' split; all_goals omega
  by_cases h2 : clampI a = 1099511627776
  · have r : upI a s = clampI a := by unfold upI; rw [if_neg (by omega), if_pos h2]
    rw [r, h2]; clear r
    go_enter Try.func22, Try.ntmps22
    go_wp2_with (go_at_call 14; refine (rclamp_any _ _).mono ?_; rintro e w' ⟨rfl, rfl⟩)
    go_ret
    exact ⟨rfl, rfl⟩
  have b2 : (clampI a == 1099511627776) = false := by simpa using h2
  have r : upI a s = clampI ((clampI a + clampI s - 1) / clampI s * clampI s) := by unfold upI; rw [if_neg (by omega), if_neg h2]
  have hs1 : 1 ≤ s := by omega
  have e0 := Int.emod_nonneg (clampI a) (show s ≠ 0 by omega)
  have e1 := Int.emod_lt_of_pos (clampI a) (show 0 < s by omega)
  have ea := clampI_clampI a
  by_cases h3 : clampI a % s = 0
  · have b3 : (clampI a % s == 0) = true := by simpa using h3
    have h4 : clampI a % clampI s = 0 := by
      by_cases h : s ≤ 1099511627776
      · rw [clampI_id (by omega) h]; exact h3
      · rw [Int.emod_eq_of_lt a0 (by omega)] at h3
        rw [h3]; exact Int.zero_emod _
    rw [up_rest c1 h4, ea] at r
    rw [r]; clear r h4 ea h3
    go_enter Try.func22, Try.ntmps22
    go_wp2_with (go_at_call 14; refine (rclamp_any _ _).mono ?_; rintro e w' ⟨rfl, rfl⟩)
    go_ret
    exact ⟨rfl, rfl⟩
  have b3 : (clampI a % s == 0) = false := by simpa using h3
  have h4 : clampI a % clampI s ≠ 0 := by
    by_cases h : s ≤ 1099511627776
    · rw [clampI_id (by omega) h]; exact h3
    · rw [Int.emod_eq_of_lt a0 (by omega)] at h3
      have : clampI s = 1099511627776 := by unfold clampI; repeat' split; all_goals omega
      rw [this, Int.emod_eq_of_lt a0 (by omega)]; exact h3
  rw [up_more c1 h4] at r
  by_cases h5 : 1099511627776 ≤ s
  · have r2 : upI a s = 1099511627776 := by
      have : clampI s = 1099511627776 := by unfold clampI; repeat' split; all_goals omega
      rw [r, this, Int.emod_eq_of_lt a0 (by omega)]
      unfold clampI; repeat' split; all_goals omega
    rw [r2]; clear r r2 ea h3 h4
    go_enter Try.func22, Try.ntmps22
    go_wp2_with (go_at_call 14; refine (rclamp_any _ _).mono ?_; rintro e w' ⟨rfl, rfl⟩)
    go_ret
    exact ⟨rfl, rfl⟩
  · have es : clampI s = s := clampI_id (by omega) (by omega)
    rw [es] at r
    rw [r]; clear r ea es h3 h4
    go_enter Try.func22, Try.ntmps22
    go_wp2_with (go_at_call 14; refine (rclamp_any _ _).mono ?_; rintro e w' ⟨rfl, rfl⟩)
    go_ret
    exact ⟨rfl, rfl⟩
end Go.Proofs.Ytjpjlfdlhhnpnaa
