/- Laws that belong together: Contracts of the functions of layer 1 (tick) on integers, and of the reference's. No condition but that arguments fit their kinds.; Plain facts on halving, on factors. No condition.; Contracts of the functions of layer 1 (tick) on multiples, and of the reference's. No condition but that arguments fit their kinds.; Times of tick, where the document's own is not in the seat. No condition. -/
import Derived.Test.YthflogeaielhlaaGreatDoorRows
import Derived.WalkKit
import Derived.ProofKit
import Derived.OpenShut
import Derived.Below
import Derived.Outline
import Derived.WalkLawsBesides
namespace Go.Proofs.YthflogeaielhlaaGreatDoor
set_option linter.unusedVariables false
open Go.ChangeShapes Go.WideShapes Go.ChangeAt Go.RowKit

theorem ret_int {k : IntKind} {a b : Int} (h : a = b) : Ending.returned (.int k a) = .returned (.int k b) := by rw [h]
theorem ret_bool {a b : Bool} (h : a = b) : Ending.returned (.bool a) = .returned (.bool b) := by rw [h]

/-- the nearest time -/
def clampI (n : Int) : Int := if n < 0 then 0 else if 1099511627776 < n then 1099511627776 else n
def addI (a b : Int) : Int := clampI (clampI a + clampI b)
def subI (a b : Int) : Int := if clampI b = 1099511627776 then 0 else if clampI a = 1099511627776 then 1099511627776 else clampI (clampI a - clampI b)
def timesI (a n : Int) : Int := if n < 1 then 0 else if clampI a = 0 then 0 else if 1099511627776 / clampI a < n then 1099511627776 else clampI a * n
def upI (a s : Int) : Int := if clampI s < 1 then clampI a else if clampI a = 1099511627776 then clampI a else clampI ((clampI a + clampI s - 1) / clampI s * clampI s)

theorem clampI_bd (n : Int) : 0 ≤ clampI n ∧ clampI n ≤ 1099511627776 := by unfold clampI; split <;> (try split) <;> omega
theorem clampI_id {n : Int} (h0 : 0 ≤ n) (h1 : n ≤ 1099511627776) : clampI n = n := by unfold clampI; split <;> (try split) <;> omega
theorem clampI_nonpos {n : Int} (h : n ≤ 0) : clampI n = 0 := by unfold clampI; split <;> (try split) <;> omega
theorem clampI_clampI (n : Int) : clampI (clampI n) = clampI n := clampI_id (clampI_bd n).1 (clampI_bd n).2

theorem clamp_any (n : Int) (w : World) :
    Calls Tryz.prog 52 #[.int .i64 n] w fun e w' => e = .returned (.int .i64 (clampI n)) ∧ w = w' := by
  go_enter Tryz.func52, Tryz.ntmps52
  go_wp2
  all_goals go_ret
  all_goals exact ⟨ret_int (by unfold clampI; split <;> (try split) <;> (try split at *) <;> omega), rfl⟩
end Go.Proofs.YthflogeaielhlaaGreatDoor
namespace Go.Proofs.YthflogeaielhlaaGreatDoor
set_option linter.unusedVariables false
open Go.RowKit

/-- what was used, as it counts -/
def cntI (u : Int) : Int := if u < 0 then 0 else if 1125899906842624 < u then 1125899906842624 else u
/-- a half-life, as it counts -/
def halfI (h : Int) : Int := if clampI h < 1 then 1099511627776 else clampI h
/-- how many half-lives there are between two times -/
def kI (S N H : Int) : Int := if N ≤ S then 0 else (N - S) / H
/-- so often halved -/
def shI (u k : Int) : Int := u / 2 ^ min k.toNat 64
def atI (u s n h : Int) : Int × Int := (shI (cntI u) (kI (clampI s) (clampI n) (halfI h)), clampI s + kI (clampI s) (clampI n) (halfI h) * halfI h)

theorem cntI_bd (u : Int) : 0 ≤ cntI u ∧ cntI u ≤ 1125899906842624 := by unfold cntI; split <;> (try split) <;> omega
theorem cntI_id {u : Int} (h0 : 0 ≤ u) (h1 : u ≤ 1125899906842624) : cntI u = u := by unfold cntI; split <;> (try split) <;> omega
theorem halfI_bd (h : Int) : 1 ≤ halfI h ∧ halfI h ≤ 1099511627776 := by unfold halfI; have := clampI_bd h; split <;> omega
theorem kI_bd {S N H : Int} (S0 : 0 ≤ S) (N1 : N ≤ 1099511627776) (S1 : S ≤ 1099511627776) (H0 : 1 ≤ H) : 0 ≤ kI S N H ∧ kI S N H ≤ 1099511627776 ∧ 0 ≤ kI S N H * H ∧ S + kI S N H * H ≤ max S N := by
  unfold kI
  split
  · simp; omega
  · have h1 := Int.ediv_mul_le (N - S) (show H ≠ 0 by omega)
    have h2 : 0 ≤ (N - S) / H := Int.ediv_nonneg (by omega) (by omega)
    have h3 : (N - S) / H ≤ N - S := Int.ediv_le_self _ (by omega)
    have h4 := Int.mul_nonneg h2 (show 0 ≤ H by omega)
    omega
theorem pow_pos64 (k : Nat) : (0 : Int) < 2 ^ k := Int.pow_pos (by decide)
theorem shI_bd {u : Int} (k : Int) (h0 : 0 ≤ u) : 0 ≤ shI u k ∧ shI u k ≤ u := by
  unfold shI
  have := pow_pos64 (min k.toNat 64)
  exact ⟨Int.ediv_nonneg h0 (by omega), Int.ediv_le_self _ h0⟩
theorem shI_zero (u : Int) : shI u 0 = u := by unfold shI; simp
theorem shI_big {u : Int} {n : Nat} (h0 : 0 ≤ u) (h1 : u ≤ 1125899906842624) (hn : 51 ≤ n) : u / 2 ^ n = 0 := by
  apply Int.ediv_eq_zero_of_lt h0
  obtain ⟨m, rfl⟩ : ∃ m, n = 51 + m := ⟨n - 51, by omega⟩
  rw [Int.pow_add, show (2 : Int) ^ 51 = 2251799813685248 by decide]
  have := Int.pow_pos (n := 2) (m := m) (by decide)
  generalize (2 : Int) ^ m = p at *
  omega
theorem shI_add {u a b : Int} (h0 : 0 ≤ u) (h1 : u ≤ 1125899906842624) (a0 : 0 ≤ a) (b0 : 0 ≤ b) : shI (shI u a) b = shI u (a + b) := by
  unfold shI
  rw [Int.ediv_ediv_of_nonneg (by have := pow_pos64 (min a.toNat 64); omega), ← Int.pow_add]
  by_cases h : a.toNat + b.toNat ≤ 64
  · congr 2
    omega
  · rw [shI_big h0 h1 (by omega), shI_big h0 h1 (by omega)]
theorem kI_add {S X Y H : Int} (H0 : 1 ≤ H) (hxy : X ≤ Y) : kI (S + kI S X H * H) Y H = kI S Y H - kI S X H := by
  by_cases h1 : X ≤ S
  · have e : kI S X H = 0 := by unfold kI; rw [if_pos h1]
    rw [e]; simp
  · have e : kI S X H = (X - S) / H := by unfold kI; rw [if_neg h1]
    have e2 : kI S Y H = (Y - S) / H := by unfold kI; rw [if_neg (by omega)]
    rw [e, e2]
    have h2 := Int.ediv_mul_le (X - S) (show H ≠ 0 by omega)
    unfold kI
    split
    · have h3 : Y - S = (X - S) / H * H := by omega
      rw [h3, Int.mul_ediv_cancel _ (by omega)]
      omega
    · rw [show Y - (S + (X - S) / H * H) = Y - S + -((X - S) / H) * H by rw [Int.neg_mul]; omega, Int.add_mul_ediv_right _ _ (by omega)]
      omega
theorem atI_bd (u s n h : Int) : (0 ≤ (atI u s n h).1 ∧ (atI u s n h).1 ≤ 1125899906842624) ∧ (0 ≤ (atI u s n h).2 ∧ (atI u s n h).2 ≤ 1099511627776) ∧ (atI u s n h).1 ≤ cntI u ∧ clampI s ≤ (atI u s n h).2 := by
  have h1 := cntI_bd u
  have h2 := clampI_bd s
  have h3 := clampI_bd n
  have h4 := halfI_bd h
  have h5 := kI_bd h2.1 h3.2 h2.2 h4.1
  have h6 := shI_bd (kI (clampI s) (clampI n) (halfI h)) h1.1
  unfold atI
  simp only
  omega
/-- looked at twice -/
theorem atI_atI {u s x y h : Int} (hxy : clampI x ≤ clampI y) : atI (atI u s x h).1 (atI u s x h).2 y h = atI u s y h := by
  have b := atI_bd u s x h
  have c := cntI_bd u
  have h2 := clampI_bd s
  have h3 := clampI_bd x
  have h3' := clampI_bd y
  have h4 := halfI_bd h
  have h5 := kI_bd h2.1 h3.2 h2.2 h4.1
  have e1 : cntI (atI u s x h).1 = (atI u s x h).1 := cntI_id b.1.1 b.1.2
  have e2 : clampI (atI u s x h).2 = (atI u s x h).2 := clampI_id b.2.1.1 b.2.1.2
  rw [atI, e1, e2]
  have h7 : 0 ≤ kI (clampI s) (clampI y) (halfI h) - kI (clampI s) (clampI x) (halfI h) := by
    rw [← kI_add h4.1 hxy]
    have b2 := b.2.1
    unfold atI at b2
    exact (kI_bd b2.1 h3'.2 b2.2 h4.1).1
  have k0 : (atI u s x h).2 = clampI s + kI (clampI s) (clampI x) (halfI h) * halfI h := rfl
  rw [k0, kI_add h4.1 hxy]
  have k1 : (atI u s x h).1 = shI (cntI u) (kI (clampI s) (clampI x) (halfI h)) := rfl
  rw [k1, shI_add c.1 c.2 h5.1 h7]
  unfold atI
  refine Prod.ext ?_ ?_
  · simp only
    congr 1
    omega
  · simp only
    rw [Int.sub_mul]
    omega
theorem atI_mono {u s x y h : Int} (hxy : clampI x ≤ clampI y) : (atI u s y h).1 ≤ (atI u s x h).1 ∧ (atI u s x h).2 ≤ (atI u s y h).2 := by
  have b := atI_bd u s x h
  have e1 : cntI (atI u s x h).1 = (atI u s x h).1 := cntI_id b.1.1 b.1.2
  have e2 : clampI (atI u s x h).2 = (atI u s x h).2 := clampI_id b.2.1.1 b.2.1.2
  have c := atI_bd (atI u s x h).1 (atI u s x h).2 y h
  rw [atI_atI hxy, e1, e2] at c
  exact c.2.2

/-- how little of all one used -/
def factI (u t : Int) : Int := if t ≤ 0 then 1000 else if u ≤ 0 then 1000 else if t ≤ u then 0 else 1000 - 1000 * u / t
theorem factI_bd (u t : Int) : 0 ≤ factI u t ∧ factI u t ≤ 1000 := by
  unfold factI
  split
  · omega
  · split
    · omega
    · split
      · omega
      · have h1 : 0 ≤ 1000 * u / t := Int.ediv_nonneg (by omega) (by omega)
        have h2 : 1000 * u / t ≤ 1000 := by
          have := Int.ediv_le_ediv (show 0 < t by omega) (show 1000 * u ≤ 1000 * t by omega)
          rwa [Int.mul_ediv_cancel _ (by omega)] at this
        omega
theorem factI_anti {u v t : Int} (h : u ≤ v) : factI v t ≤ factI u t := by
  by_cases h1 : t ≤ 0
  · unfold factI; rw [if_pos h1, if_pos h1]; omega
  by_cases h2 : u ≤ 0
  · have := (factI_bd v t).2
    have e : factI u t = 1000 := by unfold factI; rw [if_neg h1, if_pos h2]
    omega
  by_cases h3 : t ≤ v
  · have := (factI_bd u t).1
    have e : factI v t = 0 := by unfold factI; rw [if_neg h1, if_neg (by omega), if_pos h3]
    omega
  · unfold factI
    rw [if_neg h1, if_neg h1, if_neg h2, if_neg (show ¬ v ≤ 0 by omega), if_neg h3, if_neg (show ¬ t ≤ u by omega)]
    have := Int.ediv_le_ediv (show 0 < t by omega) (show 1000 * u ≤ 1000 * v by omega)
    omega
end Go.Proofs.YthflogeaielhlaaGreatDoor
namespace Go.Proofs.YthflogeaielhlaaGreatDoor
set_option linter.unusedVariables false
open Go.ChangeShapes Go.WideShapes Go.ChangeAt Go.RowKit

/-- a product of two numbers, bounded by a quotient's test -/
theorem mul_bd {c n q : Int} (hc : 0 < c) (hn : 0 ≤ n) (h : ¬ q / c < n) : 0 ≤ c * n ∧ c * n ≤ q := by
  have h1 : n ≤ q / c := by omega
  have h2 := (Int.le_ediv_iff_mul_le hc).1 h1
  have h3 := Int.mul_nonneg (Int.le_of_lt hc) hn
  rw [Int.mul_comm] at h2
  exact ⟨h3, h2⟩
theorem timesI_bd (a n : Int) : 0 ≤ timesI a n ∧ timesI a n ≤ 1099511627776 := by
  obtain ⟨a0, a1⟩ := clampI_bd a
  unfold timesI
  split
  · omega
  · split
    · omega
    · split
      · omega
      · exact mul_bd (by omega) (by omega) ‹_›
theorem up_in {c s : Int} (hc : 0 ≤ c) (hs : 1 ≤ s) : 0 ≤ (c + s - 1) / s * s ∧ (c + s - 1) / s * s ≤ c + s - 1 := by
  have h1 := Int.ediv_mul_le (c + s - 1) (show s ≠ 0 by omega)
  have h2 : 0 ≤ (c + s - 1) / s := Int.ediv_nonneg (by omega) (by omega)
  exact ⟨Int.mul_nonneg h2 (by omega), h1⟩
/-- the next multiple, by the rest -/
theorem up_rest {c s : Int} (hs : 1 ≤ s) (h : c % s = 0) : (c + s - 1) / s * s = c := by
  have e : (c + s - 1) / s = c / s := by
    have h1 := Int.emod_add_mul_ediv c s
    rw [h, Int.zero_add] at h1
    have h2 : c + s - 1 = (s - 1) + c / s * s := by rw [Int.mul_comm, h1]; omega
    rw [h2, Int.add_mul_ediv_right _ _ (by omega), Int.ediv_eq_zero_of_lt (by omega) (by omega)]
    omega
  have h1 := Int.emod_add_mul_ediv c s
  rw [e, Int.mul_comm]
  omega
theorem up_more {c s : Int} (hs : 1 ≤ s) (h : c % s ≠ 0) : (c + s - 1) / s * s = c - c % s + s := by
  have h1 := Int.emod_add_mul_ediv c s
  have r0 := Int.emod_nonneg c (show s ≠ 0 by omega)
  have r1 := Int.emod_lt_of_pos c (show 0 < s by omega)
  have e : (c + s - 1) / s = c / s + 1 := by
    have h2 : c + s - 1 = (c % s - 1) + (c / s + 1) * s := by rw [Int.add_mul, Int.mul_comm (c / s) s]; omega
    rw [h2, Int.add_mul_ediv_right _ _ (by omega), Int.ediv_eq_zero_of_lt (by omega) (by omega)]
    omega
  rw [e, Int.add_mul, Int.mul_comm (c / s) s]
  omega
end Go.Proofs.YthflogeaielhlaaGreatDoor
namespace Go.Proofs.YthflogeaielhlaaGreatDoor
set_option linter.unusedVariables false
open Go.ChangeShapes Go.WideShapes Go.ChangeAt Go.RowKit
set_option maxHeartbeats 1000000 in
theorem btimes_any (a n : Int) (hn : n ≤ 9223372036854775807) (w : World) :
    Calls Tryz.prog 40 #[.int .i64 a, .int .i64 n] w fun e w' => e = .returned (.int .i64 (timesI a n)) ∧ w = w' := by
  obtain ⟨a0, a1⟩ := clampI_bd a
  by_cases h1 : n < 1
  · have r : timesI a n = 0 := by unfold timesI; rw [if_pos h1]
    rw [r]; clear r
    go_enter Tryz.func40, Tryz.ntmps40
    go_wp2_with (go_at_call 52; refine (clamp_any _ _).mono ?_; rintro e w' ⟨rfl, rfl⟩)
    go_ret
    exact ⟨rfl, rfl⟩
  by_cases h2 : clampI a = 0
  · have r : timesI a n = 0 := by unfold timesI; rw [if_neg h1, if_pos h2]
    rw [r]; clear r
    go_enter Tryz.func40, Tryz.ntmps40
    go_wp2_with (go_at_call 52; refine (clamp_any _ _).mono ?_; rintro e w' ⟨rfl, rfl⟩)
    go_ret
    exact ⟨rfl, rfl⟩
  have h0 : 1 ≤ clampI a := by omega
  have b2 : (clampI a == 0) = false := by simpa using h2
  have b1 : decide (n < 1) = false := by simpa using h1
  by_cases h3 : 1099511627776 / clampI a < n
  · have r : timesI a n = 1099511627776 := by unfold timesI; rw [if_neg h1, if_neg h2, if_pos h3]
    rw [r]; clear r
    go_enter Tryz.func40, Tryz.ntmps40
    go_wp2_with (go_at_call 52; refine (clamp_any _ _).mono ?_; rintro e w' ⟨rfl, rfl⟩)
    go_ret
    exact ⟨rfl, rfl⟩
  · have r : timesI a n = clampI a * n := by unfold timesI; rw [if_neg h1, if_neg h2, if_neg h3]
    rw [r]; clear r
    obtain ⟨m0, m1⟩ := mul_bd (q := 1099511627776) (by omega) (by omega) h3
    go_enter Tryz.func40, Tryz.ntmps40
    go_wp2_with (go_at_call 52; refine (clamp_any _ _).mono ?_; rintro e w' ⟨rfl, rfl⟩)
    go_ret
    exact ⟨rfl, rfl⟩
end Go.Proofs.YthflogeaielhlaaGreatDoor
