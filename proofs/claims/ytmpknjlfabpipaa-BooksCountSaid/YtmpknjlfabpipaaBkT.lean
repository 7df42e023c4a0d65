/- Times of tick, where the document's own is not in the seat. No condition. -/
import Derived.Test.YtmpknjlfabpipaaTickU
namespace Go.Proofs.Ytmpknjlfabpipaa
set_option linter.unusedVariables false
open Go.ChangeShapes Go.WideShapes Go.ChangeAt Go.RowKit
set_option maxHeartbeats 1000000 in
theorem btimes_any (a n : Int) (hn : n ≤ 9223372036854775807) (w : World) :
    Calls Try.prog 19 #[.int .i64 a, .int .i64 n] w fun e w' => e = .returned (.int .i64 (timesI a n)) ∧ w = w' := by
  obtain ⟨a0, a1⟩ := clampI_bd a
  by_cases h1 : n < 1
  · have r : timesI a n = 0 := by unfold timesI; rw [if_pos h1]
    rw [r]; clear r
    go_enter Try.func19, Try.ntmps19
    go_wp2_with (go_at_call 31; refine (clamp_any _ _).mono ?_; rintro e w' ⟨rfl, rfl⟩)
    go_ret
    exact ⟨rfl, rfl⟩
  by_cases h2 : clampI a = 0
  · have r : timesI a n = 0 := by unfold timesI; rw [if_neg h1, if_pos h2]
    rw [r]; clear r
    go_enter Try.func19, Try.ntmps19
    go_wp2_with (go_at_call 31; refine (clamp_any _ _).mono ?_; rintro e w' ⟨rfl, rfl⟩)
    go_ret
    exact ⟨rfl, rfl⟩
  have h0 : 1 ≤ clampI a := by omega
  have b2 : (clampI a == 0) = false := by simpa using h2
  have b1 : decide (n < 1) = false := by simpa using h1
  by_cases h3 : 1099511627776 / clampI a < n
  · have r : timesI a n = 1099511627776 := by unfold timesI; rw [if_neg h1, if_neg h2, if_pos h3]
    rw [r]; clear r
    go_enter Try.func19, Try.ntmps19
    go_wp2_with (go_at_call 31; refine (clamp_any _ _).mono ?_; rintro e w' ⟨rfl, rfl⟩)
    go_ret
    exact ⟨rfl, rfl⟩
  · have r : timesI a n = clampI a * n := by unfold timesI; rw [if_neg h1, if_neg h2, if_neg h3]
    rw [r]; clear r
    obtain ⟨m0, m1⟩ := mul_bd (q := 1099511627776) (by omega) (by omega) h3
    go_enter Try.func19, Try.ntmps19
    go_wp2_with (go_at_call 31; refine (clamp_any _ _).mono ?_; rintro e w' ⟨rfl, rfl⟩)
    go_ret
    exact ⟨rfl, rfl⟩
end Go.Proofs.Ytmpknjlfabpipaa
