/- The contract of Factor (share), where what was used is no more than 2^50; of math/bits.Mul64 and Div64 as far as it needs them. -/
import Derived.Test.YtmpknjlfabpipaaShare
import Derived.Deep.QuietTactic
import Derived.BigQuiet
import Derived.Laws.Bits64b
namespace Go.Proofs.Ytmpknjlfabpipaa
set_option linter.unusedVariables false
open Go.ChangeShapes Go.WideShapes Go.ChangeAt Go.RowKit
attribute [local go_sem ↓] Go.wp_at_zero Go.wp_at_succ

theorem and_mask32 (x : Int) (h0 : 0 ≤ x) (h1 : x ≤ 9223372036854775807) : bits .and .u64 x 4294967295 = x % 4294967296 := by
  obtain ⟨n, rfl⟩ := Int.eq_ofNat_of_zero_le h0
  have h := bits_and_u64_nat n 4294967295 (by omega) (by omega)
  have e : n &&& 4294967295 = n % 4294967296 := Nat.and_two_pow_sub_one_eq_mod n 32
  rw [e] at h
  have h' : bits .and .u64 (n : Int) 4294967295 = ((n % 4294967296 : Nat) : Int) := h
  rw [h']
  omega
theorem mul_key (x : Int) (h0 : 0 ≤ x) (h1 : x ≤ 1125899906842624) : IntKind.u64.wrap (1000 * (x % 4294967296) / 4294967296 / 4294967296 + (1000 * (x % 4294967296) / 4294967296 + 1000 * (x / 4294967296)) / 4294967296) = 0 := by
  have he : 0 ≤ 1000 * (x % 4294967296) / 4294967296 ∧ 1000 * (x % 4294967296) / 4294967296 ≤ 1000 := by omega
  have hf : 0 ≤ x / 4294967296 ∧ x / 4294967296 ≤ 262144 := by omega
  generalize 1000 * (x % 4294967296) / 4294967296 = e at *
  generalize x / 4294967296 = f at *
  have h2 : e / 4294967296 = 0 := by omega
  have h3 : (e + 1000 * f) / 4294967296 = 0 := by omega
  rw [h2, h3]
  rfl
theorem ret_tup2 {k : IntKind} {a b c d : Int} (h1 : a = c) (h2 : b = d) : Ending.returned (.tuple #[.int k a, .int k b]) = .returned (.tuple #[.int k c, .int k d]) := by rw [h1, h2]
set_option maxHeartbeats 1000000 in
theorem mul64_small (x : Int) (h0 : 0 ≤ x) (h1 : x ≤ 1125899906842624) (w : World) :
    Calls Try.prog 38 #[.int .u64 1000, .int .u64 x] w fun e w' => e = .returned (.tuple #[.int .u64 0, .int .u64 (1000 * x)]) ∧ w = w' := by
  have key := Lib.hid (show IntKind.u64.wrap (1000 * (x % 4294967296) / 4294967296 / 4294967296 + (1000 * (x % 4294967296) / 4294967296 + 1000 * (x / 4294967296)) / 4294967296) = 0 from mul_key x h0 h1)
  have hm : bits .and .u64 x 4294967295 = x % 4294967296 := and_mask32 x h0 (by omega)
  have hm2 : bits .and .u64 (1000 * (x % 4294967296) / 4294967296) 4294967295 = 1000 * (x % 4294967296) / 4294967296 := by rw [and_mask32 _ (by omega) (by omega)]; omega
  have hk : bits .and .u64 1000 4294967295 = 1000 := by decide
  go_enter Try.func38, Try.ntmps38
  go_wp2
  go_ret2
  exact ⟨ret_tup2 key.out rfl, rfl⟩
set_option maxHeartbeats 1000000 in
theorem div64_small (x t : Int) (h0 : 0 ≤ x) (h1 : x ≤ 1125899906842624000) (t0 : 1 ≤ t) (t1 : t ≤ 9223372036854775807) (w : World) :
    Calls Try.prog 39 #[.int .u64 0, .int .u64 x, .int .u64 t] w fun e w' => e = .returned (.tuple #[.int .u64 (x / t), .int .u64 (x % t)]) ∧ ∃ n, w' = w.drewN n := by
  go_enter Try.func39, Try.ntmps39
  go_wp2_with fail
  go_quiet (fail)
  go_wp2
  go_ret2
  exact ⟨rfl, nq, rfl⟩

theorem below_drewK {W0 W : World} (h : Below W0.heap.size W0 W) (n : Nat) : Below W0.heap.size W0 (W.drewN n) := ⟨h.os, h.tape, h.output, h.size, h.block⟩
set_option maxHeartbeats 1000000 in
theorem factor_any (u t : Int) (u1 : u ≤ 1125899906842624) (t1 : t ≤ 9223372036854775807) (w : World) :
    Calls Try.prog 28 #[.int .i64 u, .int .i64 t] w fun e w' => e = .returned (.int .i64 (factI u t)) ∧ Below w.heap.size w w' := by
  by_cases h1 : t ≤ 0
  · have e : factI u t = 1000 := by unfold factI; rw [if_pos h1]
    rw [e]; clear e
    go_enter Try.func28, Try.ntmps28
    go_wp2
    go_ret
    exact ⟨rfl, Below.refl _ _⟩
  by_cases h2 : u ≤ 0
  · have e : factI u t = 1000 := by unfold factI; rw [if_neg h1, if_pos h2]
    rw [e]; clear e
    go_enter Try.func28, Try.ntmps28
    go_wp2
    go_ret
    exact ⟨rfl, Below.refl _ _⟩
  by_cases h3 : t ≤ u
  · have e : factI u t = 0 := by unfold factI; rw [if_neg h1, if_neg h2, if_pos h3]
    rw [e]; clear e
    go_enter Try.func28, Try.ntmps28
    go_wp2
    go_ret
    exact ⟨rfl, Below.refl _ _⟩
  · have e : factI u t = 1000 - 1000 * u / t := by unfold factI; rw [if_neg h1, if_neg h2, if_neg h3]
    have q0 : 0 ≤ 1000 * u / t := Int.ediv_nonneg (by omega) (by omega)
    have q1 : 1000 * u / t ≤ 1000 := by
      have := Int.ediv_le_ediv (show 0 < t by omega) (show 1000 * u ≤ 1000 * t by omega)
      rwa [Int.mul_ediv_cancel _ (by omega)] at this
    rw [e]; clear e
    go_enter Try.func28, Try.ntmps28
    go_wp2_with (first | (go_at_call 38; refine (mul64_small _ (by omega) (by omega) _).mono ?_; rintro e w' ⟨rfl, rfl⟩) | (go_at_call 39; refine (div64_small _ _ (by omega) (by omega) (by omega) (by omega) _).mono ?_; rintro e w' ⟨rfl, nq, rfl⟩))
    go_ret
    exact ⟨rfl, below_drewK (Below.refl _ _) _⟩
end Go.Proofs.Ytmpknjlfabpipaa
