/- The walk of TickSteps, given that the known times are as they are (one). No condition but that arguments fit their kinds. -/
import Derived.Test.YtjpjlfdlhhnpnaaTickLaws
import Derived.Test.YtjpjlfdlhhnpnaaMask
namespace Go.Proofs.Ytjpjlfdlhhnpnaa
set_option linter.unusedVariables false
open Go.ChangeShapes Go.WideShapes Go.ChangeAt Go.RowKit

theorem timesI_eq (a n : Int) (hn : 0 ≤ n) : timesI a n = if 1099511627776 < clampI a * n then 1099511627776 else clampI a * n := by
  have ha := clampI_bd a
  unfold timesI
  by_cases h1 : n < 1
  · rw [if_pos h1, show n = 0 by omega, Int.mul_zero]; rfl
  by_cases h2 : clampI a = 0
  · rw [if_neg h1, if_pos h2, h2, Int.zero_mul]; rfl
  rw [if_neg h1, if_neg h2]
  have e := Int.ediv_lt_iff_lt_mul (a := 1099511627776) (b := n) (c := clampI a) (by omega)
  rw [Int.mul_comm n] at e
  generalize clampI a * n = y at *
  by_cases h3 : 1099511627776 / clampI a < n
  · rw [if_pos h3, if_pos (e.1 h3)]
  · rw [if_neg h3, if_neg (fun h => h3 (e.2 h))]
theorem timesI_zero (a : Int) : timesI a 0 = 0 := by unfold timesI; rfl
theorem timesI_succ (a : Int) (k : Nat) : addI (timesI a k) a = timesI a ((k : Int) + 1) := by
  have ha := clampI_bd a
  have hk := timesI_bd a k
  rw [addI_eq, clampI_id hk.1 hk.2, timesI_eq a k (by omega), timesI_eq a ((k : Int) + 1) (by omega), Int.mul_add, Int.mul_one]
  have h0 : 0 ≤ clampI a * (k : Int) := Int.mul_nonneg ha.1 (by omega)
  generalize clampI a * (k : Int) = y at *
  repeat' split
  all_goals omega

theorem upI_eq (a s : Int) (h1 : 1 ≤ s) (h2 : s ≤ 65536) : upI a s = if clampI a = 1099511627776 then 1099511627776 else clampI ((clampI a + s - 1) / s * s) := by
  unfold upI
  rw [clampI_id (n := s) (by omega) (by omega), if_neg (by omega)]
  split
  · assumption
  · rfl
theorem dvd_up (c s : Int) (h1 : 1 ≤ s) : c ≤ (c + s - 1) / s * s ∧ (c + s - 1) / s * s < c + s ∧ ((c + s - 1) / s * s) % s = 0 := by
  refine ⟨?_, ?_, Int.mul_emod_left _ _⟩
  · have := Int.lt_ediv_add_one_mul_self (c + s - 1) (show 0 < s by omega)
    rw [Int.add_mul] at this
    omega
  · have := Int.ediv_mul_le (c + s - 1) (show s ≠ 0 by omega)
    omega
theorem upI_ge (a s : Int) (h1 : 1 ≤ s) (h2 : s ≤ 65536) : clampI a ≤ upI a s := by
  have ha := clampI_bd a
  obtain ⟨d1, d2, d3⟩ := dvd_up (clampI a) s h1
  rw [upI_eq a s h1 h2]
  generalize (clampI a + s - 1) / s * s = y at *
  split
  · omega
  · unfold clampI at *; repeat' split
    all_goals (repeat' split at *) <;> omega
theorem upI_lt (a s : Int) (h1 : 1 ≤ s) (h2 : s ≤ 65536) (h : upI a s < 1099511627776) : upI a s % s = 0 ∧ subI (upI a s) a < s ∧ 0 ≤ upI a s := by
  have ha := clampI_bd a
  obtain ⟨d1, d2, d3⟩ := dvd_up (clampI a) s h1
  have e := upI_eq a s h1 h2
  by_cases hc : clampI a = 1099511627776
  · rw [if_pos hc] at e; omega
  rw [if_neg hc] at e
  have e2 : upI a s = (clampI a + s - 1) / s * s := by
    generalize (clampI a + s - 1) / s * s = y at *
    rw [e] at h ⊢
    unfold clampI at h ⊢; repeat' split
    all_goals (repeat' split at h) <;> omega
  rw [e2] at h ⊢
  generalize (clampI a + s - 1) / s * s = y at *
  refine ⟨d3, ?_, by omega⟩
  unfold subI
  rw [clampI_id (n := y) (by omega) (by omega), if_neg hc, if_neg (by omega), clampI_id (by omega) (by omega)]
  omega
theorem upI_up (a s : Int) (h1 : 1 ≤ s) (h2 : s ≤ 65536) : upI (upI a s) s = upI a s := by
  have hb : 0 ≤ upI a s ∧ upI a s ≤ 1099511627776 := by
    rw [upI_eq a s h1 h2]; split
    · omega
    · exact clampI_bd _
  have e := upI_eq (upI a s) s h1 h2
  rw [clampI_id hb.1 hb.2] at e
  by_cases h : upI a s = 1099511627776
  · rw [e, if_pos h, h]
  · obtain ⟨l1, l2, l3⟩ := upI_lt a s h1 h2 (by omega)
    rw [e, if_neg h, up_rest h1 l1, clampI_id hb.1 hb.2]

set_option maxHeartbeats 400000 in
theorem steps_walk (hone : OneHolds) (a s0 n0 : Int) (w : World) :
    Calls Try.prog 8 #[.int .i64 a, .int .i64 s0, .int .i64 n0] w fun e w' => e = .returned (.bool true) ∧ Below w.heap.size w w' := by
  have hm := mask_65535 s0
  have hn := mask_63 n0
  have m0 := Int.emod_nonneg s0 (show (65536 : Int) ≠ 0 by decide)
  have m1 := Int.emod_lt_of_pos s0 (show (0 : Int) < 65536 by decide)
  have n2 := Int.emod_nonneg n0 (show (64 : Int) ≠ 0 by decide)
  have n1 := Int.emod_lt_of_pos n0 (show (0 : Int) < 64 by decide)
  generalize s0 % 65536 = m at *
  obtain ⟨n, e⟩ := Int.eq_ofNat_of_zero_le n2
  rw [e] at hn n1 n2
  clear e
  have h1 : 1 ≤ 1 + m := by omega
  have h2 : 1 + m ≤ 65536 := by omega
  have f1 : decide (upI a (1 + m) < clampI a) = false := by have := upI_ge a (1 + m) h1 h2; simp; omega
  have f2 : (upI (upI a (1 + m)) (1 + m) != upI a (1 + m)) = false := by rw [upI_up a _ h1 h2]; simp
  have hne : ¬ (1 + m = 0) := by omega
  have t0 := timesI_zero a
  have ht : ∀ k : Nat, k = k → True := fun _ _ => trivial
  have h9 : (n : Int) ≤ 9223372036854775807 := by omega
  have hend : (timesI a n == timesI a n) = true := by simp
  have hs : Hid (∀ k : Nat, addI (timesI a k) a = timesI a ((k : Int) + 1)) := timesI_succ a
  clear ht
  by_cases h : upI a (1 + m) < 1099511627776
  · obtain ⟨l1, l2, l3⟩ := upI_lt a _ h1 h2 h
    have f3 : (upI a (1 + m) % (1 + m) != 0) = false := by simp [l1]
    have f4 : decide (1 + m ≤ subI (upI a (1 + m)) a) = false := by simp; omega
    clear l1
    go_enter Try.func8, Try.ntmps8
    go_wp2_with (first
      | (go_at_call 13; refine (clamp_any _ _).mono ?_; rintro e w' ⟨rfl, rfl⟩)
      | (go_at_call 21; refine (up_any _ _ _).mono ?_; rintro e w' ⟨rfl, rfl⟩)
      | (go_at_call 17; refine (sub_any _ _ _).mono ?_; rintro e w' ⟨rfl, rfl⟩))
    go_loop [8, 9] (fun x i => ∃ k : Nat, k ≤ n ∧ i = .int .i64 k ∧ x = .int .i64 (timesI a k)) (fun _ i => n - (intOf i).toNat)
    case atStart => exact ⟨0, Nat.zero_le _, rfl, by rw [show ((0 : Nat) : Int) = 0 from rfl, t0]⟩
    case round =>
      obtain ⟨k, hk, rfl, rfl⟩ := hrel
      by_cases hlt : k < n
      · go_wp2_with (go_at_call 15; refine (add_any _ _ _).mono ?_; rintro e w' ⟨rfl, rfl⟩)
        go_round
        case rel => exact ⟨k + 1, by omega, by go_num, by rw [hs.out k]; go_num⟩
        case measure => simp [intOf]; omega
      · have hkn : k = n := by omega
        subst hkn
        go_wp2_with (first
          | (go_at_call 19; refine (times_any _ _ h9 _).mono ?_; rintro e w' ⟨rfl, rfl⟩)
          | (go_at_call 23; refine (hone _).mono ?_; rintro e w' ⟨rfl, hb⟩))
        go_ret
        exact ⟨rfl, hb⟩
  · go_enter Try.func8, Try.ntmps8
    go_wp2_with (first
      | (go_at_call 13; refine (clamp_any _ _).mono ?_; rintro e w' ⟨rfl, rfl⟩)
      | (go_at_call 21; refine (up_any _ _ _).mono ?_; rintro e w' ⟨rfl, rfl⟩)
      | (go_at_call 17; refine (sub_any _ _ _).mono ?_; rintro e w' ⟨rfl, rfl⟩))
    go_loop [8, 9] (fun x i => ∃ k : Nat, k ≤ n ∧ i = .int .i64 k ∧ x = .int .i64 (timesI a k)) (fun _ i => n - (intOf i).toNat)
    case atStart => exact ⟨0, Nat.zero_le _, rfl, by rw [show ((0 : Nat) : Int) = 0 from rfl, t0]⟩
    case round =>
      obtain ⟨k, hk, rfl, rfl⟩ := hrel
      by_cases hlt : k < n
      · go_wp2_with (go_at_call 15; refine (add_any _ _ _).mono ?_; rintro e w' ⟨rfl, rfl⟩)
        go_round
        case rel => exact ⟨k + 1, by omega, by go_num, by rw [hs.out k]; go_num⟩
        case measure => simp [intOf]; omega
      · have hkn : k = n := by omega
        subst hkn
        go_wp2_with (first
          | (go_at_call 19; refine (times_any _ _ h9 _).mono ?_; rintro e w' ⟨rfl, rfl⟩)
          | (go_at_call 23; refine (hone _).mono ?_; rintro e w' ⟨rfl, hb⟩))
        go_ret
        exact ⟨rfl, hb⟩
end Go.Proofs.Ytjpjlfdlhhnpnaa
