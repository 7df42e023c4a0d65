/- The walk of ShareSplits. No condition but that arguments fit their kinds. -/
import Derived.Test.YtmpknjlfabpipaaShareC
import Derived.Test.YtmpknjlfabpipaaMask
namespace Go.Proofs.Ytmpknjlfabpipaa
set_option linter.unusedVariables false
open Go.ChangeShapes Go.WideShapes Go.ChangeAt Go.RowKit
attribute [local go_sem ↓] Go.wp_at_zero Go.wp_at_succ comesTo_value_eq comesTo_skip_eq comesTo_enter_eq

theorem at_still {u s n h : Int} (u0 : 0 ≤ u) (u1 : u ≤ 1125899906842624) (s0 : 0 ≤ s) (s1 : s ≤ 1099511627776) (hn : clampI n - s < halfI h) : atI u s n h = (u, s) := by
  have hk : kI s (clampI n) (halfI h) = 0 := by
    unfold kI
    split
    · rfl
    · exact Int.ediv_eq_zero_of_lt (by omega) hn
  unfold atI
  rw [cntI_id u0 u1, clampI_id s0 s1, hk, shI_zero]
  simp
theorem at_near (u s n h : Int) : clampI n - (atI u s n h).2 < halfI h := by
  have hb := halfI_bd h
  show clampI n - (clampI s + kI (clampI s) (clampI n) (halfI h) * halfI h) < halfI h
  unfold kI
  split
  · simp; omega
  · have h1 := Int.emod_lt_of_pos (clampI n - clampI s) (show 0 < halfI h by omega)
    have h2 := Int.emod_add_mul_ediv (clampI n - clampI s) (halfI h)
    have h3 := Int.mul_comm (halfI h) ((clampI n - clampI s) / halfI h)
    omega
theorem charge_bd (u s n h x : Int) : (0 ≤ (chargeI u s n h x).1 ∧ (chargeI u s n h x).1 ≤ 1125899906842624) ∧ (0 ≤ (chargeI u s n h x).2 ∧ (chargeI u s n h x).2 ≤ 1099511627776) ∧ clampI n - (chargeI u s n h x).2 < halfI h ∧ (0 ≤ x → (atI u s n h).1 ≤ (chargeI u s n h x).1) ∧ (1 ≤ x → 1 ≤ (chargeI u s n h x).1) := by
  have h1 := cntI_bd ((atI u s n h).1 + cntI x)
  have h2 := (atI_bd u s n h).2.1
  have h3 := clampI_bd n
  have h4 := at_near u s n h
  have h5 := halfI_bd h
  have h6 := (atI_bd u s n h).1
  have h7 : 0 ≤ x → (atI u s n h).1 ≤ cntI ((atI u s n h).1 + cntI x) := fun hx => by unfold cntI; split <;> (try split) <;> (try split) <;> omega
  have h8 : 1 ≤ x → 1 ≤ cntI ((atI u s n h).1 + cntI x) := fun hx => by unfold cntI; split <;> (try split) <;> (try split) <;> omega
  unfold chargeI
  simp only
  refine ⟨h1, ?_, ?_, h7, h8⟩
  · split <;> omega
  · split <;> omega
theorem charge_twice (u s n h x y : Int) (hx : 1 ≤ x) (hx1 : x ≤ 16777216) (hy : 0 ≤ y) (hy1 : y ≤ 16777216) : chargeI (chargeI u s n h x).1 (chargeI u s n h x).2 n h y = chargeI u s n h (x + y) := by
  have hb := charge_bd u s n h x
  have e := at_still hb.1.1 hb.1.2 hb.2.1.1 hb.2.1.2 hb.2.2.1
  have h1 := hb.2.2.2.2 hx
  have ha := (atI_bd u s n h).1
  have hne : ¬ ((chargeI u s n h x).1 = 0 ∧ (chargeI u s n h x).2 = clampI (chargeI u s n h x).2) := by omega
  rw [chargeI, e]
  simp only
  rw [if_neg hne]
  unfold chargeI
  simp only
  refine Prod.ext ?_ rfl
  show cntI (cntI ((atI u s n h).1 + cntI x) + cntI y) = cntI ((atI u s n h).1 + cntI (x + y))
  rw [cntI_id (show 0 ≤ x by omega) (by omega), cntI_id hy (by omega), cntI_id (show 0 ≤ x + y by omega) (by omega)]
  unfold cntI
  repeat' split
  all_goals omega

end Go.Proofs.Ytmpknjlfabpipaa
