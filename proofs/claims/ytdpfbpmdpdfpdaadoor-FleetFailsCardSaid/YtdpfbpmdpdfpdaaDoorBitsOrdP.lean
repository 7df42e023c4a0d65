/- The least ones of a set, ahead of the others. Plain facts, no condition. -/
import Derived.Test.YtdpfbpmdpdfpdaaDoorBitsToks
namespace Go.Proofs.YtdpfbpmdpdfpdaaDoor
set_option linter.unusedVariables false
open Go

theorem hasI_or' (a b : NSet) (n : Int) : hasI (a ||| b) n = (hasI a n || hasI b n) := by
  unfold hasI; rw [BitVec.getLsbD_or]
  cases decide (0 ≤ n) <;> simp
theorem hasI_oneI (m n : Int) : hasI (oneI m) n = true ↔ m = n ∧ 0 ≤ n ∧ n < 64 := by
  unfold hasI
  rw [oneI_get]
  simp only [Bool.and_eq_true, decide_eq_true_eq]
  constructor
  · rintro ⟨h0, h1, h2⟩; exact ⟨by omega, h0, by omega⟩
  · rintro ⟨rfl, h0, h1⟩; exact ⟨h0, by omega, by omega⟩
theorem hasI_diff (a b : NSet) (n : Int) : hasI (a &&& ~~~b) n = true ↔ hasI a n = true ∧ ¬ hasI b n = true := by
  constructor
  · intro h
    have hl := hasI_lt h
    obtain ⟨h0, h1⟩ := (hasI_iff _ n).1 h
    rw [get_diff _ _ _ (by omega)] at h1
    simp only [Bool.and_eq_true, Bool.not_eq_true'] at h1
    refine ⟨(hasI_iff a n).2 ⟨h0, h1.1⟩, fun hb => ?_⟩
    have := ((hasI_iff b n).1 hb).2
    rw [h1.2] at this; cases this
  · rintro ⟨ha, hb⟩
    have hl := hasI_lt ha
    obtain ⟨h0, h1⟩ := (hasI_iff _ n).1 ha
    refine (hasI_iff _ n).2 ⟨h0, ?_⟩
    rw [get_diff _ _ _ (by omega)]
    simp only [Bool.and_eq_true, Bool.not_eq_true']
    refine ⟨h1, ?_⟩
    cases h : b.getLsbD n.toNat with
    | false => rfl
    | true => exact absurd ((hasI_iff b n).2 ⟨h0, h⟩) hb
theorem tk_low (s : NSet) : ∀ (k : Nat) (i j : Int), hasI (tk k s) i = true → hasI (s &&& ~~~ tk k s) j = true → i < j
  | 0, i, j, h, _ => by
    rw [show tk 0 s = 0#64 from rfl] at h
    simp [hasI] at h
  | k + 1, i, j, hi, hj => by
    rw [show tk (k + 1) s = tk k s ||| oneI (lowI (s &&& ~~~ tk k s)) from rfl] at hi hj
    obtain ⟨hj1, hj2⟩ := (hasI_diff _ _ _).1 hj
    have hj3 : ¬ hasI (tk k s) j = true := fun h => hj2 (by rw [hasI_or', h]; rfl)
    have hjd := (hasI_diff s (tk k s) j).2 ⟨hj1, hj3⟩
    rw [hasI_or'] at hi
    rcases Bool.or_eq_true _ _ ▸ hi with h | h
    · exact tk_low s k i j h hjd
    · obtain ⟨e, h0, h6⟩ := (hasI_oneI _ _).1 h
      have hne : s &&& ~~~ tk k s ≠ 0#64 := fun e0 => by rw [e0] at hjd; simp [hasI] at hjd
      have hle := low_le hne hjd
      have : ¬ i = j := by
        rintro rfl
        exact hj2 (by rw [hasI_or', h, Bool.or_true])
      omega
/-- one of the least ones, and the least of the others -/
theorem tk_rest (s : NSet) (k : Nat) (i : Int) (hi : hasI (tk k s) i = true) : lowI (s &&& ~~~ tk k s) < 0 ∨ i < lowI (s &&& ~~~ tk k s) := by
  by_cases h : s &&& ~~~ tk k s = 0#64
  · left; rw [h]; decide
  · exact .inr (tk_low s k i _ hi (hasI_low h))
theorem lowI_neg (s : NSet) : decide (lowI s < 0) = decide (s = 0#64) := by
  by_cases h : s = 0#64
  · subst h; decide
  · have := low_lt h
    have h1 : ¬ lowI s < 0 := by omega
    simp [h, h1]
end Go.Proofs.YtdpfbpmdpdfpdaaDoor
