/- The document's answers of layer 2: texts, the end. No condition but the numbers' bounds. -/
import Derived.Test.YthflogeaielhlaaGreatDoorMaj
import Derived.Test.YthflogeaielhlaaGreatDoorMam
namespace Go.Proofs.YthflogeaielhlaaGreatDoor
set_option linter.unusedVariables false
open Go.ChangeShapes Go.WideShapes Go.ChangeAt Go.RowKit Go.Lib
attribute [local go_sem ↓] Go.wp_at_zero Go.wp_at_succ comesTo_value_eq comesTo_skip_eq comesTo_enter_eq

theorem textF_ref {st st1 : CS} {n : Nat} (h : smallF st 65536 = (st1, (n : Int))) : textF st = if st1.bad ≠ 0 then (st1, []) else if st1.xs.length < n then (⟨[], 10⟩, []) else (⟨st1.xs.drop n, 0⟩, st1.xs.take n) := by
  have hb := smallF_bad (st := st) (most := 65536)
  unfold textF
  rw [h] at hb ⊢
  simp only at hb ⊢
  by_cases h0 : st1.bad = 0
  · rw [if_neg (show ¬ st1.bad ≠ 0 from fun h => h h0)]
    unfold failF
    rw [if_pos h0, h0]
    by_cases h1 : st1.xs.length < n
    · rw [if_pos h1, if_pos (by omega)]
    · rw [if_neg h1, if_neg (by omega)]
      simp
  · rw [if_pos h0]
    have hn : n = 0 := by have := hb h0; omega
    subst hn
    rw [if_neg (by omega)]
    simp
theorem rend_any (st : CS) (w : World) :
    Calls Tryz.prog 17 #[.agg #[.string (strOfNums st.xs), .int .i64 st.bad]] w fun e w' => e = .returned (.int .i64 (endF st)) ∧ Below w.heap.size w w' := by
  have hA := below_alloc (Below.refl _ w) (.cells #[.string (strOfNums st.xs), .int .i64 st.bad] 53)
  have hl : (strOfNums st.xs).toList = st.xs.map fun n => UInt8.ofNat n.toNat := by rw [ByteArray.toList_eq]; rfl
  unfold endF
  obtain ⟨xs, bd⟩ := st
  simp only at *
  by_cases h0 : bd = 0
  · subst h0
    cases xs with
    | nil =>
      rw [if_neg (by simp)]
      go_enter Tryz.func17, Tryz.ntmps17
      go_wp2
      go_ret
      exact ⟨rfl, hA⟩
    | cons x xs =>
      rw [if_pos (by simp)]
      have hq : ((strOfNums (x :: xs)).toList == []) = false := by rw [hl]; rfl
      generalize strOfNums (x :: xs) = S at *
      clear hl
      go_enter Tryz.func17, Tryz.ntmps17
      go_wp2
      go_ret
      exact ⟨rfl, hA⟩
  · rw [if_neg (by omega)]
    have hq : (bd == 0) = false := by rw [beq_eq_false_iff_ne]; exact h0
    clear hl
    go_enter Tryz.func17, Tryz.ntmps17
    go_wp2
    go_ret
    exact ⟨rfl, hA⟩
end Go.Proofs.YthflogeaielhlaaGreatDoor
