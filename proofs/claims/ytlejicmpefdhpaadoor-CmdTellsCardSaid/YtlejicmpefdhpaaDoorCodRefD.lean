/- The document's answers of layer 2: small numbers, texts, the end. No condition but the numbers' bounds. -/
import Derived.Test.YtlejicmpefdhpaaDoorCodRefC
namespace Go.Proofs.YtlejicmpefdhpaaDoor
set_option linter.unusedVariables false
open Go.ChangeShapes Go.WideShapes Go.ChangeAt Go.RowKit Go.Lib
attribute [local go_sem ↓] Go.wp_at_zero Go.wp_at_succ comesTo_value_eq comesTo_skip_eq comesTo_enter_eq

theorem intF_suffix (st : CS) : (intF st).1.xs <:+ st.xs := by
  unfold intF
  split
  · exact scan_suffix _ _ _
  · exact List.suffix_refl _
theorem mem_suffix {xs ys : List Int} (h : xs <:+ ys) (hy : ∀ x ∈ ys, 0 ≤ x ∧ x ≤ 255) : ∀ x ∈ xs, 0 ≤ x ∧ x ≤ 255 := fun x hx => hy x (h.subset hx)
theorem smallF_ref {st st1 : CS} {v most : Int} (h : intF st = (st1, v)) : smallF st most = if st1.bad ≠ 0 then (st1, 0) else if v < 0 ∨ most < v then (⟨[], 2⟩, 0) else (st1, v) := by
  have hb := intF_bad st
  unfold smallF
  rw [h] at hb ⊢
  simp only at hb ⊢
  by_cases h0 : st1.bad = 0
  · rw [if_neg (show ¬ st1.bad ≠ 0 from fun h => h h0)]
    unfold failF
    rw [if_pos h0]
  · rw [if_pos h0]
    rcases hb with hb | ⟨rfl, _⟩
    · exact absurd hb h0
    · unfold failF
      rw [if_neg h0]
      split <;> rfl
theorem smallF_suffix (st : CS) (most : Int) : (smallF st most).1.xs <:+ st.xs := by
  have h := intF_suffix st
  unfold smallF failF
  split
  · split
    · exact List.nil_suffix
    · exact h
  · exact h
end Go.Proofs.YtlejicmpefdhpaaDoor
