/- Texts and lists of numbers laid behind bytes. No condition but the lengths' bound. -/
import Derived.Test.YtomhfnaekjmjnaaDoorCurL
import Derived.Lib.AppendStr
namespace Go.Proofs.YtomhfnaekjmjnaaDoor
set_option linter.unusedVariables false
open Go.ChangeShapes Go.WideShapes Go.ChangeAt Go.RowKit Go.Lib
attribute [local go_sem ↓] Go.wp_at_zero Go.wp_at_succ comesTo_value_eq comesTo_skip_eq comesTo_enter_eq

theorem strCells_bytes (s : ByteArray) : strCells s = cellsOf8 (bytesOf s) := by
  unfold strCells cellsOf8 bytesOf
  simp
theorem bytesOf_in (s : ByteArray) : ∀ x ∈ bytesOf s, 0 ≤ x ∧ x ≤ 255 := by
  intro x hx
  obtain ⟨y, _, rfl⟩ := List.mem_map.1 hx
  have := y.toNat_lt
  omega
theorem getD_in {xs : List Int} (h : ∀ x ∈ xs, 0 ≤ x ∧ x ≤ 255) (k : Nat) (hk : k < xs.length) : 0 ≤ xs.getD k 0 ∧ xs.getD k 0 ≤ 255 := by
  have := h _ (List.getElem_mem hk)
  simpa [List.getD, List.getElem?_eq_getElem hk] using this
theorem OwnTxt.mem {w : World} {B : Nat} {v : Value} {xs : List Int} (h : OwnTxt w B v xs) : ∀ x ∈ xs, 0 ≤ x ∧ x ≤ 255 := by
  intro x hx
  obtain ⟨k, hk, rfl⟩ := List.mem_iff_getElem.1 hx
  have h1 := h.lo k hk
  have h2 := h.hi k hk
  simp [List.getD, List.getElem?_eq_getElem hk] at h1 h2
  exact ⟨h1, h2⟩
theorem flat_len : ∀ (m : List Int), (∀ x ∈ m, -9223372036854775808 ≤ x ∧ x ≤ 9223372036854775807) → (m.flatMap putI).length ≤ 10 * m.length
  | [], _ => by simp
  | x :: m, hm => by
    have h1 := flat_len m fun y hy => hm y (List.mem_cons_of_mem _ hy)
    have h2 := putI_len (hm x List.mem_cons_self)
    simp only [List.flatMap_cons, List.length_append, List.length_cons]
    omega
end Go.Proofs.YtomhfnaekjmjnaaDoor
