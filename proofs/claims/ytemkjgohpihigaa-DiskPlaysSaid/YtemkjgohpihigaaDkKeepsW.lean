/- DiskKeeps walked at any arguments. No condition. -/
import Derived.Test.YtemkjgohpihigaaDkKeeps2
namespace Go.Proofs.Ytemkjgohpihigaa
set_option linter.unusedVariables false
open Go.ChangeShapes Go.WideShapes Go.ChangeAt Go.RowKit

theorem TxtAt.take {w : World} {ad : Option Addr} {n c : Nat} {zs : List Int} (h : TxtAt w (.slice ad n c) zs) (hn : zs.length = n) {k : Nat} (hk : k ≤ n) : TxtAt w (.slice ad k c) (zs.take k) := by
  have hl : (zs.take k).length = k := by simp; omega
  have hg : ∀ j, j < k → (zs.take k).getD j 0 = zs.getD j 0 := fun j hj => by simp [List.getD, List.getElem?_take, hj]
  rcases h with ⟨b, off, cap, h1, h2, h3⟩ | ⟨rfl, a, cap, h1, h2⟩
  · cases h1
    by_cases h0 : k = 0
    · subst h0
      exact .inr ⟨by simp, _, _, rfl, fun h => by cases h⟩
    · refine .inl ⟨b, off, c, by rw [hl], by omega, ⟨fun j hj => ?_, fun j hj => ?_, fun j hj => ?_, by have := h3.len; omega⟩⟩
      · rw [hl] at hj; rw [hg j hj]; exact h3.cell j (by omega)
      · rw [hl] at hj; rw [hg j hj]; exact h3.lo j (by omega)
      · rw [hl] at hj; rw [hg j hj]; exact h3.hi j (by omega)
  · cases h1
    obtain rfl : k = 0 := by simp at hn; omega
    exact .inr ⟨rfl, _, _, rfl, h2⟩
end Go.Proofs.Ytemkjgohpihigaa
