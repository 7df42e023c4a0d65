/- An array of two one-cell elements, as the reader reads it: taken apart. No condition. -/
import Derived.Laws.IdiomArrays
import Derived.Test.YtnofgffkfapodaaDoorRows
namespace Go.Proofs.YtnofgffkfapodaaDoor
set_option linter.unusedVariables false
open Go Go.ChangeShapes
theorem array2 {α : Type} {cs : Array α} (h : cs.size = 2) : ∃ c0 c1, cs = #[c0, c1] := by
  obtain ⟨l⟩ := cs
  match l, h with
  | [c0, c1], _ => exact ⟨c0, c1, rfl⟩
theorem trod_array2 {H : Type} {enc : TypeId × Value → H} {P : Program} {w : World} {base : Nat} {spare : Nat → Bool} {held : Bool} {t e : TypeId} {fuel : Nat} {c0 c1 : Value} {x : DataW H × List MemPlace} (ht : P.underlying t = some (.array 2 e)) (hce : P.cellsOf e = 1)
    (h : DataW.trod enc P w base spare held fuel t [c0, c1] = some x) :
    ∃ (y0 y1 : DataW H × List MemPlace) (n : Nat), True ∧ DataW.trod enc P w base spare held n e [c0] = some y0 ∧ DataW.trod enc P w base spare held n e [c1] = some y1 := by
  cases fuel with
  | zero => simp [DataW.trod] at h
  | succ n =>
    unfold DataW.trod at h
    rw [ht] at h
    simp [show List.range 2 = [0, 1] from rfl, hce] at h
    obtain ⟨_, h⟩ := h
    have key : ∀ c : Value, DataW.trod enc P w base spare held n e [c] = none ∨ ∃ y, DataW.trod enc P w base spare held n e [c] = some y := fun c => by
      cases DataW.trod enc P w base spare held n e [c] with
      | none => exact .inl rfl
      | some y => exact .inr ⟨y, rfl⟩
    rcases key c0 with h0 | ⟨y0, h0⟩
    · simp [h0] at h
    rcases key c1 with h1 | ⟨y1, h1⟩
    · simp [h0, h1] at h
    exact ⟨y0, y1, n, trivial, h0, h1⟩
end Go.Proofs.YtnofgffkfapodaaDoor
