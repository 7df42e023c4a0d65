/- An array of five one-cell elements, as the reader reads it: taken apart. No condition. -/
import Derived.Laws.IdiomArrays
import Derived.Test.YtdamemdfehopeaaDoorRows
namespace Go.Proofs.YtdamemdfehopeaaDoor
set_option linter.unusedVariables false
open Go Go.ChangeShapes
theorem array5 {α : Type} {cs : Array α} (h : cs.size = 5) : ∃ c0 c1 c2 c3 c4, cs = #[c0, c1, c2, c3, c4] := by
  obtain ⟨l⟩ := cs
  match l, h with
  | [c0, c1, c2, c3, c4], _ => exact ⟨c0, c1, c2, c3, c4, rfl⟩
theorem trod_array5 {H : Type} {enc : TypeId × Value → H} {P : Program} {w : World} {base : Nat} {spare : Nat → Bool} {held : Bool} {t e : TypeId} {fuel : Nat} {c0 c1 c2 c3 c4 : Value} {x : DataW H × List MemPlace} (ht : P.underlying t = some (.array 5 e)) (hce : P.cellsOf e = 1)
    (h : DataW.trod enc P w base spare held fuel t [c0, c1, c2, c3, c4] = some x) :
    ∃ (y0 y1 y2 y3 y4 : DataW H × List MemPlace) (n : Nat), True ∧ DataW.trod enc P w base spare held n e [c0] = some y0 ∧ DataW.trod enc P w base spare held n e [c1] = some y1 ∧ DataW.trod enc P w base spare held n e [c2] = some y2 ∧ DataW.trod enc P w base spare held n e [c3] = some y3 ∧ DataW.trod enc P w base spare held n e [c4] = some y4 := by
  cases fuel with
  | zero => simp [DataW.trod] at h
  | succ n =>
    unfold DataW.trod at h
    rw [ht] at h
    simp [show List.range 5 = [0, 1, 2, 3, 4] from rfl, hce] at h
    obtain ⟨_, h⟩ := h
    have key : ∀ c : Value, DataW.trod enc P w base spare held n e [c] = none ∨ ∃ y, DataW.trod enc P w base spare held n e [c] = some y := fun c => by
      cases DataW.trod enc P w base spare held n e [c] with
      | none => exact .inl rfl
      | some y => exact .inr ⟨y, rfl⟩
    rcases key c0 with h0 | ⟨y0, h0⟩
    · simp [h0] at h
    rcases key c1 with h1 | ⟨y1, h1⟩
    · simp [h0, h1] at h
    rcases key c2 with h2 | ⟨y2, h2⟩
    · simp [h0, h1, h2] at h
    rcases key c3 with h3 | ⟨y3, h3⟩
    · simp [h0, h1, h2, h3] at h
    rcases key c4 with h4 | ⟨y4, h4⟩
    · simp [h0, h1, h2, h3, h4] at h
    exact ⟨y0, y1, y2, y3, y4, n, trivial, h0, h1, h2, h3, h4⟩
end Go.Proofs.YtdamemdfehopeaaDoor
