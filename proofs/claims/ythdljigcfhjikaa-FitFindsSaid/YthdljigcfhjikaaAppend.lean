/- append of bytes to a slice of bytes that the call has made itself; what such a slice holds, as a text. No condition but the lengths' bound. -/
import Derived.Test.YthdljigcfhjikaaTxt
import Derived.Laws.AppendOwnNone
import Derived.OwnWalk
namespace Go.Proofs.Ythdljigcfhjikaa
set_option linter.unusedVariables false
open Go.ChangeShapes Go.WideShapes Go.ChangeAt Go.RowKit

theorem info_u8 : (Try.prog.info? 5).map (fun i => (i.zero, i.size, i.bytes)) = some (some (.int .u8 0), 1, 1) := by kernel_rfl
/-- numbers as the cells of bytes -/
def cellsOf8 (xs : List Int) : List Value := xs.map (Value.int .u8)
theorem cellsOf8_append (xs ys : List Int) : cellsOf8 (xs ++ ys) = cellsOf8 xs ++ cellsOf8 ys := by simp [cellsOf8]
/-- a slice of bytes of the call's own, from block B on -/
structure OwnTxt (w : World) (B : Nat) (v : Value) (xs : List Int) : Prop where
  own : w.ownsRow B 5 1 v xs.length (cellsOf8 xs)
  lo : ∀ k, k < xs.length → 0 ≤ xs.getD k 0
  hi : ∀ k, k < xs.length → xs.getD k 0 ≤ 255
theorem OwnTxt.len {w : World} {B : Nat} {v : Value} {xs : List Int} (h : OwnTxt w B v xs) : xs.length ≤ 9223372036854775807 := by
  rcases h.own.2 with ⟨_, h0⟩ | ⟨g, cap, cur, _, _, _, h1, h2, _⟩
  · omega
  · unfold maxLen at h2; omega
theorem OwnTxt.at {w : World} {B : Nat} {v : Value} {xs : List Int} (h : OwnTxt w B v xs) : TxtAt w v xs := by
  have hlen := h.len
  by_cases h0 : xs.length = 0
  · have hx : xs = [] := List.eq_nil_of_length_eq_zero h0
    subst hx
    rcases h.own.2 with ⟨rfl, _⟩ | ⟨g, cap, cur, rfl, _⟩
    · exact .inr ⟨rfl, none, 0, rfl, fun _ => rfl⟩
    · exact .inr ⟨rfl, some _, cap, rfl, fun h => by cases h⟩
  · rcases h.own.2 with ⟨_, h1⟩ | ⟨g, cap, cur, rfl, hb, hg, _⟩
    · omega
    · refine .inl ⟨g, 0, cap, rfl, by omega, ⟨fun k hk => ?_, h.lo, h.hi, hlen⟩⟩
      have := h.own.cells (g := g) rfl k (.int .u8 (xs.getD k 0)) (by simp [cellsOf8, hk])
      have hplain : (⟨g, 0, none⟩ : Addr).add k = ⟨g, 0 + k, none⟩ := by unfold Addr.add; split <;> simp_all
      rwa [hplain] at this
theorem OwnTxt.new {w : World} {B : Nat} (hB : B ≤ w.heap.size) : OwnTxt (w.alloc (.cells #[] 5)) B (.slice (some ⟨w.heap.size, 0, none⟩) 0 0) [] :=
  ⟨⟨rfl, .inr ⟨w.heap.size, 0, #[], rfl, hB, by show (w.heap.push _)[w.heap.size]? = _; simp, Nat.le_refl _, Nat.zero_le _, rfl, rfl⟩⟩, fun k hk => by simp at hk, fun k hk => by simp at hk⟩
theorem OwnTxt.nil {w : World} {B : Nat} : OwnTxt w B (.slice none 0 0) [] :=
  ⟨⟨rfl, .inl ⟨rfl, rfl⟩⟩, fun k hk => by simp at hk, fun k hk => by simp at hk⟩
/-- in a world that has grown by another row -/
theorem OwnTxt.below {w w' : World} {B : Nat} {v : Value} {xs : List Int} (h : OwnTxt w B v xs) (hb : Below w.heap.size w w') : OwnTxt w' B v xs := by
  refine ⟨⟨h.own.1, ?_⟩, h.lo, h.hi⟩
  rcases h.own.2 with hn | ⟨g, cap, cur, hv, hB, hg, rest⟩
  · exact .inl hn
  · refine .inr ⟨g, cap, cur, hv, hB, ?_, rest⟩
    have hlt : g < w.heap.size := by
      rcases Nat.lt_or_ge g w.heap.size with h | h
      · exact h
      · rw [Array.getElem?_eq_none h] at hg; cases hg
    rw [hb.block g hlt]; exact hg

section
variable {ops : Array Oper} {rest : List Oper} {o : Oper} {a : Act} {w : World} {Q : Exit → Act → World → Prop}
end
end Go.Proofs.Ythdljigcfhjikaa
