/- Rows of uint64s of the call's own; rows of ints that may be read. No condition but what is said of each. -/
import Derived.Test.YtkllhnfnkgkelaaDoorBitsRow
import Derived.Laws.OwnMore
import Derived.OwnWalk
namespace Go.Proofs.YtkllhnfnkgkelaaDoor
set_option linter.unusedVariables false
open Go.ChangeShapes Go.WideShapes Go.ChangeAt Go.RowKit

theorem infoU64 : (Tryd.prog.info? 22).map (fun i => (i.zero, i.size, i.bytes)) = some (some (.int .u64 0), 1, 8) := by kernel_rfl
/-- a row of ints of the call's own, from block B on -/
def OwnU (w : World) (B : Nat) (v : Value) (l : List Int) : Prop := w.ownsRow B 22 1 v l.length (l.map (Value.int .u64))
theorem OwnU.below {w w' : World} {B : Nat} {v : Value} {l : List Int} (h : OwnU w B v l) (hb : Below w.heap.size w w') : OwnU w' B v l := by
  refine ⟨h.1, ?_⟩
  rcases h.2 with hn | ⟨g, cap, cur, hv, hB, hg, rest⟩
  · exact .inl hn
  · refine .inr ⟨g, cap, cur, hv, hB, ?_, rest⟩
    rw [hb.block g (Array.getElem?_eq_some_iff.1 hg).1]; exact hg
theorem OwnU.nil {w : World} {B : Nat} : OwnU w B (.slice none 0 0) [] := ⟨rfl, .inl ⟨rfl, rfl⟩⟩
theorem OwnU.mono {w : World} {B B' : Nat} {v : Value} {l : List Int} (h : OwnU w B v l) (hb : B' ≤ B) : OwnU w B' v l := by
  refine ⟨h.1, ?_⟩
  rcases h.2 with hn | ⟨g, cap, cur, hv, hB, rest⟩
  · exact .inl hn
  · exact .inr ⟨g, cap, cur, hv, by omega, rest⟩
/-- a row of ints that may be read -/
def ReadsU (w : World) (v : Value) (l : List Int) : Prop :=
  (l = [] ∧ ∃ a c, v = .slice a 0 c) ∨ (0 < l.length ∧ l.length ≤ 9223372036854775807 ∧ ∃ g o c, v = .slice (some ⟨g, o, none⟩) l.length c ∧ l.length ≤ c ∧ ∀ k, k < l.length → w.cell? ⟨g, o + k, none⟩ = some (.int .u64 (l.getD k 0)))
theorem ReadsU.below {w w' : World} {v : Value} {l : List Int} (h : ReadsU w v l) (hb : Below w.heap.size w w') : ReadsU w' v l := by
  rcases h with h | ⟨h0, h1, g, o, c, hv, hcap, hc⟩
  · exact .inl h
  · exact .inr ⟨h0, h1, g, o, c, hv, hcap, fun k hk => (hb.cell (p := ⟨g, o + k, none⟩) (World.block_lt_of_cell? w _ (hc k hk))).trans (hc k hk)⟩
theorem OwnU.ints {w : World} {B : Nat} {v : Value} {l : List Int} (h : OwnU w B v l) : ReadsU w v l := by
  rcases h.2 with ⟨hv, h0⟩ | ⟨g, cap, cur, rfl, hB, hg, hn, hm, hz, ht⟩
  · exact .inl ⟨List.length_eq_zero_iff.1 h0, none, 0, hv⟩
  · by_cases hl : l = []
    · subst hl; exact .inl ⟨rfl, _, _, rfl⟩
    · have hpos : 0 < l.length := by cases l with | nil => exact absurd rfl hl | cons _ _ => simp
      refine .inr ⟨hpos, by unfold maxLen at hm; omega, g, 0, cap, rfl, hn, fun k hk => ?_⟩
      have := h.cells (g := g) rfl k (.int .u64 (l.getD k 0)) (by simp [List.getD, List.getElem?_eq_getElem hk])
      have hadd : (⟨g, 0, none⟩ : Addr).add k = ⟨g, k, none⟩ := by unfold Addr.add; split <;> simp_all
      rw [hadd] at this
      rw [Nat.zero_add]; exact this
section
variable {ops : Array Oper} {rest : List Oper} {o : Oper} {a : Act} {w : World} {Q : Exit → Act → World → Prop}
/-- APPEND of one int -/
theorem wpList_append_u64 (T : TypeId) (hT : Tryd.prog.underlying T = some (.slice 22)) (hgd : o.guard = none) (s x : Operand)
    (ho : o.op = .call { callee := .builtin .append, args := #[s, x], argTypes := #[T, T] })
    (B : Nat) (v : Value) (l : List Int) (hs : a.eval s = v) (hown : OwnU w B v l) (g c : Nat) (n : Int) (hx : a.eval x = .slice (some ⟨g, 0, none⟩) 1 c)
    (c0 : w.cell? ⟨g, 0, none⟩ = some (.int .u64 n)) (h63 : l.length + 1 ≤ 1099511627776) (hB : B ≤ w.heap.size)
    (h : ∀ (v' : Value) (w' : World), OwnU w' B v' (l ++ [n]) → Below B w w' → wpList Tryd.prog ops Q rest (a.put o.dst v') w') : wpList Tryd.prog ops Q (o :: rest) a w := by
  obtain ⟨i0, hi, hz0, hz1, hz2⟩ := info_parts infoU64
  have hblk : ∀ k, v.ownBlock = some k → B ≤ k := fun k hk => by
    rcases hown.2 with ⟨rfl, _⟩ | ⟨g, cap, cur, rfl, hg, _⟩
    · cases hk
    · simp only [Value.ownBlock, Option.some.injEq] at hk; omega
  refine wpList_append_own _ hgd s x T ho B 22 i0 (.int .u64 0) 1 8 hT hi hz0 hz1 hz2 rfl (by decide) v l.length (l.map (Value.int .u64)) hs hown
      ⟨g, 0, none⟩ 1 c [.int .u64 n] hx rfl (fun j u hj => ?_) (fun u hu => ?_) (by unfold maxLen; omega) (by omega) hB (fun v' w' h1 h2 _ => ?_)
  · match j, hj with
    | 0, hj => simp at hj; subst hj; simpa [Addr.add] using c0
    | j + 1, hj => simp at hj
  · simp at hu
    subst hu; rfl
  · exact h v' w' (by unfold OwnU; rw [List.length_append, List.map_append]; exact h1) (Below.grown (Below.refl _ _) h2 hB hblk)
end
theorem OwnU.form {w : World} {B : Nat} {v : Value} {l : List Int} (h : OwnU w B v l) : ∃ a c, v = .slice a l.length c := by
  rcases h.2 with ⟨hv, h0⟩ | ⟨g, cap, cur, hv, _⟩
  · exact ⟨none, 0, by rw [hv, h0]⟩
  · exact ⟨_, cap, hv⟩
end Go.Proofs.YtkllhnfnkgkelaaDoor
