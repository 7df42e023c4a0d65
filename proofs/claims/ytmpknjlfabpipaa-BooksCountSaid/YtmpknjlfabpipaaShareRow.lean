/- Rows of shares, of the call's own and such as came in. No condition but lengths. -/
import Derived.Test.YtmpknjlfabpipaaShareR
import Derived.Laws.OwnMore
import Derived.Laws.AppendOwn
import Derived.OwnWalk
namespace Go.Proofs.Ytmpknjlfabpipaa
set_option linter.unusedVariables false
open Go.ChangeShapes Go.WideShapes Go.ChangeAt Go.RowKit

theorem info_share : (Try.prog.info? 31).map (fun i => (i.zero, i.size, i.bytes)) = some (some (.agg #[.int .i64 0, .int .i64 0]), 2, 16) := by kernel_rfl
/-- shares as cells -/
def flatH : List (Int × Int) → List Value
  | [] => []
  | p :: r => .int .i64 p.1 :: .int .i64 p.2 :: flatH r
theorem flatH_length : ∀ l, (flatH l).length = l.length * 2
  | [] => rfl
  | p :: r => by simp [flatH, flatH_length r]; omega
theorem flatH_append : ∀ l m, flatH (l ++ m) = flatH l ++ flatH m
  | [], _ => rfl
  | p :: r, m => by simp [flatH, flatH_append r m]
theorem flatH_get0 : ∀ (l : List (Int × Int)) (k : Nat), k < l.length → (flatH l)[k * 2]? = some (.int .i64 (l.getD k (0, 0)).1)
  | p :: r, 0, _ => by simp [flatH]
  | p :: r, k + 1, h => by
    have := flatH_get0 r k (by simpa using h)
    rw [show (k + 1) * 2 = k * 2 + 1 + 1 by omega]
    simpa [flatH] using this
theorem flatH_get1 : ∀ (l : List (Int × Int)) (k : Nat), k < l.length → (flatH l)[k * 2 + 1]? = some (.int .i64 (l.getD k (0, 0)).2)
  | p :: r, 0, _ => by simp [flatH]
  | p :: r, k + 1, h => by
    have := flatH_get1 r k (by simpa using h)
    rw [show (k + 1) * 2 + 1 = k * 2 + 1 + 1 + 1 by omega]
    simpa [flatH] using this
/-- a row of shares of the call's own, from block B on -/
def OwnH (w : World) (B : Nat) (v : Value) (l : List (Int × Int)) : Prop := w.ownsRow B 31 2 v l.length (flatH l)
theorem OwnH.below {w w' : World} {B : Nat} {v : Value} {l : List (Int × Int)} (h : OwnH w B v l) (hb : Below w.heap.size w w') : OwnH w' B v l := by
  refine ⟨h.1, ?_⟩
  rcases h.2 with hn | ⟨g, cap, cur, hv, hB, hg, rest⟩
  · exact .inl hn
  · refine .inr ⟨g, cap, cur, hv, hB, ?_, rest⟩
    have hlt : g < w.heap.size := by
      rcases Nat.lt_or_ge g w.heap.size with h | h
      · exact h
      · rw [Array.getElem?_eq_none h] at hg; cases hg
    rw [hb.block g hlt]; exact hg
theorem OwnH.nil {w : World} {B : Nat} : OwnH w B (.slice none 0 0) [] := ⟨rfl, .inl ⟨rfl, rfl⟩⟩

section
variable {ops : Array Oper} {rest : List Oper} {o : Oper} {a : Act} {w : World} {Q : Exit → Act → World → Prop}
/-- APPEND of one share -/
theorem wpList_append_share (hgd : o.guard = none) (s x : Operand)
    (ho : o.op = .call { callee := .builtin .append, args := #[s, x], argTypes := #[63, 63] })
    (B : Nat) (v : Value) (l : List (Int × Int)) (hs : a.eval s = v) (hown : OwnH w B v l) (g c : Nat) (p : Int × Int) (hx : a.eval x = .slice (some ⟨g, 0, none⟩) 1 c)
    (c0 : w.cell? ⟨g, 0, none⟩ = some (.int .i64 p.1)) (c1 : w.cell? ⟨g, 1, none⟩ = some (.int .i64 p.2)) (h63 : l.length + 1 ≤ 1099511627776) (hB : B ≤ w.heap.size)
    (h' : ∀ (ad : Option Addr) (n c : Nat) (w' : World), OwnH w' B (.slice ad n c) (l ++ [p]) → Below B w w' → wpList Try.prog ops Q rest (a.put o.dst (.slice ad n c)) w') : wpList Try.prog ops Q (o :: rest) a w := by
  have h : ∀ v' w', OwnH w' B v' (l ++ [p]) → Below B w w' → wpList Try.prog ops Q rest (a.put o.dst v') w' := fun v' w' h1 h2 => by
    rcases h1.2 with ⟨e, _⟩ | ⟨g, cap, cur, e, _⟩
    · subst e; exact h' none 0 0 w' h1 h2
    · subst e; exact h' _ _ cap w' h1 h2
  obtain ⟨i0, hi, hz0, hz1, hz2⟩ := info_parts info_share
  have hblk : ∀ k, v.ownBlock = some k → B ≤ k := fun k hk => by
    rcases hown.2 with ⟨rfl, _⟩ | ⟨g, cap, cur, rfl, hg, _⟩
    · cases hk
    · simp only [Value.ownBlock, Option.some.injEq] at hk; omega
  refine wpList_append_own _ hgd s x 63 ho B 31 i0 (.agg #[.int .i64 0, .int .i64 0]) 2 16 Try.underlying63 hi hz0 hz1 hz2 rfl (by decide) v l.length (flatH l) hs hown
      ⟨g, 0, none⟩ 1 c (flatH [p]) hx rfl (fun j u hj => ?_) (fun u hu => ?_) (by unfold maxLen; omega) (by omega) hB (fun v' w' h1 h2 _ => ?_)
  · match j, hj with
    | 0, hj => simp [flatH] at hj; subst hj; simpa [Addr.add] using c0
    | 1, hj => simp [flatH] at hj; subst hj; simpa [Addr.add] using c1
    | j + 2, hj => simp [flatH] at hj
  · simp [flatH] at hu
    rcases hu with rfl | rfl <;> rfl
  · exact h v' w' (by unfold OwnH; rw [List.length_append, flatH_append]; exact h1) (Below.grown (Below.refl _ _) h2 hB hblk)
end

theorem OwnH.mono {w : World} {B B' : Nat} {v : Value} {l : List (Int × Int)} (h : OwnH w B v l) (hb : B' ≤ B) : OwnH w B' v l := by
  refine ⟨h.1, ?_⟩
  rcases h.2 with hn | ⟨g, cap, cur, hv, hB, rest⟩
  · exact .inl hn
  · exact .inr ⟨g, cap, cur, hv, by omega, rest⟩
/-- a row of shares in memory -/
structure ShRow (w : World) (b off : Nat) (l : List (Int × Int)) : Prop where
  c0 : ∀ k, k < l.length → w.cell? ⟨b, off + k * 2, none⟩ = some (.int .i64 (l.getD k (0, 0)).1)
  c1 : ∀ k, k < l.length → w.cell? ⟨b, off + k * 2 + 1, none⟩ = some (.int .i64 (l.getD k (0, 0)).2)
theorem ShRow.below {w w' : World} {b off : Nat} {l : List (Int × Int)} (h : ShRow w b off l) (hb : Below w.heap.size w w') : ShRow w' b off l :=
  ⟨fun k hk => (hb.cell (World.block_lt_of_cell? w _ (h.c0 k hk))).trans (h.c0 k hk), fun k hk => (hb.cell (World.block_lt_of_cell? w _ (h.c1 k hk))).trans (h.c1 k hk)⟩
theorem OwnH.row {w : World} {B g n c : Nat} {l : List (Int × Int)} (h : OwnH w B (.slice (some ⟨g, 0, none⟩) n c) l) : ShRow w g 0 l ∧ ∀ j, w.frozen? ⟨g, j, none⟩ = false := by
  have hn : n = l.length := by
    rcases h.2 with ⟨e, _⟩ | ⟨g', cap, cur, e, _⟩ <;> cases e <;> rfl
  subst hn
  refine ⟨⟨fun k hk => ?_, fun k hk => ?_⟩, fun j => h.frozenAt j⟩
  · rw [Nat.zero_add, h.cellAt (k * 2) (by omega), flatH_get0 l k hk]
  · rw [Nat.zero_add, h.cellAt (k * 2 + 1) (by omega), flatH_get1 l k hk]
theorem OwnH.form {w : World} {B : Nat} {v : Value} {l : List (Int × Int)} (h : OwnH w B v l) : ∃ ad c, v = .slice ad l.length c ∧ (0 < l.length → ∃ g, ad = some ⟨g, 0, none⟩ ∧ B ≤ g ∧ g < w.heap.size) := by
  rcases h.2 with ⟨e, h0⟩ | ⟨g, cap, cur, e, hB, hg, _⟩
  · exact ⟨none, 0, by rw [e, h0], fun h => by omega⟩
  · exact ⟨_, cap, e, fun _ => ⟨g, rfl, hB, (Array.getElem?_eq_some_iff.1 hg).1⟩⟩

theorem OwnH.under {w : World} {B q : Nat} {v : Value} {l : List (Int × Int)} (h : OwnH w B v l) (hq : q < B) (u : Value) : OwnH (w.setCell ⟨q, 0, none⟩ u) B v l := ownsRow_setCell_below h hq u
end Go.Proofs.Ytmpknjlfabpipaa
