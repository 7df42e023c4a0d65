/- A disk that is made; another one that is as it is. No condition. -/
import Derived.Test.YtemkjgohpihigaaDkC
namespace Go.Proofs.Ytemkjgohpihigaa
set_option linter.unusedVariables false
open Go.ChangeShapes Go.WideShapes Go.ChangeAt Go.RowKit
attribute [local go_sem ↓] Go.wp_at_zero Go.wp_at_succ comesTo_value_eq comesTo_skip_eq comesTo_enter_eq

def newF : DS := { b := fun _ => [], s := fun _ => 0, left := -1, down := false }
def Made (w : World) (st : DS) (e : Ending) (w' : World) : Prop := ∃ D, e = .returned (.pointer (some ⟨D, 0, none⟩)) ∧ Dk w' D (fun j => w.heap.size ≤ j) st ∧ Below w.heap.size w w'
theorem new_any (w : World) : Calls Try.prog 4 #[] w fun e w' => Made w newF e w' := by
  go_enter Try.func4, Try.ntmps4
  go_wp2
  go_ret
  refine ⟨w.heap.size, rfl, ⟨Nat.le_refl _, fun k _ => by show (0 : Nat) ≤ _; decide, fun k _ => Nat.le_refl _, ⟨by decide, by decide⟩, fun _ => .slice none 0 0, 0, false, World.alloc_heap_new w _, ⟨fun k _ => OwnTxt.nil, (fun k g _ h => by cases h), (fun k j g _ _ _ h => by cases h)⟩, .inr ⟨rfl, rfl⟩⟩, below_alloc (Below.refl _ w) _⟩
/-- in the midst of a clone: k rows are copied -/
structure CloneAt (w : World) (v : Nat → Value) (st : DS) (lf : Int) (ar : Bool) (k : Nat) (u : Nat → Value) (wr : World) : Prop where
  blk : wr.heap[w.heap.size]? = some (.cells (dkCells u st.s lf ar st.down) 49 (0, 0))
  rest : ∀ j, k ≤ j → u j = v j
  own : ∀ j, j < k → OwnTxt wr 0 (u j) (st.b j)
  foot : ∀ j g, j < k → (u j).ownBlock = some g → w.heap.size < g
  apart : ∀ j i g, j < k → i < k → i ≠ j → (u j).ownBlock = some g → (u i).ownBlock ≠ some g
  below : Below w.heap.size w wr
def CloneMid (w : World) (v : Nat → Value) (st : DS) (lf : Int) (ar : Bool) (k : Nat) (wr : World) : Prop := ∃ u, CloneAt w v st lf ar k u wr
theorem CloneAt.next {w wr w0 w1 w2 : World} {v u : Nat → Value} {st : DS} {lf : Int} {ar : Bool} {k : Nat} {x : Value} (h : CloneAt w v st lf ar k u wr) (h0 : Below wr.heap.size wr w0) (hx : OwnTxt w1 w0.heap.size x (st.b k))
    (hg : Below w0.heap.size w0 w1) (cs : Array Value) (hcs : cs = dkCells (upd u k x) st.s lf ar st.down) (hw : WroteTo w.heap.size 49 cs w1 w2) : CloneAt w v st lf ar (k + 1) (upd u k x) w2 := by
  subst hcs
  have hO : w.heap.size < wr.heap.size := (Array.getElem?_eq_some_iff.1 h.blk).1
  have hb1 : Below wr.heap.size wr w1 := h0.trans (hg.mono h0.size)
  have hxg : ∀ g, x.ownBlock = some g → wr.heap.size ≤ g := fun g e => Nat.le_trans h0.size (hx.blockGe e)
  refine ⟨hw.there, fun j hj => by rw [upd_ne _ _ (by omega)]; exact h.rest j (by omega), fun j hj => ?_, fun j g hj e => ?_, fun j i g hj hi hne e e' => ?_, ?_⟩
  · by_cases hjk : j = k
    · subst hjk; rw [upd_at]
      exact (hx.base (Nat.zero_le _)).of_block fun g e => hw.rest g (by have := hxg g e; omega)
    · rw [upd_ne _ _ hjk]
      have hj' : j < k := by omega
      exact ((h.own j hj').below hb1).of_block fun g e => hw.rest g (by have := h.foot j g hj' e; omega)
  · by_cases hjk : j = k
    · subst hjk; rw [upd_at] at e; have := hxg g e; omega
    · rw [upd_ne _ _ hjk] at e; exact h.foot j g (by omega) e
  · by_cases hjk : j = k
    · subst hjk; rw [upd_at] at e; rw [upd_ne _ _ hne] at e'
      have := hxg g e; have := ownBlock_lt (h.own i (by omega)) e'; omega
    · rw [upd_ne _ _ hjk] at e
      by_cases hik : i = k
      · subst hik; rw [upd_at] at e'
        have := hxg g e'; have := ownBlock_lt (h.own j (by omega)) e; omega
      · rw [upd_ne _ _ hik] at e'
        exact h.apart j i g (by omega) (by omega) hne e e'
  · have hbx := h.below.trans (hb1.mono (by omega))
    exact ⟨hw.os.trans hbx.os, hw.tape.trans hbx.tape, hw.output.trans hbx.output, by rw [hw.size]; exact hbx.size, fun j hj => (hw.rest j (by omega)).trans (hbx.block j hj)⟩
end Go.Proofs.Ytemkjgohpihigaa
