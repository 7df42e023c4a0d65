/- The walk of SumRuns: any bytes, any running sum. -/
import Derived.Test.YtnmhdodcfbjalaaSumTells
import Derived.Test.YtnmhdodcfbjalaaGrow
namespace Go.Proofs.Ytnmhdodcfbjalaa
set_option linter.unusedVariables false
open Go.ChangeShapes Go.WideShapes Go.ChangeAt Go.RowKit
attribute [local go_sem ↓] Go.wp_at_zero Go.wp_at_succ comesTo_value_eq comesTo_skip_eq comesTo_enter_eq

theorem row_then {W w' : World} {v : Value} {zs : List Int} {t : TypeId} (h : TxtAt W v zs) (hb : Below (W.alloc (.cells #[v] t)).heap.size (W.alloc (.cells #[v] t)) w') : TxtRow w' W.heap.size 0 [v] [zs] := (row1 h).below hb
theorem below_more {W0 W w2 : World} (h : Below W0.heap.size W0 W) (hb : Below W.heap.size W w2) : Below W0.heap.size W0 w2 := h.trans (hb.mono h.size)
theorem takeI_one (P Q x : Int) : takeI P Q [x] = sumSt (P, Q) x := by
  have := takeI_snoc P Q [] x
  simpa [takeI] using this
theorem take1_eq (A B : Int) (l : List Int) (k : Nat) (h : k < l.length) : takeI A B (l.take (k + 1)) = takeI (takeI A B (l.take k)).1 (takeI A B (l.take k)).2 [l.getD k 0] := by
  rw [take_snoc_getD l k h, takeI_snoc, takeI_one]
/-- a byte of a text, as a text -/
theorem TxtAt.part {w : World} {bb off cap : Nat} {zs : List Int} (h : BytesRow w bb off zs) (k : Nat) (hk : k < zs.length) : TxtAt w (.slice (some ⟨bb, off + k, none⟩) 1 cap) [zs.getD k 0] := by
  refine .inl ⟨bb, off + k, cap, rfl, by simp, ⟨fun i hi => ?_, fun i hi => ?_, fun i hi => ?_, by simp⟩⟩
  · obtain rfl : i = 0 := by simp at hi; exact hi
    simpa using h.cell k hk
  · obtain rfl : i = 0 := by simp at hi; exact hi
    simpa using h.lo k hk
  · obtain rfl : i = 0 := by simp at hi; exact hi
    simpa using h.hi k hk

theorem keep4 {W0 W : World} {b c : Nat} {v0 v1 v2 v3 : Value} (c0 : W0.cell? ⟨b, 0, none⟩ = some v0) (c1 : W0.cell? ⟨b, 1, none⟩ = some v1) (c2 : W0.cell? ⟨c, 0, none⟩ = some v2) (c3 : W0.cell? ⟨c, 1, none⟩ = some v3) (h : Below W0.heap.size W0 W) :
    W.cell? ⟨b, 0, none⟩ = some v0 ∧ W.cell? ⟨b, 1, none⟩ = some v1 ∧ W.cell? ⟨c, 0, none⟩ = some v2 ∧ W.cell? ⟨c, 1, none⟩ = some v3 ∧ Below W0.heap.size W0 W :=
  ⟨(h.cell (World.block_lt_of_cell? W0 _ c0)).trans c0, (h.cell (World.block_lt_of_cell? W0 _ c1)).trans c1, (h.cell (World.block_lt_of_cell? W0 _ c2)).trans c2, (h.cell (World.block_lt_of_cell? W0 _ c3)).trans c3, h⟩
/-- the boxes of r and x, as they stand -/
structure TwoBox (w wr : World) (A B X Y : Int) : Prop where
  a0 : wr.cell? ⟨w.heap.size, 0, none⟩ = some (.int .u32 A)
  a1 : wr.cell? ⟨w.heap.size, 1, none⟩ = some (.int .u32 B)
  x0 : wr.cell? ⟨w.heap.size + 1, 0, none⟩ = some (.int .u32 X)
  x1 : wr.cell? ⟨w.heap.size + 1, 1, none⟩ = some (.int .u32 Y)
  f0 : wr.frozen? ⟨w.heap.size + 1, 0, none⟩ = false
  f1 : wr.frozen? ⟨w.heap.size + 1, 1, none⟩ = false
  bel : Below w.heap.size w wr
theorem TwoBox.there {w wr w1 : World} {A B X Y : Int} (h : TwoBox w wr A B X Y) (hb : Below wr.heap.size wr w1) : TwoBox w w1 A B X Y := by
  have h0 := World.block_lt_of_cell? wr _ h.a0
  have h1 := World.block_lt_of_cell? wr _ h.x0
  exact { a0 := (hb.cell h0).trans h.a0, a1 := (hb.cell (p := ⟨w.heap.size, 1, none⟩) h0).trans h.a1, x0 := (hb.cell h1).trans h.x0, x1 := (hb.cell (p := ⟨w.heap.size + 1, 1, none⟩) h1).trans h.x1,
          f0 := (hb.frozen h1).trans h.f0, f1 := (hb.frozen (p := ⟨w.heap.size + 1, 1, none⟩) h1).trans h.f1, bel := h.bel.trans (hb.mono h.bel.size) }
theorem TwoBox.put {w wr : World} {A B X Y X' Y' : Int} (h : TwoBox w wr A B X Y) : TwoBox w ((wr.setCell ⟨w.heap.size + 1, 0, none⟩ (.int .u32 X')).setCell ⟨w.heap.size + 1, 1, none⟩ (.int .u32 Y')) A B X' Y' where
  a0 := by rw [World.cell?_setCell_far _ _ _ _ (by simp), World.cell?_setCell_far _ _ _ _ (by simp)]; exact h.a0
  a1 := by rw [World.cell?_setCell_far _ _ _ _ (by simp), World.cell?_setCell_far _ _ _ _ (by simp)]; exact h.a1
  x0 := by rw [World.cell?_setCell_other _ _ _ _ (by simp)]; exact World.cell?_setCell_same _ _ _ h.x0
  x1 := World.cell?_setCell_same _ _ _ (u := .int .u32 Y) (by rw [World.cell?_setCell_other _ _ _ _ (by simp)]; exact h.x1)
  f0 := by simpa using h.f0
  f1 := by simpa using h.f1
  bel := (h.bel.setCell (by simp) _).setCell (by simp) _

theorem txt_row {w : World} {a : Option Addr} {n cap : Nat} {zs : List Int} (h : TxtAt w (.slice a n cap) zs) (hn : zs.length = n) (h0 : 0 < n) : ∃ bb off, a = some ⟨bb, off, none⟩ ∧ BytesRow w bb off zs := by
  rcases h with ⟨bb, off, cap', he, _, h2⟩ | ⟨he, _⟩
  · simp only [Value.slice.injEq] at he
    exact ⟨bb, off, he.1, h2⟩
  · subst he; simp at hn; omega
end Go.Proofs.Ytnmhdodcfbjalaa
