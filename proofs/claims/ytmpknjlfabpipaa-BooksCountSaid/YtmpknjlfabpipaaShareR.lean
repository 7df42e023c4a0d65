/- Contracts of the reference's functions of layer 12 (share). No condition but that arguments fit their kinds. -/
import Derived.Test.YtmpknjlfabpipaaShareC
namespace Go.Proofs.Ytmpknjlfabpipaa
set_option linter.unusedVariables false
open Go.ChangeShapes Go.WideShapes Go.ChangeAt Go.RowKit
attribute [local go_sem ↓] Go.wp_at_zero Go.wp_at_succ comesTo_value_eq comesTo_skip_eq comesTo_enter_eq

/-- the share at work, and the answer's place -/
structure AtBox (w0 : World) (g : Nat) (x0 x1 : Int) (wr : World) : Prop where
  c0 : wr.cell? ⟨g, 0, none⟩ = some (.int .i64 x0)
  c1 : wr.cell? ⟨g, 1, none⟩ = some (.int .i64 x1)
  f0 : wr.frozen? ⟨g, 0, none⟩ = false
  f1 : wr.frozen? ⟨g, 1, none⟩ = false
  d0 : wr.cell? ⟨g + 1, 0, none⟩ = some (.int .i64 0)
  d1 : wr.cell? ⟨g + 1, 1, none⟩ = some (.int .i64 0)
  e0 : wr.frozen? ⟨g + 1, 0, none⟩ = false
  e1 : wr.frozen? ⟨g + 1, 1, none⟩ = false
  bel : Below w0.heap.size w0 wr
theorem AtBox.below {w0 wr w1 : World} {g : Nat} {x0 x1 : Int} (h : AtBox w0 g x0 x1 wr) (hb : Below wr.heap.size wr w1) : AtBox w0 g x0 x1 w1 := by
  have l0 := World.block_lt_of_cell? _ _ h.c0
  have l1 := World.block_lt_of_cell? _ _ h.d0
  obtain ⟨hc, hf⟩ := bcell hb
  exact ⟨(hc _ 0 l0).trans h.c0, (hc _ 1 l0).trans h.c1, (hf _ 0 l0).trans h.f0, (hf _ 1 l0).trans h.f1, (hc _ 0 l1).trans h.d0, (hc _ 1 l1).trans h.d1, (hf _ 0 l1).trans h.e0, (hf _ 1 l1).trans h.e1, below_next h.bel hb⟩
theorem AtBox.store {w0 wr : World} {x0 x1 : Int} (h : AtBox w0 w0.heap.size x0 x1 wr) (y0 y1 : Int) : AtBox w0 w0.heap.size y0 y1 ((wr.setCell ⟨w0.heap.size, 0, none⟩ (.int .i64 y0)).setCell ⟨w0.heap.size, 1, none⟩ (.int .i64 y1)) := by
  obtain ⟨c0, c1, f0, f1, d0, d1, e0, e1, hx⟩ := h
  exact ⟨by go_simp, by go_simp, by go_simp, by go_simp, by go_simp, by go_simp, by go_simp, by go_simp, (hx.setCell (Nat.le_refl _) _).setCell (Nat.le_refl _) _⟩
theorem AtBox.store1 {w0 wr : World} {x0 x1 : Int} (h : AtBox w0 w0.heap.size x0 x1 wr) (y1 : Int) : AtBox w0 w0.heap.size x0 y1 (wr.setCell ⟨w0.heap.size, 1, none⟩ (.int .i64 y1)) := by
  obtain ⟨c0, c1, f0, f1, d0, d1, e0, e1, hx⟩ := h
  exact ⟨by go_simp, by go_simp, by go_simp, by go_simp, by go_simp, by go_simp, by go_simp, by go_simp, hx.setCell (Nat.le_refl _) _⟩
theorem AtBox.drewN {w0 wr : World} {g : Nat} {x0 x1 : Int} (h : AtBox w0 g x0 x1 wr) (n : Nat) : AtBox w0 g x0 x1 (wr.drewN n) := h.below (below_drewK (Below.refl _ _) n)
/-- plain: so many half-lives, one by one -/
theorem half_step (U : Int) (j : Nat) (h0 : 0 ≤ U) : U / 2 ^ j / 2 = U / 2 ^ (j + 1) := by
  rw [Int.ediv_ediv_of_nonneg (by have := pow_pos64 j; omega), Int.pow_succ]
theorem kI_more {S N H : Int} (H0 : 1 ≤ H) (j : Nat) (hj : (j : Int) ≤ kI S N H) (h0 : 0 ≤ kI S N H) : (H ≤ N - (S + j * H)) ↔ (j : Int) + 1 ≤ kI S N H := by
  unfold kI at *
  by_cases h : N ≤ S
  · simp only [if_pos h] at *
    have : j = 0 := by omega
    subst this
    simp
    omega
  · simp only [if_neg h] at *
    rw [Int.le_ediv_iff_mul_le (by omega), Int.add_mul]
    omega

end Go.Proofs.Ytmpknjlfabpipaa
