/- The walk of SumTells: any bytes, any running sum. -/
import Derived.Test.YtnmhdodcfbjalaaSumC
import Derived.Laws.BytesArg
namespace Go.Proofs.Ytnmhdodcfbjalaa
set_option linter.unusedVariables false
open Go.ChangeShapes Go.WideShapes Go.ChangeAt Go.RowKit
attribute [local go_sem ↓] Go.wp_at_zero Go.wp_at_succ

theorem row1 {W : World} {v : Value} {zs : List Int} {t : TypeId} (h : TxtAt W v zs) : TxtRow (W.alloc (.cells #[v] t)) W.heap.size 0 [v] [zs] := {
  len := rfl
  few := by simp
  cell := fun k hk => by
    obtain rfl : k = 0 := by simp at hk; exact hk
    simp [World.cell?_alloc_new]
  txt := fun k hk => by
    obtain rfl : k = 0 := by simp at hk; exact hk
    exact h.below (by repeat (first | exact Below.refl _ _ | assumption | refine below_drewN ?_ _ | refine Below.drew ?_ | refine below_alloc ?_ _ | refine Below.alloc ?_ (by first | omega | (simp; done) | (simp; omega)) _ | refine Below.setCell ?_ (Below.size (by assumption)) _ | refine Below.setCell ?_ (by first | omega | (simp; done) | (simp; omega)) _ | (refine Below.trans ?_ (Below.mono (by assumption) (by first | omega | (simp; done) | (simp; omega)))) | refine below_next ?_ (by assumption))) }
theorem keep2 {W0 W : World} {b : Nat} {v0 v1 : Value} (c0 : W0.cell? ⟨b, 0, none⟩ = some v0) (c1 : W0.cell? ⟨b, 1, none⟩ = some v1) (h : Below W0.heap.size W0 W) :
    W.cell? ⟨b, 0, none⟩ = some v0 ∧ W.cell? ⟨b, 1, none⟩ = some v1 ∧ Below W0.heap.size W0 W :=
  ⟨(h.cell (World.block_lt_of_cell? W0 _ c0)).trans c0, (h.cell (World.block_lt_of_cell? W0 _ c1)).trans c1, h⟩
theorem val_ref {s : ByteArray} {zs : List Int} (h : bytesOf s = zs) (h0 : zs = [] → zs = []) : (sumAll (1, 0) (bytesOf s)).2 * 65536 + (sumAll (1, 0) (bytesOf s)).1 = valI (takes (1, 0) [zs]) := by
  subst h
  obtain ⟨⟨p0, p1⟩, q0, q1⟩ := sumAll_bd (1, 0) (bytesOf s) (by decide)
  have e : takes (1, 0) [bytesOf s] = sumAll (1, 0) (bytesOf s) := by
    simp only [takes, List.foldl, takeI]
    split
    · rename_i h; rw [h]; rfl
    · rfl
  rw [e]
  unfold valI
  omega

end Go.Proofs.Ytnmhdodcfbjalaa
