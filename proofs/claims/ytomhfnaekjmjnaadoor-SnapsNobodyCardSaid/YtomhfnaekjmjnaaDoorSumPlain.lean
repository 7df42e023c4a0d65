/- Plain facts of running sums (Adler-32), and of worlds with two boxes. No Go. -/
import Derived.Test.YtomhfnaekjmjnaaDoorTxt
import Derived.WalkKit
import Derived.Below
import Derived.Deep.RegionHeld
namespace Go.Proofs.YtomhfnaekjmjnaaDoor
set_option linter.unusedVariables false
open Go.RowKit

/-- one byte taken in -/
def sumSt (p : Int × Int) (x : Int) : Int × Int := ((p.1 + x) % 65521, (p.2 + (p.1 + x)) % 65521)
def sumAll (p : Int × Int) (l : List Int) : Int × Int := l.foldl sumSt p
theorem sumAll_snoc (p : Int × Int) (l : List Int) (x : Int) : sumAll p (l ++ [x]) = sumSt (sumAll p l) x := by simp [sumAll]
theorem sumAll_append (p : Int × Int) (l m : List Int) : sumAll p (l ++ m) = sumAll (sumAll p l) m := by simp [sumAll]
/-- Take -/
def takeI (A B : Int) (l : List Int) : Int × Int := if l = [] then (A, B) else sumAll (A % 65521, B % 65521) l
theorem sumSt_bd (p : Int × Int) (x : Int) : (0 ≤ (sumSt p x).1 ∧ (sumSt p x).1 ≤ 65520) ∧ 0 ≤ (sumSt p x).2 ∧ (sumSt p x).2 ≤ 65520 := by
  unfold sumSt; simp only; omega
theorem sumAll_bd (p : Int × Int) (l : List Int) (h : (0 ≤ p.1 ∧ p.1 ≤ 65520) ∧ 0 ≤ p.2 ∧ p.2 ≤ 65520) : (0 ≤ (sumAll p l).1 ∧ (sumAll p l).1 ≤ 65520) ∧ 0 ≤ (sumAll p l).2 ∧ (sumAll p l).2 ≤ 65520 := by
  induction l generalizing p with
  | nil => exact h
  | cons x l ih => exact ih _ (sumSt_bd p x)
theorem take_snoc_getD (l : List Int) (k : Nat) (h : k < l.length) : l.take (k + 1) = l.take k ++ [l.getD k 0] := by
  rw [List.take_succ_eq_append_getElem h]; simp [h]

/-- the boxes of a and c, and the result's, as they stand -/
structure SumBox (w : World) (a c r : Nat) (wr : World) (A C : Int) : Prop where
  ca : wr.cell? ⟨a, 0, none⟩ = some (.int .u32 A)
  cc : wr.cell? ⟨c, 0, none⟩ = some (.int .u32 C)
  fa : wr.frozen? ⟨a, 0, none⟩ = false
  fc : wr.frozen? ⟨c, 0, none⟩ = false
  r0 : wr.cell? ⟨r, 0, none⟩ = some (.int .u32 0)
  r1 : wr.cell? ⟨r, 1, none⟩ = some (.int .u32 0)
  f0 : wr.frozen? ⟨r, 0, none⟩ = false
  f1 : wr.frozen? ⟨r, 1, none⟩ = false
  ac : a ≠ c
  ar : a ≠ r
  cr : c ≠ r
  al : w.heap.size ≤ a
  cl : w.heap.size ≤ c
  rl : w.heap.size ≤ r
  bel : Below w.heap.size w wr
theorem SumBox.step {w : World} {a c r : Nat} {wr : World} {A C A' C' : Int} (h : SumBox w a c r wr A C) : SumBox w a c r ((wr.setCell ⟨a, 0, none⟩ (.int .u32 A')).setCell ⟨c, 0, none⟩ (.int .u32 C')) A' C' where
  ca := by rw [World.cell?_setCell_far _ _ _ _ h.ac.symm]; exact World.cell?_setCell_same _ _ _ h.ca
  cc := World.cell?_setCell_same _ _ _ (u := .int .u32 C) (by rw [World.cell?_setCell_far _ _ _ _ h.ac]; exact h.cc)
  fa := by simpa using h.fa
  fc := by simpa using h.fc
  r0 := by rw [World.cell?_setCell_far _ _ _ _ h.cr, World.cell?_setCell_far _ _ _ _ h.ar]; exact h.r0
  r1 := by rw [World.cell?_setCell_far _ _ _ _ h.cr, World.cell?_setCell_far _ _ _ _ h.ar]; exact h.r1
  f0 := by simpa using h.f0
  f1 := by simpa using h.f1
  ac := h.ac
  ar := h.ar
  cr := h.cr
  al := h.al
  cl := h.cl
  rl := h.rl
  bel := (h.bel.setCell h.al _).setCell h.cl _

end Go.Proofs.YtomhfnaekjmjnaaDoor
