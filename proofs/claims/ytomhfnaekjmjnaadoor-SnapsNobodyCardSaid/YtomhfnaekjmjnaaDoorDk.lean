/- A disk in memory: its block, its files' rows, what a change of it leaves. No condition. -/
import Derived.Test.YtomhfnaekjmjnaaDoorDisk
import Derived.Test.YtomhfnaekjmjnaaDoorAppend
import Derived.Test.YtomhfnaekjmjnaaDoorFr
import Derived.RangeFuncRecord
import Derived.Lib.SliceRun
namespace Go.Proofs.YtomhfnaekjmjnaaDoor
set_option linter.unusedVariables false
open Go.ChangeShapes Go.WideShapes Go.ChangeAt Go.RowKit
attribute [local go_sem ↓] Go.wp_at_zero Go.wp_at_succ comesTo_value_eq comesTo_skip_eq comesTo_enter_eq

/-- what a disk holds: the files' bytes, how many are safe, how many calls are left (below 0: not armed), whether it is down -/
structure DS where
  b : Nat → List Int
  s : Nat → Nat
  left : Int
  down : Bool
def dkCells (v : Nat → Value) (s : Nat → Nat) (left : Int) (armed down : Bool) : Array Value :=
  #[v 0, .int .i64 (s 0), v 1, .int .i64 (s 1), v 2, .int .i64 (s 2), v 3, .int .i64 (s 3), .int .i64 left, .bool armed, .bool down, .bool true]
/-- the files' rows: each the disk's own, no two the same -/
structure DRows (w : World) (D : Nat) (F : Nat → Prop) (v : Nat → Value) (b : Nat → List Int) : Prop where
  own : ∀ k, k < 4 → OwnTxt w 0 (v k) (b k)
  foot : ∀ k g, k < 4 → (v k).ownBlock = some g → F g ∧ g ≠ D
  apart : ∀ k j g, k < 4 → j < 4 → j ≠ k → (v k).ownBlock = some g → (v j).ownBlock ≠ some g
/-- a disk in block D, its blocks among F -/
structure Dk (w : World) (D : Nat) (F : Nat → Prop) (st : DS) : Prop where
  mem : F D
  fits : ∀ k, k < 4 → (st.b k).length ≤ 1048576
  safe : ∀ k, k < 4 → st.s k ≤ (st.b k).length
  left : -1 ≤ st.left ∧ st.left ≤ 9223372036854775807
  at_ : ∃ v lf ar, w.heap[D]? = some (.cells (dkCells v st.s lf ar st.down) 108 (0, 0)) ∧ DRows w D F v st.b ∧ ((ar = true ∧ lf = st.left ∧ (0 ≤ lf ∨ st.down = true)) ∨ (ar = false ∧ st.left = -1))

theorem Fr.dk {w w' : World} {D : Nat} {F G : Nat → Prop} {st : DS} (h : Dk w D F st) (hf : Fr G w w') (hG : ∀ j, F j → j < w.heap.size → ¬ G j) : Dk w' D F st := by
  obtain ⟨hm, hft, hsf, hl, v, lf, ar, hb, hr, hx⟩ := h
  have hlt : D < w.heap.size := (Array.getElem?_eq_some_iff.1 hb).1
  refine ⟨hm, hft, hsf, hl, v, lf, ar, (hf.block D hlt (hG D hm hlt)).trans hb, ⟨fun k hk => (hr.own k hk).of_block fun g hg => ?_, hr.foot, hr.apart⟩, hx⟩
  have hg' := ownBlock_lt (hr.own k hk) hg
  exact hf.block g hg' (hG g (hr.foot k g hk hg).1 hg')
theorem Dk.below {w w' : World} {D : Nat} {F : Nat → Prop} {st : DS} (h : Dk w D F st) (hb : Below w.heap.size w w') : Dk w' D F st :=
  Fr.dk (G := fun _ => False) h ⟨hb.os, hb.tape, hb.output, hb.size, fun j hj _ => hb.block j hj⟩ (fun _ _ _ => id)
theorem Dk.more {w : World} {D : Nat} {F G : Nat → Prop} {st : DS} (h : Dk w D F st) (hG : ∀ j, F j → G j) : Dk w D G st := by
  obtain ⟨hm, hft, hsf, hl, v, lf, ar, hb, hr, hx⟩ := h
  exact ⟨hG _ hm, hft, hsf, hl, v, lf, ar, hb, ⟨hr.own, fun k g hk hg => ⟨hG _ (hr.foot k g hk hg).1, (hr.foot k g hk hg).2⟩, hr.apart⟩, hx⟩

end Go.Proofs.YtomhfnaekjmjnaaDoor
