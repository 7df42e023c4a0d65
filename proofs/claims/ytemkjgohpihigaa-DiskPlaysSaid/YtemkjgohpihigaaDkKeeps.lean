/- DiskKeeps walked. No condition but the lengths' bounds. -/
import Derived.Test.YtemkjgohpihigaaDkK
namespace Go.Proofs.Ytemkjgohpihigaa
set_option linter.unusedVariables false
open Go.ChangeShapes Go.WideShapes Go.ChangeAt Go.RowKit
attribute [local go_sem ↓] Go.wp_at_zero Go.wp_at_succ comesTo_value_eq comesTo_skip_eq comesTo_enter_eq

theorem OwnTxt.shape2 {w : World} {B : Nat} {v : Value} {xs : List Int} (h : OwnTxt w B v xs) : ∃ ad m c, v = .slice ad m c ∧ m = xs.length ∧ ((ad = none ∧ m = 0 ∧ c = 0) ∨ ∃ g, ad = some ⟨g, 0, none⟩) ∧ m ≤ c := by
  obtain ⟨ad, c, h1, h2, h3⟩ := h.shape
  exact ⟨ad, _, c, h1, rfl, h2, h3⟩
theorem begin_st {k : Nat} (hk : k < 4) (ys : List Int) (h : ys.length ≤ 500) : (callF 0 newF k ys).2 = 0 ∧ (callF 1 (callF 0 newF k ys).1 k []).2 = 0 ∧ (callF 1 (callF 0 newF k ys).1 k []).1.b k = ys ∧ (callF 1 (callF 0 newF k ys).1 k []).1.s k = ys.length ∧ (callF 1 (callF 0 newF k ys).1 k []).1.down = false := by
  have hw : wrongF false (k : Int) = 0 := by unfold wrongF; rw [if_neg (by simp), if_pos (by omega)]
  have h1 : callF 0 newF k ys = ({ newF.deed 0 k ys with left := if 0 < newF.left then newF.left - 1 else newF.left }, 0) := callF_done (k := k) hw (by show ¬ (1048576 - (([] : List Int).length : Int) < (ys.length : Int)); simp; omega) (show ¬ (-1 : Int) = 0 by decide)
  rw [h1]
  have hb : ({ newF.deed 0 k ys with left := if 0 < newF.left then newF.left - 1 else newF.left } : DS).b k = ys := by
    show upd newF.b k (newF.b k ++ ys) k = ys
    rw [upd_at]; rfl
  have h2 := callF_done (q := 1) (st := { newF.deed 0 k ys with left := if 0 < newF.left then newF.left - 1 else newF.left }) (k := k) (xs := []) hw (by rw [hb]; simp; omega) (show ¬ (if (0 : Int) < -1 then (-1 : Int) - 1 else -1) = 0 by decide)
  rw [h2]
  refine ⟨rfl, rfl, hb, ?_, rfl⟩
  show upd _ k (DS.b _ k).length k = ys.length
  rw [upd_at, hb]
theorem Fr.mono {F G : Nat → Prop} {w w' : World} (h : Fr F w w') (hG : ∀ j, F j → G j) : Fr G w w' := ⟨h.os, h.tape, h.output, h.size, fun j hj hn => h.block j hj fun hF => hn (hG j hF)⟩
/-- in the midst of the steps -/
def GD (N0 N3 N4 : Nat) (j : Nat) : Prop := N0 ≤ j ∧ (j < N3 ∨ N4 ≤ j)
def GC (N3 N4 : Nat) (j : Nat) : Prop := N3 ≤ j ∧ j < N4
structure KAt (W : World) (N3 N4 D C k : Nat) (ys : List Int) (stc st : DS) (wr : World) : Prop where
  d : Dk wr D (GD W.heap.size N3 N4) st
  c : Dk wr C (GC N3 N4) stc
  below : Below W.heap.size W wr
  ge : N4 ≤ wr.heap.size
  keeps : Keeps ys k st
theorem KAt.next {W wr w' : World} {N3 N4 D C k : Nat} {ys : List Int} {stc st : DS} (h : KAt W N3 N4 D C k ys stc st wr) (hb : Below wr.heap.size wr w') : KAt W N3 N4 D C k ys stc st w' :=
  ⟨h.d.below hb, h.c.below hb, below_next h.below hb, Nat.le_trans h.ge hb.size, h.keeps⟩
theorem KAt.step {W wr w' : World} {N3 N4 D C k : Nat} {ys : List Int} {stc st st' : DS} (h : KAt W N3 N4 D C k ys stc st wr) (hd : Dk w' D (fun j => GD W.heap.size N3 N4 j ∨ wr.heap.size ≤ j) st') (hf : Fr (GD W.heap.size N3 N4) wr w') (hk : Keeps ys k st') : KAt W N3 N4 D C k ys stc st' w' :=
  ⟨hd.more fun j hj => by
      rcases hj with hj | hj
      · exact hj
      · exact ⟨Nat.le_trans h.below.size hj, .inr (Nat.le_trans h.ge hj)⟩,
    Fr.dk h.c hf fun j hj _ hg => by
      rcases hg.2 with h1 | h1
      · have := hj.1; omega
      · have := hj.2; omega,
    h.below.trans (hf.below h.below.size fun j hj => hj.1), Nat.le_trans h.ge hf.size, hk⟩
theorem KAt.step' {W wr w' : World} {N3 N4 D C k : Nat} {ys : List Int} {stc st st' : DS} (h : KAt W N3 N4 D C k ys stc st wr) (hd : Dk w' D (GD W.heap.size N3 N4) st') (hf : Fr (GD W.heap.size N3 N4) wr w') (hk : Keeps ys k st') : KAt W N3 N4 D C k ys stc st' w' :=
  h.step (hd.more fun j hj => .inl hj) hf hk
theorem wrongF_in {d : Bool} {k : Nat} (hk : k < 4) : wrongF d (k : Int) = if d then 17 else 0 := by unfold wrongF; rw [if_pos (show 0 ≤ (k : Int) ∧ (k : Int) ≤ 3 by omega)]
theorem safeF_in {k : Nat} (hk : k < 4) : safeF (k : Int) = 0 := by unfold safeF; rw [if_pos (by omega)]
end Go.Proofs.Ytemkjgohpihigaa
