/- A cursor's small numbers, texts, lists of numbers, and its end. No condition but that errors.errorType reads as the program's text lays it. -/
import Derived.Test.YtomhfnaekjmjnaaDoorPut
import Derived.Test.YtomhfnaekjmjnaaDoorOwnL
namespace Go.Proofs.YtomhfnaekjmjnaaDoor
set_option linter.unusedVariables false
open Go.ChangeShapes Go.WideShapes Go.ChangeAt Go.RowKit
attribute [local go_sem ↓] Go.wp_at_zero Go.wp_at_succ comesTo_value_eq comesTo_skip_eq comesTo_enter_eq

theorem Cur.apart {w : World} {C : Nat} {F : Nat → Prop} {st : CS} (h : Cur w C F st) (hE : ErrAt w) : C ≠ 0 := by
  rintro rfl
  obtain ⟨_, _, _, ad, n, c, hb, _⟩ := h
  have h1 := cell_of_block (o := 0) hb rfl
  unfold ErrAt at hE
  rw [h1] at hE
  cases hE
theorem ErrAt.fr {w w' : World} {G : Nat → Prop} (h : ErrAt w) (hf : Fr G w w') (hg : ¬ G 0) : ErrAt w' := by
  unfold ErrAt at h ⊢
  have hlt := World.block_lt_of_cell? w _ h
  have := hf.block _ hlt hg
  simp only [World.cell?, this] at h ⊢
  exact h
theorem ErrAt.below {w w' : World} (h : ErrAt w) (hb : Below w.heap.size w w') : ErrAt w' := h.fr (G := fun _ => False) (Fr.of_below hb) (fun h => h)
theorem intF_bad (st : CS) : (intF st).1.bad = 0 ∨ (intF st).2 = 0 ∧ (st.bad = 0 → (intF st).1.xs = []) := by
  unfold intF
  split
  · rcases scan_bad 0 0 st.xs with h | h
    · exact .inl h
    · exact .inr ⟨h.2, fun _ => h.1⟩
  · rename_i h
    exact .inr ⟨rfl, fun h' => absurd h' h⟩
def CS.bytes (st : CS) : Prop := ∀ x ∈ st.xs, 0 ≤ x ∧ x ≤ 255
theorem Cur.bytes {w : World} {C : Nat} {F : Nat → Prop} {st : CS} (h : Cur w C F st) : st.bytes := by
  obtain ⟨_, _, _, ad, n, c, _, ht, _⟩ := h
  intro x hx
  rcases ht.form.2 with ⟨_, e⟩ | ⟨e, _⟩ | ⟨b, o, _, _, hr⟩
  · rw [e] at hx; cases hx
  · rw [e] at hx; cases hx
  · obtain ⟨k, hk, rfl⟩ := List.mem_iff_getElem.1 hx
    have h1 := hr.lo k hk
    have h2 := hr.hi k hk
    simp [List.getD, List.getElem?_eq_getElem hk] at h1 h2
    exact ⟨h1, h2⟩
theorem intF_in {st : CS} (h : st.bytes) : -9223372036854775808 ≤ (intF st).2 ∧ (intF st).2 ≤ 9223372036854775807 := by
  unfold intF
  split
  · exact scan_in st.xs 0 0 h (Nat.zero_le 9) Nat.one_pos
  · show -9223372036854775808 ≤ (0 : Int) ∧ (0 : Int) ≤ 9223372036854775807
    omega
/-- a small number that is read -/
def smallF (st : CS) (most : Int) : CS × Int := if (intF st).2 < 0 ∨ most < (intF st).2 then (failF (intF st).1 2, 0) else intF st
/-- what is wrong in the end -/
def endF (st : CS) : Int := if st.bad = 0 ∧ 0 < st.xs.length then 11 else st.bad
/-- a text that is read -/
def textF (st : CS) : CS × List Int :=
  if ((smallF st 65536).1.xs.length : Int) < (smallF st 65536).2 then (failF (smallF st 65536).1 10, [])
  else (⟨(smallF st 65536).1.xs.drop (smallF st 65536).2.toNat, (smallF st 65536).1.bad⟩, (smallF st 65536).1.xs.take (smallF st 65536).2.toNat)
theorem smallF_in {st : CS} {most : Int} (hm : 0 ≤ most) : 0 ≤ (smallF st most).2 ∧ (smallF st most).2 ≤ most := by
  unfold smallF
  split
  · exact ⟨Int.le_refl _, hm⟩
  · omega
theorem smallF_bad {st : CS} {most : Int} (h : (smallF st most).1.bad ≠ 0) : (smallF st most).2 = 0 := by
  unfold smallF at *
  split
  · rfl
  · rename_i hn
    rw [if_neg hn] at h
    rcases intF_bad st with h1 | h1
    · exact absurd h1 h
    · exact h1.1
end Go.Proofs.YtomhfnaekjmjnaaDoor
