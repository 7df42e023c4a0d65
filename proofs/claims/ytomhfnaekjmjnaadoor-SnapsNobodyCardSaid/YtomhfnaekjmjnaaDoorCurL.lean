/- A cursor's lists of numbers; a cursor that is nil. Its condition: errors.errorType reads as the program's text lays it. -/
import Derived.Test.YtomhfnaekjmjnaaDoorCurT
namespace Go.Proofs.YtomhfnaekjmjnaaDoor
set_option linter.unusedVariables false
open Go.ChangeShapes Go.WideShapes Go.ChangeAt Go.RowKit
attribute [local go_sem ↓] Go.wp_at_zero Go.wp_at_succ comesTo_value_eq comesTo_skip_eq comesTo_enter_eq

theorem OwnL.fr {w w' : World} {B : Nat} {v : Value} {l : List Int} {G : Nat → Prop} (h : OwnL w B v l) (hf : Fr G w w') (hG : ∀ j, B ≤ j → ¬ G j) : OwnL w' B v l := by
  refine ⟨h.1, ?_⟩
  rcases h.2 with hn | ⟨g, cap, cur, hv, hB, hg, rest⟩
  · exact .inl hn
  · refine .inr ⟨g, cap, cur, hv, hB, ?_, rest⟩
    rw [hf.block g (Array.getElem?_eq_some_iff.1 hg).1 (hG g hB)]; exact hg
theorem scan_less (xs : List Int) : ∀ (i u : Nat), (scan i u xs).2.1 = 0 → (scan i u xs).1.length < xs.length := by
  induction xs with
  | nil => intro i u h; simp [scan] at h
  | cons x xs ih =>
    intro i u h
    unfold scan at h ⊢
    split
    · rename_i h1; rw [if_pos h1] at h; simp at h
    · rename_i h1
      rw [if_neg h1] at h
      split
      · rename_i h2
        rw [if_pos h2] at h
        have := ih _ _ h
        simp; omega
      · rename_i h2
        rw [if_neg h2] at h
        split
        · rename_i h3; rw [if_pos h3] at h; simp at h
        · simp
theorem intF_less {st : CS} (h : st.bad = 0) (h' : (intF st).1.bad = 0) : (intF st).1.xs.length < st.xs.length := by
  unfold intF at *
  rw [if_pos h] at *
  exact scan_less _ _ _ h'
/-- so many numbers that are read, as long as nothing is wrong -/
def readN : Nat → CS → CS × List Int
  | 0, st => (st, [])
  | k + 1, st => if st.bad = 0 then ((readN k (intF st).1).1, (intF st).2 :: (readN k (intF st).1).2) else (st, [])
def intsF (st : CS) (most : Int) : CS × List Int :=
  if (readN (smallF st most).2.toNat (smallF st most).1).1.bad = 0 then readN (smallF st most).2.toNat (smallF st most).1 else ((readN (smallF st most).2.toNat (smallF st most).1).1, [])
theorem readN_succ (k : Nat) (st : CS) : readN (k + 1) st = if st.bad = 0 then ((readN k (intF st).1).1, (intF st).2 :: (readN k (intF st).1).2) else (st, []) := rfl
theorem readN_bad {st : CS} (h : st.bad ≠ 0) (k : Nat) : readN k st = (st, []) := by
  cases k with
  | zero => rfl
  | succ k => unfold readN; rw [if_neg h]
/-! ### a cursor that is nil -/
theorem rest_nil (w : World) : Calls Tryd.prog 82 #[.pointer none] w fun r w' => r = .returned (.int .i64 0) ∧ w = w' := by
  go_enter Tryd.func82, Tryd.ntmps82
  go_wp2
  go_ret
  exact ⟨rfl, rfl⟩
theorem bad_nil (w : World) : Calls Tryd.prog 81 #[.pointer none] w fun r w' => r = .returned (.int .i64 0) ∧ Below w.heap.size w w' := by
  have hA := below_alloc (Below.refl _ w) (.cells #[.int .i64 0] 25)
  go_enter Tryd.func81, Tryd.ntmps81
  go_wp2
  go_ret
  exact ⟨rfl, hA⟩
theorem int_nil (w : World) : Calls Tryd.prog 80 #[.pointer none] w fun r w' => r = .returned (.int .i64 0) ∧ w = w' := by
  go_enter Tryd.func80, Tryd.ntmps80
  go_wp2
  go_ret
  exact ⟨rfl, rfl⟩
theorem fail_nil (e : Int) (w : World) : Calls Tryd.prog 83 #[.pointer none, .int .i64 e] w fun r w' => r = .returned (.int .i64 0) ∧ w = w' := by
  go_enter Tryd.func83, Tryd.ntmps83
  go_wp2
  go_ret
  exact ⟨rfl, rfl⟩
end Go.Proofs.YtomhfnaekjmjnaaDoor
