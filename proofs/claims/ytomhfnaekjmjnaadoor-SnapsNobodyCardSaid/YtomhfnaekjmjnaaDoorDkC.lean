/- A disk that was made: appending, syncing, resetting. No condition but the lengths' bounds. -/
import Derived.Test.YtomhfnaekjmjnaaDoorDkAB
import Derived.Test.YtomhfnaekjmjnaaDoorAppendTwo
namespace Go.Proofs.YtomhfnaekjmjnaaDoor
set_option linter.unusedVariables false
open Go.ChangeShapes Go.WideShapes Go.ChangeAt Go.RowKit
attribute [local go_sem ↓] Go.wp_at_zero Go.wp_at_succ comesTo_value_eq comesTo_skip_eq comesTo_enter_eq

def upd {α : Type} (f : Nat → α) (k : Nat) (x : α) : Nat → α := fun j => if j = k then x else f j
theorem upd_at {α : Type} (f : Nat → α) (k : Nat) (x : α) : upd f k x k = x := by simp [upd]
theorem upd_ne {α : Type} (f : Nat → α) {k j : Nat} (x : α) (h : j ≠ k) : upd f k x j = f j := by simp [upd, h]
/-- what a call that is done does: 0 Append, 1 Sync, 2 Reset -/
def DS.deed (st : DS) (q k : Nat) (xs : List Int) : DS :=
  match q with
  | 0 => { st with b := upd st.b k (st.b k ++ xs) }
  | 1 => { st with s := upd st.s k (st.b k).length }
  | _ => { st with b := upd st.b k [], s := upd st.s k 0 }
/-- a call: what it leaves, and what it tells -/
def callF (q : Nat) (st : DS) (f : Int) (xs : List Int) : DS × Int :=
  if wrongF st.down f ≠ 0 then (st, wrongF st.down f)
  else if 1048576 - ((st.b f.toNat).length : Int) < xs.length then (st, 15)
  else if st.left = 0 then ({ (if q = 0 then st.deed 0 f.toNat xs else st) with left := -1, down := true }, 17)
  else ({ st.deed q f.toNat xs with left := if 0 < st.left then st.left - 1 else st.left }, 0)
def CallEnd (q : Nat) (w : World) (D : Nat) (F : Nat → Prop) (st : DS) (f : Int) (xs : List Int) (e : Ending) (w' : World) : Prop :=
  e = .returned (.int .i64 (callF q st f xs).2) ∧ Dk w' D (fun j => F j ∨ w.heap.size ≤ j) (callF q st f xs).1 ∧ Fr F w w'
theorem own_set {w : World} {B : Nat} {v : Value} {xs : List Int} {D o : Nat} {u : Value} (h : OwnTxt w B v xs) (hne : ∀ g, v.ownBlock = some g → g ≠ D) : OwnTxt (w.setCell ⟨D, o, none⟩ u) B v xs :=
  h.of_block fun g hg => Below.heap_setCell _ _ _ _ (hne g hg)
theorem DRows.keep {w w' : World} {D : Nat} {F : Nat → Prop} {v : Nat → Value} {b : Nat → List Int} (h : DRows w D F v b) (hb : ∀ j, j < w.heap.size → j ≠ D → w'.heap[j]? = w.heap[j]?) : DRows w' D (fun j => F j ∨ w.heap.size ≤ j) v b :=
  ⟨fun k hk => (h.own k hk).of_block fun g hg => hb g (ownBlock_lt (h.own k hk) hg) (h.foot k g hk hg).2, fun k g hk hg => ⟨.inl (h.foot k g hk hg).1, (h.foot k g hk hg).2⟩, h.apart⟩
theorem DRows.updRow {w w' : World} {D : Nat} {F : Nat → Prop} {v : Nat → Value} {b : Nat → List Int} (h : DRows w D F v b) {k : Nat} (hk : k < 4) {u : Value} {xs : List Int} (hD : D < w.heap.size)
    (hb : ∀ j, j < w.heap.size → j ≠ D → some j ≠ (v k).ownBlock → w'.heap[j]? = w.heap[j]?) (hu : OwnTxt w' 0 u xs) (hub : ∀ g, u.ownBlock = some g → (v k).ownBlock = some g ∨ w.heap.size ≤ g) :
    DRows w' D (fun j => F j ∨ w.heap.size ≤ j) (upd v k u) (upd b k xs) := by
  refine ⟨fun j hj => ?_, fun j g hj hg => ?_, fun j i g hj hi hne hg hc => ?_⟩
  · by_cases hjk : j = k
    · subst hjk; rw [upd_at, upd_at]; exact hu
    · rw [upd_ne _ _ hjk, upd_ne _ _ hjk]
      refine (h.own j hj).of_block fun g hg => hb g (ownBlock_lt (h.own j hj) hg) (h.foot j g hj hg).2 fun e => ?_
      exact h.apart j k g hj hk (Ne.symm hjk) hg e.symm
  · by_cases hjk : j = k
    · subst hjk
      rw [upd_at] at hg
      rcases hub g hg with h1 | h1
      · exact ⟨.inl (h.foot j g hj h1).1, (h.foot j g hj h1).2⟩
      · exact ⟨.inr h1, by omega⟩
    · rw [upd_ne _ _ hjk] at hg
      exact ⟨.inl (h.foot j g hj hg).1, (h.foot j g hj hg).2⟩
  · by_cases hjk : j = k
    · subst hjk
      rw [upd_at] at hg
      rw [upd_ne _ _ hne] at hc
      rcases hub g hg with h1 | h1
      · exact h.apart j i g hj hi hne h1 hc
      · have := ownBlock_lt (h.own i hi) hc; omega
    · rw [upd_ne _ _ hjk] at hg
      by_cases hik : i = k
      · subst hik
        rw [upd_at] at hc
        rcases hub g hc with h1 | h1
        · exact h.apart j i g hj hi hne hg h1
        · have := ownBlock_lt (h.own j hj) hg; omega
      · rw [upd_ne _ _ hik] at hc
        exact h.apart j i g hj hi hne hg hc
theorem there_down {w : World} {D : Nat} {v : Nat → Value} {s : Nat → Nat} {lf : Int} {ar d : Bool} (hd : d = false) (h : w.heap[D]? = some (.cells (dkCells v s lf ar false) 108 (0, 0))) : w.heap[D]? = some (.cells (dkCells v s lf ar d) 108 (0, 0)) := hd ▸ h
theorem callF_wrong {q : Nat} {st : DS} {f : Int} {xs : List Int} (h : wrongF st.down f ≠ 0) : callF q st f xs = (st, wrongF st.down f) := by unfold callF; rw [if_pos h]
theorem callF_full {q : Nat} {st : DS} {k : Nat} {xs : List Int} (h : wrongF st.down k = 0) (h2 : 1048576 - ((st.b k).length : Int) < xs.length) : callF q st k xs = (st, 15) := by
  unfold callF; rw [if_neg (by simp [h]), if_pos (by simpa using h2)]
theorem callF_downs {q : Nat} {st : DS} {k : Nat} {xs : List Int} (h : wrongF st.down k = 0) (h2 : ¬ 1048576 - ((st.b k).length : Int) < xs.length) (h3 : st.left = 0) : callF q st k xs = ({ (if q = 0 then st.deed 0 k xs else st) with left := -1, down := true }, 17) := by
  unfold callF; rw [if_neg (by simp [h]), if_neg (by simpa using h2), if_pos h3]; rfl
theorem callF_done {q : Nat} {st : DS} {k : Nat} {xs : List Int} (h : wrongF st.down k = 0) (h2 : ¬ 1048576 - ((st.b k).length : Int) < xs.length) (h3 : ¬ st.left = 0) : callF q st k xs = ({ st.deed q k xs with left := if 0 < st.left then st.left - 1 else st.left }, 0) := by
  unfold callF; rw [if_neg (by simp [h]), if_neg (by simpa using h2), if_neg h3]; rfl
theorem wrongF_zero {d : Bool} {f : Int} (h : wrongF d f = 0) : d = false ∧ 0 ≤ f ∧ f ≤ 3 := by
  unfold wrongF at h
  split at h
  · cases h
  · split at h
    · rename_i h1 h2; exact ⟨by simpa using h1, h2⟩
    · cases h
theorem Dk.same {w : World} {D : Nat} {F : Nat → Prop} {st : DS} (h : Dk w D F st) : Dk w D (fun j => F j ∨ w.heap.size ≤ j) st := h.more fun j hj => .inl hj
end Go.Proofs.YtomhfnaekjmjnaaDoor
