/- The document's disk as a list of ten cells. No condition. -/
import Derived.Test.YtemkjgohpihigaaRd
import Derived.Test.YtemkjgohpihigaaMid
namespace Go.Proofs.Ytemkjgohpihigaa
set_option linter.unusedVariables false
open Go.ChangeShapes Go.WideShapes Go.ChangeAt Go.RowKit
attribute [local go_sem ↓] Go.wp_at_zero Go.wp_at_succ comesTo_value_eq comesTo_skip_eq comesTo_enter_eq

def rdC (st : DS) : List Value := [.string (strOfNums (st.b 0)), .string (strOfNums (st.b 1)), .string (strOfNums (st.b 2)), .string (strOfNums (st.b 3)), .int .i64 (st.s 0), .int .i64 (st.s 1), .int .i64 (st.s 2), .int .i64 (st.s 3), .int .i64 st.left, .bool st.down]
theorem rdC_len (st : DS) : (rdC st).length = 10 := rfl
theorem rdC_one (st : DS) : (rdC st).all (·.oneCell') = true := rfl
theorem rdC_b (st : DS) {k : Nat} (h : k < 4) : (rdC st).toArray[k]? = some (.string (strOfNums (st.b k))) := by
  rcases (show k = 0 ∨ k = 1 ∨ k = 2 ∨ k = 3 by omega) with rfl | rfl | rfl | rfl <;> rfl
theorem rdC_s (st : DS) {k : Nat} (h : k < 4) : (rdC st).toArray[4 + k]? = some (.int .i64 (st.s k)) := by
  rcases (show k = 0 ∨ k = 1 ∨ k = 2 ∨ k = 3 by omega) with rfl | rfl | rfl | rfl <;> rfl
theorem rdC_left (st : DS) : (rdC st).toArray[8]? = some (.int .i64 st.left) := rfl
theorem rdC_down (st : DS) : (rdC st).toArray[9]? = some (.bool st.down) := rfl
theorem rdC_setB (st : DS) {k : Nat} (h : k < 4) (xs : List Int) : (rdC st).toArray.setIfInBounds k (.string (strOfNums xs)) = (rdC { st with b := upd st.b k xs }).toArray := by
  rcases (show k = 0 ∨ k = 1 ∨ k = 2 ∨ k = 3 by omega) with rfl | rfl | rfl | rfl <;> simp [rdC, upd]
theorem rdC_setS (st : DS) {k : Nat} (h : k < 4) (n : Nat) : (rdC st).toArray.setIfInBounds (4 + k) (.int .i64 (n : Int)) = (rdC { st with s := upd st.s k n }).toArray := by
  rcases (show k = 0 ∨ k = 1 ∨ k = 2 ∨ k = 3 by omega) with rfl | rfl | rfl | rfl <;> simp [rdC, upd]
theorem rdC_setL (st : DS) (n : Int) : (rdC st).toArray.setIfInBounds 8 (.int .i64 n) = (rdC { st with left := n }).toArray := by simp [rdC]
theorem rdC_setD (st : DS) (d : Bool) : (rdC st).toArray.setIfInBounds 9 (.bool d) = (rdC { st with down := d }).toArray := by simp [rdC]
theorem rmay_c (st : DS) (f : Int) (w : World) : Calls Try.prog 17 #[.agg (rdC st).toArray, .int .i64 f] w fun e w' => e = .returned (.int .i64 (wrongF st.down f)) ∧ Below w.heap.size w w' :=
  rmay_any _ _ _ _ _ _ _ _ _ st.down f w
/-- a call that is counted -/
def rcallS (st : DS) : DS := { st with left := rlF st.left, down := st.down || decide (st.left = 0) }
theorem rcall_c (st : DS) (h : st.left ≤ 9223372036854775807) (w : World) : Calls Try.prog 18 #[.agg (rdC st).toArray] w fun e w' => e = .returned (.tuple #[.agg (rdC (rcallS st)).toArray, .bool (!decide (st.left = 0))]) ∧ Below w.heap.size w w' :=
  rcall_any _ _ _ _ _ _ _ _ st.left h st.down w
theorem rstr_append (xs ys : List Int) : strOfNums xs ++ strOfNums ys = strOfNums (xs ++ ys) := by
  apply ByteArray.ext
  simp [strOfNums]
theorem rcall_downs {st : DS} (h : st.left = 0) : rcallS st = { st with left := -1, down := true } := by unfold rcallS rlF; rw [if_pos h, decide_eq_true h, Bool.or_true]
theorem rcall_done {st : DS} (h : ¬ st.left = 0) : rcallS st = { st with left := if 0 < st.left then st.left - 1 else st.left } := by unfold rcallS rlF; rw [if_neg h, decide_eq_false h, Bool.or_false]
/-- what is asked of a disk's numbers -/
structure DFit (st : DS) : Prop where
  fits : ∀ k, k < 4 → (st.b k).length ≤ 1048576
  safe : ∀ k, k < 4 → st.s k ≤ (st.b k).length
  left : -1 ≤ st.left ∧ st.left ≤ 9223372036854775807
theorem DFit.call {st : DS} (h : DFit st) {q : Nat} (hq : q = 0 ∨ q = 1 ∨ q = 2) (f : Int) (xs : List Int) : DFit (callF q st f xs).1 := by
  unfold callF
  split
  · exact h
  · rename_i hw
    have hw0 : wrongF st.down f = 0 := Classical.byContradiction hw
    obtain ⟨_, h0, h3⟩ := wrongF_zero hw0
    split
    · exact h
    · rename_i hl
      have hd : ∀ q', (q' = 0 ∨ q' = 1 ∨ q' = 2) → DFit (st.deed q' f.toNat xs) := by
        rintro q' (rfl | rfl | rfl)
        · refine ⟨fun k hk => ?_, fun k hk => ?_, h.left⟩
          · show (upd st.b f.toNat (st.b f.toNat ++ xs) k).length ≤ 1048576
            by_cases he : k = f.toNat
            · subst he; rw [upd_at]; simp; omega
            · rw [upd_ne _ _ he]; exact h.fits k hk
          · show st.s k ≤ (upd st.b f.toNat (st.b f.toNat ++ xs) k).length
            by_cases he : k = f.toNat
            · subst he; rw [upd_at]; have := h.safe _ hk; simp; omega
            · rw [upd_ne _ _ he]; exact h.safe k hk
        · refine ⟨fun k hk => h.fits k hk, fun k hk => ?_, h.left⟩
          show upd st.s f.toNat (st.b f.toNat).length k ≤ (st.b k).length
          by_cases he : k = f.toNat
          · subst he; rw [upd_at]; exact Nat.le_refl _
          · rw [upd_ne _ _ he]; exact h.safe k hk
        · refine ⟨fun k hk => ?_, fun k hk => ?_, h.left⟩
          · show (upd st.b f.toNat [] k).length ≤ 1048576
            by_cases he : k = f.toNat
            · subst he; rw [upd_at]; decide
            · rw [upd_ne _ _ he]; exact h.fits k hk
          · show upd st.s f.toNat 0 k ≤ (upd st.b f.toNat [] k).length
            by_cases he : k = f.toNat
            · subst he; rw [upd_at, upd_at]; exact Nat.le_refl _
            · rw [upd_ne _ _ he, upd_ne _ _ he]; exact h.safe k hk
      split
      · by_cases hq0 : q = 0
        · rw [if_pos hq0]; exact ⟨(hd 0 (.inl rfl)).fits, (hd 0 (.inl rfl)).safe, show -1 ≤ (-1 : Int) ∧ (-1 : Int) ≤ 9223372036854775807 by decide⟩
        · rw [if_neg hq0]; exact ⟨h.fits, h.safe, show -1 ≤ (-1 : Int) ∧ (-1 : Int) ≤ 9223372036854775807 by decide⟩
      · refine ⟨(hd q hq).fits, (hd q hq).safe, ?_⟩
        have := h.left
        show -1 ≤ (if 0 < st.left then st.left - 1 else st.left) ∧ (if 0 < st.left then st.left - 1 else st.left) ≤ 9223372036854775807
        split <;> omega
end Go.Proofs.Ytemkjgohpihigaa
