/- What comes of a right job is right (layer 15), plainly. No condition. -/
import Derived.Test.YtgeldpfojmkdbaaJa
namespace Go.Proofs.Ytgeldpfojmkdbaa
set_option linter.unusedVariables false
open Go.ChangeShapes Go.WideShapes Go.ChangeAt Go.RowKit

theorem inI_true {v lo hi : Int} (h0 : lo ≤ v) (h1 : v ≤ hi) : inI v lo hi = true := by
  unfold inI
  rw [decide_eq_true h0, decide_eq_true h1]; rfl
/-- what is known of a right job -/
structure RightP (j : JobV) : Prop where
  nums : numsB j = true
  more : moreB j = true
  times : (timesJ j).all timeB = true
  st : stateB j = true
theorem rightB_iff {j : JobV} : rightB j = true ↔ RightP j := by
  unfold rightB
  simp only [Bool.and_eq_true]
  exact ⟨fun ⟨⟨⟨a, b⟩, c⟩, d⟩ => ⟨a, b, c, d⟩, fun ⟨a, b, c, d⟩ => ⟨⟨⟨a, b⟩, c⟩, d⟩⟩
theorem RightP.time {j : JobV} (h : RightP j) : timeB j.sent = true ∧ timeB j.plan = true ∧ timeB j.promise = true ∧ timeB j.start = true ∧ timeB j.fin = true := by
  have := h.times
  unfold timesJ at this
  simp only [List.all_cons, List.all_nil, Bool.and_eq_true, Bool.and_true] at this
  exact this
theorem times_of {j : JobV} (h : timeB j.sent = true ∧ timeB j.plan = true ∧ timeB j.promise = true ∧ timeB j.start = true ∧ timeB j.fin = true) : (timesJ j).all timeB = true := by
  unfold timesJ
  simp only [List.all_cons, List.all_nil, Bool.and_eq_true, Bool.and_true]
  exact h
theorem timeB_zero : timeB 0 = true := by decide
theorem timeB_never : timeB 1099511627776 = true := by decide
theorem RightP.tries {j : JobV} (h : RightP j) : 0 ≤ j.tries ∧ j.tries ≤ 9 := by
  have := h.more
  unfold moreB at this
  simp only [Bool.and_eq_true] at this
  exact inI_yes this.2
theorem more_tries {j k : JobV} (h : moreB j = true) (e : k.limit = j.limit ∧ k.nice = j.nice ∧ k.after = j.after ∧ k.id = j.id) (ht : inI k.tries 0 9 = true) : moreB k = true := by
  unfold moreB at h ⊢
  rw [e.1, e.2.1, e.2.2.1, e.2.2.2, ht]
  simp only [Bool.and_eq_true] at h ⊢
  exact ⟨h.1, trivial⟩
theorem state_wait {j : JobV} (h : stateB j = true) (hs : (j.state == 0) = true) : nv j.nodes = 0 ∧ j.start = 0 ∧ j.fin = 0 := by
  unfold stateB at h
  rw [hs] at h
  simp only [if_true, Bool.and_eq_true, beq_iff_eq] at h
  exact ⟨h.1.1, h.1.2, h.2⟩
theorem state_run {j : JobV} (h : stateB j = true) (hs : (j.state == 1) = true) : j.hold = false ∧ fitsB j j.nodes = true ∧ 1 ≤ j.tries ∧ j.start < 1099511627776 ∧ j.fin = 0 := by
  have h1 : j.state = 1 := by simpa using hs
  unfold stateB at h
  rw [h1] at h
  simp only [show ((1 : Int) == 0) = false from rfl, show ((1 : Int) == 1) = true from rfl, if_true, Bool.and_eq_true, beq_iff_eq, Bool.not_eq_true', decide_eq_true_eq, Bool.false_eq_true, if_false] at h
  exact ⟨h.1.1.1.1, h.1.1.1.2, h.1.1.2, h.1.2, h.2⟩
theorem begin_right {j : JobV} {now : Int} {n : NSet} (h : (beginJ j now n).2 = 0) : rightB (beginJ j now n).1 = true ∧ fitsB (beginJ j now n).1 (beginJ j now n).1.nodes = true ∧ overB j = false ∧ (beginJ j now n).1.tries = j.tries + 1 := by
  unfold beginJ at h ⊢
  cases hr : rightB j with
  | false => rw [hr] at h; exact absurd h (by simp)
  | true =>
    rw [hr] at h
    have R := rightB_iff.1 hr
    cases hs : (j.state == 0) with
    | false => rw [hs] at h; exact absurd h (by simp)
    | true =>
      rw [hs] at h
      cases hh : j.hold with
      | true => rw [hh] at h; exact absurd h (by simp)
      | false =>
        rw [hh] at h
        cases ht : timeB now with
        | false => rw [ht] at h; exact absurd h (by simp)
        | true =>
          rw [ht] at h
          cases hn : (now == 1099511627776) with
          | true => rw [hn] at h; exact absurd h (by simp)
          | false =>
            rw [hn] at h
            cases hf : fitsB j n with
            | false => rw [hf] at h; exact absurd h (by simp)
            | true =>
              rw [hf] at h
              cases h9 : (j.tries == 9) with
              | true => rw [h9] at h; exact absurd h (by simp)
              | false =>
                simp only [Bool.not_true, Bool.false_eq_true, if_false, Bool.or_self]
                obtain ⟨w0, w1, w2⟩ := state_wait R.st hs
                have T := R.time
                have ht2 := timeB_yes ht
                have h9' : j.tries ≠ 9 := by simpa using h9
                have hn' : now ≠ 1099511627776 := by simpa using hn
                have hs' : j.state = 0 := by simpa using hs
                have htr := R.tries
                refine ⟨rightB_iff.2 ⟨R.nums, more_tries R.more ⟨rfl, rfl, rfl, rfl⟩ (inI_true (by show 0 ≤ j.tries + 1; omega) (by show j.tries + 1 ≤ 9; omega)), times_of ⟨T.1, T.2.1, T.2.2.1, ht, T.2.2.2.2⟩, ?_⟩, hf, ?_, by trivial⟩
                · show (!false && fitsB j n && decide (1 ≤ j.tries + 1) && decide (now < 1099511627776) && (j.fin == 0)) = true
                  rw [hf, decide_eq_true (by omega), decide_eq_true (by omega), w2]; rfl
                · unfold overB; rw [hs']; rfl
theorem end_right {j : JobV} {now how : Int} (h : rightB j = true) (hw : inI how 2 5 = true) (hl : lateB j now = false) : rightB (endJ j now how) = true ∧ (overB j = true → endJ j now how = j) ∧ (endJ j now how).tries ≤ j.tries ∧ ((endJ j now how).state == 1) = false := by
  have R := rightB_iff.1 h
  have T := R.time
  have htr := R.tries
  have hwi := inI_yes hw
  have hw0 : (how == 0) = false := by rw [beq_eq_false_iff_ne]; omega
  have hw1 : (how == 1) = false := by rw [beq_eq_false_iff_ne]; omega
  have hnow : timeB now = true := by
    unfold lateB at hl
    cases ht : timeB now with
    | true => rfl
    | false => rw [ht] at hl; exact absurd hl (by simp)
  by_cases h0 : (j.state == 0) = true
  · have h0' : j.state = 0 := by simpa using h0
    obtain ⟨w0, w1, w2⟩ := state_wait R.st h0
    have he : endJ j now how = { j with start := now, tries := 0, state := how, fin := now } := by unfold endJ; rw [h0]; rfl
    rw [he]
    refine ⟨rightB_iff.2 ⟨R.nums, more_tries R.more ⟨rfl, rfl, rfl, rfl⟩ (by rfl), times_of ⟨T.1, T.2.1, T.2.2.1, hnow, hnow⟩, ?_⟩, fun ho => ?_, htr.1, hw1⟩
    · show (if (how == 0) then _ else if (how == 1) then _ else if inI how 2 5 then (if ((0 : Int) == 0) then (nv j.nodes == 0) && decide (now ≤ now) else _) else false) = true
      rw [hw0, hw1, hw, w0, decide_eq_true (Int.le_refl now)]; rfl
    · unfold overB at ho; rw [h0'] at ho; exact absurd ho (by decide)
  · have h0f : (j.state == 0) = false := by simpa using h0
    by_cases h1 : (j.state == 1) = true
    · have h1' : j.state = 1 := by simpa using h1
      obtain ⟨r0, r1, r2, r3, r4⟩ := state_run R.st h1
      have he : endJ j now how = { j with state := how, fin := now } := by unfold endJ; rw [h0f, h1]; rfl
      have hsn : j.start ≤ now := by
        unfold lateB at hl
        rw [hnow, h1] at hl
        have := of_decide_eq_false (show decide (now < j.start) = false by simpa using hl)
        omega
      have ht0 : (j.tries == 0) = false := by rw [beq_eq_false_iff_ne]; omega
      have hcw : ((card j.nodes : Int) == j.width) = true := by
        unfold fitsB at r1
        rw [Bool.and_eq_true] at r1
        exact r1.1
      rw [he]
      refine ⟨rightB_iff.2 ⟨R.nums, R.more, times_of ⟨T.1, T.2.1, T.2.2.1, T.2.2.2.1, hnow⟩, ?_⟩, fun ho => ?_, Int.le_refl _, hw1⟩
      · show (if (how == 0) then _ else if (how == 1) then _ else if inI how 2 5 then (if (j.tries == 0) then _ else ((card j.nodes : Int) == j.width) && decide (j.start ≤ now)) else false) = true
        rw [hw0, hw1, hw, ht0, hcw, decide_eq_true hsn]; rfl
      · unfold overB at ho; rw [h1'] at ho; exact absurd ho (by decide)
    · have h1f : (j.state == 1) = false := by simpa using h1
      have he : endJ j now how = j := by unfold endJ; rw [h0f, h1f]; rfl
      rw [he]
      exact ⟨h, fun _ => rfl, Int.le_refl _, h1f⟩
theorem stop_right {j : JobV} {now how : Int} (h : (stopJ j now how).2 = 0) : rightB (stopJ j now how).1 = true ∧ overB j = false ∧ (stopJ j now how).1.tries ≤ j.tries ∧ ((stopJ j now how).1.state == 1) = false := by
  unfold stopJ at h ⊢
  cases hr : rightB j with
  | false => rw [hr] at h; exact absurd h (by simp)
  | true =>
    rw [hr] at h
    cases hw : inI how 2 5 with
    | false => rw [hw] at h; exact absurd h (by simp)
    | true =>
      rw [hw] at h
      cases ho : (overB j || ((j.state == 0) && ((how == 2) || (how == 5)))) with
      | true => rw [ho] at h; exact absurd h (by simp)
      | false =>
        rw [ho] at h
        cases hl : lateB j now with
        | true => rw [hl] at h; exact absurd h (by simp)
        | false =>
          simp only [Bool.not_true, Bool.false_eq_true, if_false]
          obtain ⟨e1, _, e3, e4⟩ := end_right hr hw hl
          exact ⟨e1, (Bool.or_eq_false_iff.1 ho).1, e3, e4⟩
theorem lose_right {j : JobV} {now node retries : Int} (h : (loseJ j now node retries).2 = 0) : rightB (loseJ j now node retries).1 = true ∧ overB j = false ∧ (loseJ j now node retries).1.tries ≤ j.tries ∧ ((loseJ j now node retries).1.state == 1) = false ∧ (((loseJ j now node retries).1.state == 0) = true → (loseJ j now node retries).1.tries ≤ retries) := by
  unfold loseJ at h ⊢
  cases hr : rightB j with
  | false => rw [hr] at h; exact absurd h (by simp)
  | true =>
    rw [hr] at h
    have R := rightB_iff.1 hr
    have T := R.time
    cases hs : (j.state == 1) with
    | false => rw [hs] at h; exact absurd h (by simp)
    | true =>
      rw [hs] at h
      have hs' : j.state = 1 := by simpa using hs
      have hov : overB j = false := by unfold overB; rw [hs']; rfl
      cases hh : hasI j.nodes node with
      | false => rw [hh] at h; exact absurd h (by simp)
      | true =>
        rw [hh] at h
        cases hl : lateB j now with
        | true => rw [hl] at h; exact absurd h (by simp)
        | false =>
          cases hd : decide (retries < j.tries) with
          | true =>
            simp only [Bool.not_true, Bool.false_eq_true, if_false, if_true]
            obtain ⟨e1, _, e3, e4⟩ := end_right hr (show inI 3 2 5 = true by decide) hl
            refine ⟨e1, hov, e3, e4, fun h0 => ?_⟩
            have he : endJ j now 3 = { j with state := 3, fin := now } := by unfold endJ; rw [hs', show ((1 : Int) == 0) = false from rfl]; rfl
            rw [he] at h0
            exact absurd h0 (show ¬ (((3 : Int) == 0) = true) by decide)
          | false =>
            simp only [Bool.not_true, Bool.false_eq_true, if_false]
            have hle := of_decide_eq_false hd
            refine ⟨rightB_iff.2 ⟨R.nums, R.more, times_of ⟨T.1, timeB_never, timeB_never, timeB_zero, timeB_zero⟩, rfl⟩, hov, Int.le_refl _, rfl, fun _ => by show j.tries ≤ retries; omega⟩
end Go.Proofs.Ytgeldpfojmkdbaa
