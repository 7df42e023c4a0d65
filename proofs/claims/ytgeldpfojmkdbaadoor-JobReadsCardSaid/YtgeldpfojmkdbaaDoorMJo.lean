/- An act upon a job, plainly (layer 15's law JobRight): what comes of a right job is right, and is tried no more often than it may. No condition but that the act's numbers fit their kinds. -/
import Derived.Test.YtgeldpfojmkdbaaDoorMak
namespace Go.Proofs.YtgeldpfojmkdbaaDoor
set_option linter.unusedVariables false
open Go.ChangeShapes Go.WideShapes Go.ChangeAt Go.RowKit

structure ActV where
  kind : Int
  now : Int
  nodes : NSet
  n : Int
structure ActV.Ok (a : ActV) : Prop where
  now : -9223372036854775808 ≤ a.now ∧ a.now ≤ 9223372036854775807
  n : -9223372036854775808 ≤ a.n ∧ a.n ≤ 9223372036854775807
def actC (a : ActV) : List Value := [.int .i64 a.kind, .int .i64 a.now, .int .u64 (nv a.nodes), .int .i64 a.n]
/-- what an act makes of a job, and its error -/
def actJ (j : JobV) (a : ActV) (r : Int) : JobV × Int :=
  if a.kind == 0 then beginJ j a.now a.nodes else if a.kind == 1 then stopJ j a.now a.n else if a.kind == 2 then loseJ j a.now a.n r else (j, 0)
/-- the job behind an act -/
def nextJ (j : JobV) (a : ActV) (r : Int) : JobV := if (actJ j a r).2 == 0 then (actJ j a r).1 else j
/-- how often it is tried -/
def InvT (r : Int) (j : JobV) : Prop := (j.state = 0 → j.tries ≤ r) ∧ j.tries ≤ r + 1
theorem begin_wait {j : JobV} {now : Int} {n : NSet} (h : (beginJ j now n).2 = 0) : j.state = 0 ∧ (beginJ j now n).1.state = 1 := by
  unfold beginJ at h ⊢
  cases hr : rightB j with
  | false => rw [hr] at h; exact absurd h (by simp)
  | true =>
    rw [hr] at h
    cases hs : (j.state == 0) with
    | false => rw [hs] at h; exact absurd h (by simp)
    | true =>
      have hs' : j.state = 0 := by simpa using hs
      rw [hs] at h
      refine ⟨hs', ?_⟩
      generalize (!true || j.hold) = c1 at *
      generalize (!timeB now || (now == 1099511627776)) = c2 at *
      generalize (!fitsB j n) = c3 at *
      generalize (j.tries == 9) = c4 at *
      cases c1
      · cases c2
        · cases c3
          · cases c4
            · rfl
            · exact absurd h (by simp)
          · exact absurd h (by simp)
        · exact absurd h (by simp)
      · exact absurd h (by simp)
theorem act_ok {j : JobV} {a : ActV} {r : Int} (h : j.Ok) (ha : a.Ok) : (actJ j a r).1.Ok := by
  unfold actJ
  split
  · exact begin_ok h ha.now _
  · split
    · exact stop_ok h ha.now ha.n
    · split
      · exact lose_ok h ha.now
      · exact h
/-- what the law asks of each act that answers with no error: the job is right; where it runs its nodes are as many as it needs, none barred; one that was over is as it was -/
theorem act_right {j : JobV} {a : ActV} {r : Int} (hj : rightB j = true) (h : (actJ j a r).2 = 0) :
    rightB (actJ j a r).1 = true ∧ (((actJ j a r).1.state == 1) = true → fitsB (actJ j a r).1 (actJ j a r).1.nodes = true) ∧ (overB j = true → (actJ j a r).1 = j) := by
  have key : rightB (actJ j a r).1 = true → (((actJ j a r).1.state == 1) = true → fitsB (actJ j a r).1 (actJ j a r).1.nodes = true) := fun hr hs => (state_run (rightB_iff.1 hr).st hs).2.1
  suffices H : rightB (actJ j a r).1 = true ∧ (overB j = true → (actJ j a r).1 = j) from ⟨H.1, key H.1, H.2⟩
  clear key
  unfold actJ at h ⊢
  split
  · rename_i hk
    rw [if_pos hk] at h
    obtain ⟨e1, _, e3, _⟩ := begin_right h
    exact ⟨e1, fun ho => absurd (ho.symm.trans e3) (by decide)⟩
  · rename_i hk
    rw [if_neg hk] at h
    split
    · rename_i hk1
      rw [if_pos hk1] at h
      obtain ⟨e1, e2, _, _⟩ := stop_right h
      exact ⟨e1, fun ho => absurd (ho.symm.trans e2) (by decide)⟩
    · rename_i hk1
      rw [if_neg hk1] at h
      split
      · rename_i hk2
        rw [if_pos hk2] at h
        obtain ⟨e1, e2, _⟩ := lose_right h
        exact ⟨e1, fun ho => absurd (ho.symm.trans e2) (by decide)⟩
      · exact ⟨hj, fun _ => rfl⟩
theorem act_tries {j : JobV} {a : ActV} {r : Int} (hr0 : 0 ≤ r) (hj : rightB j = true) (hT : InvT r j) (h : (actJ j a r).2 = 0) : InvT r (actJ j a r).1 := by
  unfold actJ at h ⊢
  split
  · rename_i hk
    rw [if_pos hk] at h
    obtain ⟨_, _, _, e4⟩ := begin_right h
    obtain ⟨w0, w1⟩ := begin_wait h
    refine ⟨fun h0 => by rw [w1] at h0; exact absurd h0 (by decide), ?_⟩
    rw [e4]
    have := hT.1 w0
    omega
  · rename_i hk
    rw [if_neg hk] at h
    split
    · rename_i hk1
      rw [if_pos hk1] at h
      obtain ⟨e1, e2, e3, e4⟩ := stop_right h
      have hst : (stopJ j a.now a.n).1.state = 0 → (stopJ j a.now a.n).1.tries ≤ r := fun h0 => by
        refine absurd h0 ?_
        unfold stopJ at h ⊢
        cases hrj : rightB j with
        | false => rw [hrj] at h; exact absurd h (by simp)
        | true =>
          rw [hrj] at h
          cases hw : inI a.n 2 5 with
          | false => rw [hw] at h; exact absurd h (by simp)
          | true =>
            rw [hw] at h
            cases ho : (overB j || ((j.state == 0) && ((a.n == 2) || (a.n == 5)))) with
            | true => rw [ho] at h; exact absurd h (by simp)
            | false =>
              rw [ho] at h
              cases hl : lateB j a.now with
              | true => rw [hl] at h; exact absurd h (by simp)
              | false =>
                simp only [Bool.not_true, Bool.false_eq_true, if_false]
                have hwi := inI_yes hw
                unfold endJ
                split
                · show ¬ a.n = 0; omega
                · split
                  · show ¬ a.n = 0; omega
                  · rename_i hz _
                    simpa using hz
      exact ⟨hst, by have := hT.2; omega⟩
    · rename_i hk1
      rw [if_neg hk1] at h
      split
      · rename_i hk2
        rw [if_pos hk2] at h
        obtain ⟨_, _, e3, _, e5⟩ := lose_right h
        exact ⟨fun h0 => e5 (by rw [h0]; rfl), by have := hT.2; omega⟩
      · exact hT
theorem next_ok {j : JobV} {a : ActV} {r : Int} (h : j.Ok) (ha : a.Ok) : (nextJ j a r).Ok := by
  unfold nextJ
  split
  · exact act_ok h ha
  · exact h
theorem next_right {j : JobV} {a : ActV} {r : Int} (h : rightB j = true) : rightB (nextJ j a r) = true := by
  unfold nextJ
  split
  · rename_i he
    exact (act_right h (by simpa using he)).1
  · exact h
theorem next_tries {j : JobV} {a : ActV} {r : Int} (hr0 : 0 ≤ r) (hj : rightB j = true) (hT : InvT r j) : InvT r (nextJ j a r) := by
  unfold nextJ
  split
  · rename_i he
    exact act_tries hr0 hj hT (by simpa using he)
  · exact hT
end Go.Proofs.YtgeldpfojmkdbaaDoor
