/- What is laid of a job is read back (layer 15), plainly; what comes of a job fits its kinds. No condition but that the job's numbers fit theirs. -/
import Derived.Test.YtgeldpfojmkdbaaDoorJi
import Derived.Test.YtgeldpfojmkdbaaDoorJk
namespace Go.Proofs.YtgeldpfojmkdbaaDoor
set_option linter.unusedVariables false
open Go.ChangeShapes Go.WideShapes Go.ChangeAt Go.RowKit

theorem setOf_wrap (s : NSet) : setOf (wrap64 (nv s)) = s := by
  apply nv_inj
  rw [nv_setOf, IntKind.wrap_u64]
  have := nv_lo s
  have := nv_hi s
  unfold wrap64
  omega
theorem holdN_one (b : Bool) : (holdN b == 1) = b := by cases b <;> rfl
theorem putJ_flat (j : JobV) (ys : List Int) : putJ j ++ ys = putI j.id ++ (putI j.user ++ (putI j.part ++ (putI j.width ++ (putI j.limit ++ (putI j.nice ++ (putI j.after ++ (putI (holdN j.hold) ++ (putI j.state ++ (putI j.sent ++ (putI j.plan ++ (putI j.promise ++ (putI j.tries ++ (putI (wrap64 (nv j.black)) ++ (putI (wrap64 (nv j.nodes)) ++ (putI j.start ++ (putI j.fin ++ ys)))))))))))))))) := by
  unfold putJ jobN
  simp only [List.flatMap_cons, List.flatMap_nil, List.append_assoc, List.nil_append]
theorem read_put {j : JobV} (h : j.Ok) (ys : List Int) : readJ (putJ j ++ ys) = (⟨ys, 0⟩, j) := by
  have hi := jobN_in h
  unfold jobN at hi
  simp only [List.mem_cons, List.not_mem_nil, or_false, forall_eq_or_imp, forall_eq] at hi
  obtain ⟨h0, h1, h2, h3, h4, h5, h6, h7, h8, h9, h10, h11, h12, h13, h14, h15, h16⟩ := hi
  have hs0 : 0 ≤ holdN j.hold := by unfold holdN; split <;> omega
  have hs1 : holdN j.hold ≤ 1 := by unfold holdN; split <;> omega
  rw [putJ_flat]
  unfold readJ
  simp only [intF_put h0, intF_put h1, intF_put h2, intF_put h3, intF_put h4, intF_put h5, intF_put h6, smallF_put hs0 hs1 h7.2, intF_put h8, intF_put h9, intF_put h10, intF_put h11, intF_put h12, intF_put h13, intF_put h14, intF_put h15, intF_put h16, setOf_wrap, holdN_one]
theorem ok_of {k : JobV} (h : ∀ x ∈ k.ints, -9223372036854775808 ≤ x ∧ x ≤ 9223372036854775807) : k.Ok := ⟨h⟩
theorem begin_ok {j : JobV} (h : j.Ok) {now : Int} (hn : -9223372036854775808 ≤ now ∧ now ≤ 9223372036854775807) (n : NSet) : (beginJ j now n).1.Ok := by
  by_cases hr : rightB j = true
  · have htr := (rightB_iff.1 hr).tries
    have hi := h.inb
    unfold JobV.ints at hi
    simp only [List.mem_cons, List.not_mem_nil, or_false, forall_eq_or_imp, forall_eq] at hi
    unfold beginJ
    repeat' split
    all_goals first
      | exact job0_ok
      | (refine ⟨?_⟩
         unfold JobV.ints
         simp only [List.mem_cons, List.not_mem_nil, or_false, forall_eq_or_imp, forall_eq]
         omega)
  · have : rightB j = false := by simpa using hr
    unfold beginJ
    rw [this]
    exact job0_ok
theorem end_ok {j : JobV} (h : j.Ok) {now how : Int} (hn : -9223372036854775808 ≤ now ∧ now ≤ 9223372036854775807) (hw : -9223372036854775808 ≤ how ∧ how ≤ 9223372036854775807) : (endJ j now how).Ok := by
  have hi := h.inb
  unfold JobV.ints at hi
  simp only [List.mem_cons, List.not_mem_nil, or_false, forall_eq_or_imp, forall_eq] at hi
  unfold endJ
  repeat' split
  all_goals
    refine ⟨?_⟩
    unfold JobV.ints
    simp only [List.mem_cons, List.not_mem_nil, or_false, forall_eq_or_imp, forall_eq]
    omega
theorem stop_ok {j : JobV} (h : j.Ok) {now how : Int} (hn : -9223372036854775808 ≤ now ∧ now ≤ 9223372036854775807) (hw : -9223372036854775808 ≤ how ∧ how ≤ 9223372036854775807) : (stopJ j now how).1.Ok := by
  unfold stopJ
  repeat' split
  all_goals first
    | exact job0_ok
    | exact end_ok h hn hw
theorem lose_ok {j : JobV} (h : j.Ok) {now node retries : Int} (hn : -9223372036854775808 ≤ now ∧ now ≤ 9223372036854775807) : (loseJ j now node retries).1.Ok := by
  have hi := h.inb
  unfold JobV.ints at hi
  simp only [List.mem_cons, List.not_mem_nil, or_false, forall_eq_or_imp, forall_eq] at hi
  unfold loseJ
  repeat' split
  all_goals first
    | exact job0_ok
    | exact end_ok h hn (by omega)
    | (refine ⟨?_⟩
       unfold JobV.ints
       simp only [List.mem_cons, List.not_mem_nil, or_false, forall_eq_or_imp, forall_eq]
       omega)
end Go.Proofs.YtgeldpfojmkdbaaDoor
