/- Two jobs held against each other (layer 15). No condition. -/
import Derived.Test.YtgeldpfojmkdbaaJa
import Derived.Test.YtgeldpfojmkdbaaEqs
namespace Go.Proofs.Ytgeldpfojmkdbaa
set_option linter.unusedVariables false
open Go.ChangeShapes Go.WideShapes Go.ChangeAt Go.RowKit

/-- a job as seventeen numbers -/
def keyJ (j : JobV) : List Int := [j.id, j.user, j.part, j.width, j.limit, j.nice, j.after, holdN j.hold, j.state, j.sent, j.plan, j.promise, j.tries, nv j.black, nv j.nodes, j.start, j.fin]
theorem holdN_inj {a b : Bool} (h : holdN a = holdN b) : a = b := by cases a <;> cases b <;> first | rfl | (revert h; decide)
theorem keyJ_inj {a b : JobV} (h : keyJ a = keyJ b) : a = b := by
  cases a; cases b
  unfold keyJ at h
  simp only [List.cons.injEq, and_true] at h
  obtain ⟨h0, h1, h2, h3, h4, h5, h6, h7, h8, h9, h10, h11, h12, h13, h14, h15, h16⟩ := h
  subst h0 h1 h2 h3 h4 h5 h6 h8 h9 h10 h11 h12 h15 h16
  rw [holdN_inj h7, nv_inj h13, nv_inj h14]
theorem keyJ_eq (a b : JobV) : (keyJ a == keyJ b) = true ↔ a = b := by
  rw [beq_iff_eq]
  exact ⟨keyJ_inj, fun h => by rw [h]⟩
def kindJ (i : Nat) : IntKind := if i = 13 ∨ i = 14 then .u64 else .i64
theorem jobC_at (j : JobV) {i : Nat} (hi : i < 17) (h7 : i ≠ 7) : (jobC j).toArray[i]? = some (.int (kindJ i) ((keyJ j).getD i 0)) := by
  rcases (show i = 0 ∨ i = 1 ∨ i = 2 ∨ i = 3 ∨ i = 4 ∨ i = 5 ∨ i = 6 ∨ i = 8 ∨ i = 9 ∨ i = 10 ∨ i = 11 ∨ i = 12 ∨ i = 13 ∨ i = 14 ∨ i = 15 ∨ i = 16 by omega) with rfl | rfl | rfl | rfl | rfl | rfl | rfl | rfl | rfl | rfl | rfl | rfl | rfl | rfl | rfl | rfl <;> rfl
theorem jobC_at7 (j : JobV) : (jobC j).toArray[7]? = some (.bool j.hold) := rfl
theorem fieldsJ : (Try.prog.fieldsOf 26).toList.map (fun f => (f.name != "_", f.offset)) = (List.range 17).map fun i => (true, i) := by kernel_rfl
theorem ftJ : (Try.prog.fieldsOf 26).toList.all (fun f => if f.offset = 7 then (match Try.prog.underlying f.type with | some .bool => true | _ => false) else (match Try.prog.underlying f.type with | some (.int _) => true | _ => false)) = true := by kernel_rfl
theorem eqinJ (a b : JobV) (w : World) : (Op.equalIn 10000 26 (.agg (jobC a).toArray) (.agg (jobC b).toArray)).run Try.prog w = .ok (keyJ a == keyJ b) w := by
  have hS : Try.prog.underlying 26 = some (.struct (Try.prog.fieldsOf 26)) := by kernel_rfl
  have hp : Try.prog.stoodInHeld 26 = false := by kernel_rfl
  refine (run_equalIn_struct w 9999 _ _ _ hS hp).trans ?_
  have hall : (Try.prog.fieldsOf 26).toList.all (fun f => (keyJ a).getD f.offset 0 == (keyJ b).getD f.offset 0) = (keyJ a == keyJ b) := by
    rw [← all_range_ints (keyJ a) (keyJ b) rfl, show (keyJ a).length = 17 from rfl]
    have h1 : (Try.prog.fieldsOf 26).toList.map (fun f => f.offset) = List.range 17 := by
      have := congrArg (List.map Prod.snd) fieldsJ
      rw [List.map_map, List.map_map] at this
      exact this.trans rfl
    rw [← h1, List.all_map]
    rfl
  rw [run_eqFields_all w (fun f => (keyJ a).getD f.offset 0 == (keyJ b).getD f.offset 0), hall]
  · intro f hf
    have hm : (f.name != "_", f.offset) ∈ (List.range 17).map fun i => (true, i) := by
      rw [← fieldsJ]; exact List.mem_map.2 ⟨f, hf, rfl⟩
    obtain ⟨i, hi, he⟩ := List.mem_map.1 hm
    rw [List.mem_range] at hi
    injection he with he1 he2
    refine ⟨by simpa using he1.symm, ?_⟩
    have ht := List.all_eq_true.1 ftJ f hf
    by_cases h7 : f.offset = 7
    · rw [if_pos h7] at ht
      have hu : Try.prog.underlying f.type = some .bool := by
        revert ht
        cases Try.prog.underlying f.type with
        | none => intro h; cases h
        | some d => cases d <;> intro h <;> first | rfl | cases h
      refine ⟨.bool a.hold, .bool b.hold, ?_, ?_, ?_⟩
      · have := jobC_at7 a
        simp only [part, isAgg, Sem.run_bind, run_underlying hu, Result.andThen_ok, h7, this]
        simp
      · have := jobC_at7 b
        simp only [part, isAgg, Sem.run_bind, run_underlying hu, Result.andThen_ok, h7, this]
        simp
      · refine (run_equalIn_bool w 9998 _ _ _ hu).trans ?_
        rw [h7, show (a.hold == b.hold) = ((keyJ a).getD 7 0 == (keyJ b).getD 7 0) by
          show (a.hold == b.hold) = (holdN a.hold == holdN b.hold)
          cases a.hold <;> cases b.hold <;> decide]
    · rw [if_neg h7] at ht
      obtain ⟨k, hu⟩ : ∃ k, Try.prog.underlying f.type = some (.int k) := by
        revert ht
        cases Try.prog.underlying f.type with
        | none => intro h; cases h
        | some d => cases d <;> intro h <;> first | exact ⟨_, rfl⟩ | cases h
      have hlt : f.offset < 17 := by omega
      refine ⟨.int (kindJ f.offset) ((keyJ a).getD f.offset 0), .int (kindJ f.offset) ((keyJ b).getD f.offset 0), ?_, ?_, ?_⟩
      · have := jobC_at a hlt h7
        simp only [part, isAgg, Sem.run_bind, run_underlying hu, Result.andThen_ok, this]
        simp
      · have := jobC_at b hlt h7
        simp only [part, isAgg, Sem.run_bind, run_underlying hu, Result.andThen_ok, this]
        simp
      · exact run_equalIn_int w 9998 _ _ k _ _ hu
end Go.Proofs.Ytgeldpfojmkdbaa
