/- Two commands, and two rows of twelve numbers, held against each other (layer 22). No condition. -/
import Derived.Test.YtlejicmpefdhpaaDoorCmdU
import Derived.Test.YtlejicmpefdhpaaDoorEqs
namespace Go.Proofs.YtlejicmpefdhpaaDoor
set_option linter.unusedVariables false
open Go.ChangeShapes Go.WideShapes Go.ChangeAt Go.RowKit

theorem sizeI64 (w : World) : (sizeOf 2).run Tryd.prog w = .ok 1 w := by kernel_rfl
theorem eqin12 {a b : List Int} (ha : a.length = 12) (hb : b.length = 12) (w : World) : (Op.equalIn 10000 55 (.agg (numC a).toArray) (.agg (numC b).toArray)).run Tryd.prog w = .ok (a == b) w := by
  unfold numC
  exact run_equalIn_ints w 9998 55 2 12 .i64 .i64 Tryd.underlying55 Tryd.underlying2 sizeI64 a b ha hb
theorem neq12 {a b : List Int} (ha : a.length = 12) (hb : b.length = 12) (w : World) : (binOp .neq 55 (.agg (numC a).toArray) (.agg (numC b).toArray)).run Tryd.prog w = .ok (.bool (!(a == b))) w := by
  rw [run_neq_struct]
  unfold numC
  rw [run_equalIn_ints w 9998 55 2 12 .i64 .i64 Tryd.underlying55 Tryd.underlying2 sizeI64 a b ha hb]
  rfl
theorem fields24 : (Tryd.prog.fieldsOf 24).toList.map (fun f => (f.name != "_", f.offset)) = (List.range 12).map fun i => (true, i) := by kernel_rfl
theorem ft24 : (Tryd.prog.fieldsOf 24).toList.all (fun f => if f.offset = 11 then (match Tryd.prog.underlying f.type with | some .bool => true | _ => false) else (match Tryd.prog.underlying f.type with | some (.int _) => true | _ => false)) = true := by kernel_rfl
theorem cmdC_at {xs : List Int} (h : xs.length = 12) {i : Nat} (hi : i < 11) : (cmdC xs).toArray[i]? = some (.int .i64 (xs.getD i 0)) := by
  obtain ⟨x0, x1, x2, x3, x4, x5, x6, x7, x8, x9, x10, x11, rfl⟩ := twelve h
  rcases (show i = 0 ∨ i = 1 ∨ i = 2 ∨ i = 3 ∨ i = 4 ∨ i = 5 ∨ i = 6 ∨ i = 7 ∨ i = 8 ∨ i = 9 ∨ i = 10 by omega) with rfl | rfl | rfl | rfl | rfl | rfl | rfl | rfl | rfl | rfl | rfl <;> rfl
theorem cmdC_at11 {xs : List Int} (h : xs.length = 12) : (cmdC xs).toArray[11]? = some (.bool (xs.getD 11 0 == 1)) := by
  obtain ⟨x0, x1, x2, x3, x4, x5, x6, x7, x8, x9, x10, x11, rfl⟩ := twelve h
  rfl
theorem eqinC {a b : List Int} (ha : Cmd12 a) (hb : Cmd12 b) (w : World) : (Op.equalIn 10000 24 (.agg (cmdC a).toArray) (.agg (cmdC b).toArray)).run Tryd.prog w = .ok (a == b) w := by
  have hS : Tryd.prog.underlying 24 = some (.struct (Tryd.prog.fieldsOf 24)) := by kernel_rfl
  have hp : Tryd.prog.stoodInHeld 24 = false := by kernel_rfl
  refine (run_equalIn_struct w 9999 _ _ _ hS hp).trans ?_
  have hall : (Tryd.prog.fieldsOf 24).toList.all (fun f => a.getD f.offset 0 == b.getD f.offset 0) = (a == b) := by
    rw [← all_range_ints a b (ha.len.trans hb.len.symm), ha.len]
    have h1 : (Tryd.prog.fieldsOf 24).toList.map (fun f => f.offset) = List.range 12 := by
      have := congrArg (List.map Prod.snd) fields24
      rw [List.map_map, List.map_map] at this
      exact this.trans rfl
    rw [← h1, List.all_map]
    rfl
  rw [run_eqFields_all w (fun f => a.getD f.offset 0 == b.getD f.offset 0), hall]
  · intro f hf
    have hm : (f.name != "_", f.offset) ∈ (List.range 12).map fun i => (true, i) := by
      rw [← fields24]; exact List.mem_map.2 ⟨f, hf, rfl⟩
    obtain ⟨i, hi, he⟩ := List.mem_map.1 hm
    rw [List.mem_range] at hi
    injection he with he1 he2
    refine ⟨by simpa using he1.symm, ?_⟩
    have ht := List.all_eq_true.1 ft24 f hf
    by_cases h11 : f.offset = 11
    · rw [if_pos h11] at ht
      have hu : Tryd.prog.underlying f.type = some .bool := by
        revert ht
        cases Tryd.prog.underlying f.type with
        | none => intro h; cases h
        | some d => cases d <;> intro h <;> first | rfl | cases h
      refine ⟨.bool (a.getD 11 0 == 1), .bool (b.getD 11 0 == 1), ?_, ?_, ?_⟩
      · simp [part, isAgg, run_underlying hu, h11, cmdC_at11 ha.len]
      · simp [part, isAgg, run_underlying hu, h11, cmdC_at11 hb.len]
      · refine (run_equalIn_bool w 9998 _ _ _ hu).trans ?_
        rw [h11, show ((a.getD 11 0 == 1) == (b.getD 11 0 == 1)) = (a.getD 11 0 == b.getD 11 0) by
          rcases ha.last with h | h <;> rcases hb.last with h' | h' <;> rw [h, h'] <;> decide]
    · rw [if_neg h11] at ht
      obtain ⟨k, hu⟩ : ∃ k, Tryd.prog.underlying f.type = some (.int k) := by
        revert ht
        cases Tryd.prog.underlying f.type with
        | none => intro h; cases h
        | some d => cases d <;> intro h <;> first | exact ⟨_, rfl⟩ | cases h
      have hlt : f.offset < 11 := by omega
      refine ⟨.int .i64 (a.getD f.offset 0), .int .i64 (b.getD f.offset 0), ?_, ?_, ?_⟩
      · have := cmdC_at ha.len hlt
        simp only [part, isAgg, Sem.run_bind, run_underlying hu, Result.andThen_ok, this]
        simp
      · have := cmdC_at hb.len hlt
        simp only [part, isAgg, Sem.run_bind, run_underlying hu, Result.andThen_ok, this]
        simp
      · exact run_equalIn_int w 9998 _ _ k _ _ hu
theorem eqlC {a b : List Int} (ha : Cmd12 a) (hb : Cmd12 b) (w : World) : (binOp .eql 24 (.agg (cmdC a).toArray) (.agg (cmdC b).toArray)).run Tryd.prog w = .ok (.bool (a == b)) w := by
  rw [run_eql_struct, eqinC ha hb w]
  rfl
end Go.Proofs.YtlejicmpefdhpaaDoor
