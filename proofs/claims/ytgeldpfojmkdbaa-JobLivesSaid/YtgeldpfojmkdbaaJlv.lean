/- JobLives walked, at any job, acts and number of retries (layer 15). No condition. -/
import Derived.Test.YtgeldpfojmkdbaaJz
import Derived.Test.YtgeldpfojmkdbaaJnp
import Derived.Test.YtgeldpfojmkdbaaJqp
import Derived.Test.YtgeldpfojmkdbaaJp
import Derived.Test.YtgeldpfojmkdbaaRelL
import Derived.Test.YtgeldpfojmkdbaaHeld
import Derived.Test.YtgeldpfojmkdbaaFork
import Derived.Deep.CutBlock
namespace Go.Proofs.Ytgeldpfojmkdbaa
set_option linter.unusedVariables false
open Go.ChangeShapes Go.WideShapes Go.ChangeAt Go.RowKit
attribute [local go_sem ↓] Go.wp_at_zero Go.wp_at_succ comesTo_value_eq comesTo_skip_eq comesTo_enter_eq Rl.comesToR_value_eq Rl.comesToR_skip_eq Rl.comesToR_enter_eq

set_option maxRecDepth 100000 in
set_option maxHeartbeats 4000000 in
theorem own15_any (j : JobV) (w : World) : Calls Try.prog 4 #[.agg (jobC j).toArray] w fun e w' => e = .returned (.agg (jobC j).toArray) ∧ Below w.heap.size w w' := by
  have HLEN := Lib.hid (jobC_len j)
  have HONE := Lib.hid (jobC_one j)
  have HLE := Lib.hid (show (.agg (jobC j).toArray : Value) = .agg #[.int .i64 j.id, .int .i64 j.user, .int .i64 j.part, .int .i64 j.width, .int .i64 j.limit, .int .i64 j.nice, .int .i64 j.after, .bool j.hold, .int .i64 j.state, .int .i64 j.sent, .int .i64 j.plan, .int .i64 j.promise, .int .i64 j.tries, .int .u64 (nv j.black), .int .u64 (nv j.nodes), .int .i64 j.start, .int .i64 j.fin] from rfl)
  have k0 : (jobC j).toArray[0]? = some (.int .i64 j.id) := rfl
  have k1 : (jobC j).toArray[1]? = some (.int .i64 j.user) := rfl
  have k2 : (jobC j).toArray[2]? = some (.int .i64 j.part) := rfl
  have k3 : (jobC j).toArray[3]? = some (.int .i64 j.width) := rfl
  have k4 : (jobC j).toArray[4]? = some (.int .i64 j.limit) := rfl
  have k5 : (jobC j).toArray[5]? = some (.int .i64 j.nice) := rfl
  have k6 : (jobC j).toArray[6]? = some (.int .i64 j.after) := rfl
  have k7 : (jobC j).toArray[7]? = some (.bool j.hold) := rfl
  have k8 : (jobC j).toArray[8]? = some (.int .i64 j.state) := rfl
  have k9 : (jobC j).toArray[9]? = some (.int .i64 j.sent) := rfl
  have k10 : (jobC j).toArray[10]? = some (.int .i64 j.plan) := rfl
  have k11 : (jobC j).toArray[11]? = some (.int .i64 j.promise) := rfl
  have k12 : (jobC j).toArray[12]? = some (.int .i64 j.tries) := rfl
  have k13 : (jobC j).toArray[13]? = some (.int .u64 (nv j.black)) := rfl
  have k14 : (jobC j).toArray[14]? = some (.int .u64 (nv j.nodes)) := rfl
  have k15 : (jobC j).toArray[15]? = some (.int .i64 j.start) := rfl
  have k16 : (jobC j).toArray[16]? = some (.int .i64 j.fin) := rfl
  generalize hl : jobC j = l at *
  clear hl
  go_enter Try.func4, Try.ntmps4
  go_upto_region 1 with fail
  have hA := below_alloc (Below.refl _ w) (.cells l.toArray 26)
  have hB := below_alloc (Below.refl _ (w.alloc (.cells l.toArray 26))) (.cells #[.int .i64 0, .int .i64 0, .int .i64 0, .int .i64 0, .int .i64 0, .int .i64 0, .int .i64 0, .bool false, .int .i64 0, .int .i64 0, .int .i64 0, .int .i64 0, .int .i64 0, .int .u64 0, .int .u64 0, .int .i64 0, .int .i64 0] 29)
  have hC := (hB.block w.heap.size (by simp)).trans (World.alloc_heap_new w (.cells l.toArray 26))
  have hN := World.alloc_heap_new (w.alloc (.cells l.toArray 26)) (.cells #[.int .i64 0, .int .i64 0, .int .i64 0, .int .i64 0, .int .i64 0, .int .i64 0, .int .i64 0, .bool false, .int .i64 0, .int .i64 0, .int .i64 0, .int .i64 0, .int .i64 0, .int .u64 0, .int .u64 0, .int .i64 0, .int .i64 0] 29)
  rw [show (w.alloc (.cells l.toArray 26)).heap.size = w.heap.size + 1 by simp] at hN
  have HB := Lib.hid (below_next hA hB)
  have HN := Lib.hid hN
  clear hA hB hN
  generalize (w.alloc (.cells l.toArray 26)).alloc (.cells #[.int .i64 0, .int .i64 0, .int .i64 0, .int .i64 0, .int .i64 0, .int .i64 0, .int .i64 0, .bool false, .int .i64 0, .int .i64 0, .int .i64 0, .int .i64 0, .int .i64 0, .int .u64 0, .int .u64 0, .int .i64 0, .int .i64 0] 29) = U at *
  have c0 := cell_of_block (o := 0) hC k0
  have c1 := cell_of_block (o := 1) hC k1
  have c2 := cell_of_block (o := 2) hC k2
  have c3 := cell_of_block (o := 3) hC k3
  have c4 := cell_of_block (o := 4) hC k4
  have c5 := cell_of_block (o := 5) hC k5
  have c6 := cell_of_block (o := 6) hC k6
  have c7 := cell_of_block (o := 7) hC k7
  have c8 := cell_of_block (o := 8) hC k8
  have c9 := cell_of_block (o := 9) hC k9
  have c10 := cell_of_block (o := 10) hC k10
  have c11 := cell_of_block (o := 11) hC k11
  have c12 := cell_of_block (o := 12) hC k12
  have c13 := cell_of_block (o := 13) hC k13
  have c14 := cell_of_block (o := 14) hC k14
  have c15 := cell_of_block (o := 15) hC k15
  have c16 := cell_of_block (o := 16) hC k16
  clear hC k0 k1 k2 k3 k4 k5 k6 k7 k8 k9 k10 k11 k12 k13 k14 k15 k16
  refine wp_region_lit ?_
  refine wpList_yield (w' := U) (v := .pointer (some ⟨w.heap.size, 0, none⟩)) rfl (by first | (go_simp; done) | (go_simp; rfl)) ?_
  refine wpList_yield (w' := U) (v := .int .i64 j.id) rfl (by first | (go_simp; done) | (go_simp; rfl)) ?_
  refine wpList_yield (w' := U) (v := .pointer (some ⟨w.heap.size, 1, none⟩)) rfl (by first | (go_simp; done) | (go_simp; rfl)) ?_
  refine wpList_yield (w' := U) (v := .int .i64 j.user) rfl (by first | (go_simp; done) | (go_simp; rfl)) ?_
  refine wpList_yield (w' := U) (v := .pointer (some ⟨w.heap.size, 2, none⟩)) rfl (by first | (go_simp; done) | (go_simp; rfl)) ?_
  refine wpList_yield (w' := U) (v := .int .i64 j.part) rfl (by first | (go_simp; done) | (go_simp; rfl)) ?_
  refine wpList_yield (w' := U) (v := .pointer (some ⟨w.heap.size, 3, none⟩)) rfl (by first | (go_simp; done) | (go_simp; rfl)) ?_
  refine wpList_yield (w' := U) (v := .int .i64 j.width) rfl (by first | (go_simp; done) | (go_simp; rfl)) ?_
  refine wpList_yield (w' := U) (v := .pointer (some ⟨w.heap.size, 4, none⟩)) rfl (by first | (go_simp; done) | (go_simp; rfl)) ?_
  refine wpList_yield (w' := U) (v := .int .i64 j.limit) rfl (by first | (go_simp; done) | (go_simp; rfl)) ?_
  refine wpList_yield (w' := U) (v := .pointer (some ⟨w.heap.size, 5, none⟩)) rfl (by first | (go_simp; done) | (go_simp; rfl)) ?_
  refine wpList_yield (w' := U) (v := .int .i64 j.nice) rfl (by first | (go_simp; done) | (go_simp; rfl)) ?_
  refine wpList_yield (w' := U) (v := .pointer (some ⟨w.heap.size, 6, none⟩)) rfl (by first | (go_simp; done) | (go_simp; rfl)) ?_
  refine wpList_yield (w' := U) (v := .int .i64 j.after) rfl (by first | (go_simp; done) | (go_simp; rfl)) ?_
  refine wpList_yield (w' := U) (v := .pointer (some ⟨w.heap.size, 7, none⟩)) rfl (by first | (go_simp; done) | (go_simp; rfl)) ?_
  refine wpList_yield (w' := U) (v := .bool j.hold) rfl (by first | (go_simp; done) | (go_simp; rfl)) ?_
  refine wpList_yield (w' := U) (v := .pointer (some ⟨w.heap.size, 8, none⟩)) rfl (by first | (go_simp; done) | (go_simp; rfl)) ?_
  refine wpList_yield (w' := U) (v := .int .i64 j.state) rfl (by first | (go_simp; done) | (go_simp; rfl)) ?_
  refine wpList_yield (w' := U) (v := .pointer (some ⟨w.heap.size, 9, none⟩)) rfl (by first | (go_simp; done) | (go_simp; rfl)) ?_
  refine wpList_yield (w' := U) (v := .int .i64 j.sent) rfl (by first | (go_simp; done) | (go_simp; rfl)) ?_
  refine wpList_yield (w' := U) (v := .pointer (some ⟨w.heap.size, 10, none⟩)) rfl (by first | (go_simp; done) | (go_simp; rfl)) ?_
  refine wpList_yield (w' := U) (v := .int .i64 j.plan) rfl (by first | (go_simp; done) | (go_simp; rfl)) ?_
  refine wpList_yield (w' := U) (v := .pointer (some ⟨w.heap.size, 11, none⟩)) rfl (by first | (go_simp; done) | (go_simp; rfl)) ?_
  refine wpList_yield (w' := U) (v := .int .i64 j.promise) rfl (by first | (go_simp; done) | (go_simp; rfl)) ?_
  refine wpList_yield (w' := U) (v := .pointer (some ⟨w.heap.size, 12, none⟩)) rfl (by first | (go_simp; done) | (go_simp; rfl)) ?_
  refine wpList_yield (w' := U) (v := .int .i64 j.tries) rfl (by first | (go_simp; done) | (go_simp; rfl)) ?_
  refine wpList_yield (w' := U) (v := .pointer (some ⟨w.heap.size, 13, none⟩)) rfl (by first | (go_simp; done) | (go_simp; rfl)) ?_
  refine wpList_yield (w' := U) (v := .int .u64 (nv j.black)) rfl (by first | (go_simp; done) | (go_simp; rfl)) ?_
  refine wpList_yield (w' := U) (v := .pointer (some ⟨w.heap.size, 14, none⟩)) rfl (by first | (go_simp; done) | (go_simp; rfl)) ?_
  refine wpList_yield (w' := U) (v := .int .u64 (nv j.nodes)) rfl (by first | (go_simp; done) | (go_simp; rfl)) ?_
  refine wpList_yield (w' := U) (v := .pointer (some ⟨w.heap.size, 15, none⟩)) rfl (by first | (go_simp; done) | (go_simp; rfl)) ?_
  refine wpList_yield (w' := U) (v := .int .i64 j.start) rfl (by first | (go_simp; done) | (go_simp; rfl)) ?_
  refine wpList_yield (w' := U) (v := .pointer (some ⟨w.heap.size, 16, none⟩)) rfl (by first | (go_simp; done) | (go_simp; rfl)) ?_
  refine wpList_yield (w' := U) (v := .int .i64 j.fin) rfl (by first | (go_simp; done) | (go_simp; rfl)) ?_
  refine wpList_yield (w' := U) (v := .agg l.toArray) rfl (by rw [HLE.out]; first | (go_simp; done) | (go_simp; rfl)) ?_
  refine wpList_store_all rfl 29 _ _ rfl (w.heap.size + 1) (T := 29) l (by go_simp) (by go_simp) HN.out (by rw [HLEN.out]; rfl) (by rw [HLEN.out]; kernel_rfl) HONE.out ?_
  intro w9 hw9
  have HW9 := Lib.hid hw9.there
  have HB9 := Lib.hid (hw9.below HB.out (by omega))
  clear hw9
  go_wp2_with fail
  exact bodyPost_ret (results_all l _ Try.results4 (by go_simp) HW9.out Try.underlying29 rfl (by rw [HLEN.out]; kernel_rfl)) rfl ⟨rfl, HB9.out⟩
theorem fieldsJR : (Try.prog.fieldsOf 29).toList.map (fun f => (f.name != "_", f.offset)) = (List.range 17).map fun i => (true, i) := by kernel_rfl
theorem ftJR : (Try.prog.fieldsOf 29).toList.all (fun f => if f.offset = 7 then (match Try.prog.underlying f.type with | some .bool => true | _ => false) else (match Try.prog.underlying f.type with | some (.int _) => true | _ => false)) = true := by kernel_rfl
theorem eqinJR (a b : JobV) (w : World) : (Op.equalIn 10000 29 (.agg (jobC a).toArray) (.agg (jobC b).toArray)).run Try.prog w = .ok (keyJ a == keyJ b) w := by
  have hS : Try.prog.underlying 29 = some (.struct (Try.prog.fieldsOf 29)) := by kernel_rfl
  have hp : Try.prog.stoodInHeld 29 = false := by kernel_rfl
  refine (run_equalIn_struct w 9999 _ _ _ hS hp).trans ?_
  have hall : (Try.prog.fieldsOf 29).toList.all (fun f => (keyJ a).getD f.offset 0 == (keyJ b).getD f.offset 0) = (keyJ a == keyJ b) := by
    rw [← all_range_ints (keyJ a) (keyJ b) rfl, show (keyJ a).length = 17 from rfl]
    have h1 : (Try.prog.fieldsOf 29).toList.map (fun f => f.offset) = List.range 17 := by
      have := congrArg (List.map Prod.snd) fieldsJR
      rw [List.map_map, List.map_map] at this
      exact this.trans rfl
    rw [← h1, List.all_map]
    rfl
  rw [run_eqFields_all w (fun f => (keyJ a).getD f.offset 0 == (keyJ b).getD f.offset 0), hall]
  · intro f hf
    have hm : (f.name != "_", f.offset) ∈ (List.range 17).map fun i => (true, i) := by
      rw [← fieldsJR]; exact List.mem_map.2 ⟨f, hf, rfl⟩
    obtain ⟨i, hi, he⟩ := List.mem_map.1 hm
    rw [List.mem_range] at hi
    injection he with he1 he2
    refine ⟨by simpa using he1.symm, ?_⟩
    have ht := List.all_eq_true.1 ftJR f hf
    by_cases h7 : f.offset = 7
    · rw [if_pos h7] at ht
      have hu : Try.prog.underlying f.type = some .bool := by
        revert ht
        cases Try.prog.underlying f.type with
        | none => intro h; cases h
        | some d => cases d <;> intro h <;> first | rfl | cases h
      refine ⟨.bool a.hold, .bool b.hold, ?_, ?_, ?_⟩
      · have := jobC_at7 a
        simp only [part, isAgg, Sem.run_bind, run_underlying hu, Result.andThen_ok, h7, this]
        simp
      · have := jobC_at7 b
        simp only [part, isAgg, Sem.run_bind, run_underlying hu, Result.andThen_ok, h7, this]
        simp
      · refine (run_equalIn_bool w 9998 _ _ _ hu).trans ?_
        rw [h7, show (a.hold == b.hold) = ((keyJ a).getD 7 0 == (keyJ b).getD 7 0) by
          show (a.hold == b.hold) = (holdN a.hold == holdN b.hold)
          cases a.hold <;> cases b.hold <;> decide]
    · rw [if_neg h7] at ht
      obtain ⟨k, hu⟩ : ∃ k, Try.prog.underlying f.type = some (.int k) := by
        revert ht
        cases Try.prog.underlying f.type with
        | none => intro h; cases h
        | some d => cases d <;> intro h <;> first | exact ⟨_, rfl⟩ | cases h
      have hlt : f.offset < 17 := by omega
      refine ⟨.int (kindJ f.offset) ((keyJ a).getD f.offset 0), .int (kindJ f.offset) ((keyJ b).getD f.offset 0), ?_, ?_, ?_⟩
      · have := jobC_at a hlt h7
        simp only [part, isAgg, Sem.run_bind, run_underlying hu, Result.andThen_ok, this]
        simp
      · have := jobC_at b hlt h7
        simp only [part, isAgg, Sem.run_bind, run_underlying hu, Result.andThen_ok, this]
        simp
      · exact run_equalIn_int w 9998 _ _ k _ _ hu
theorem exec_store_all {P : Program} {op : Oper} {ρ : Operand → Value} {w : World} (ty : TypeId) (x y : Operand) (ho : op.op = .store ty x y) (b : Nat) {T : TypeId} {cs : Array Value} (l : List Value) (hx : ρ x = .pointer (some ⟨b, 0, none⟩)) (hy : ρ y = .agg l.toArray)
    (hb : w.heap[b]? = some (.cells cs T (0, 0))) (hl : l.length = cs.size) (hi : (P.info? ty).map (·.size) = some l.length) (h1 : l.all (·.oneCell') = true) : (execOp ρ op).run P w = .ok .skip (w.setCells b 0 l) := by
  unfold execOp
  simp only [ho, hx, hy, Instr.storeAt, Instr.sureAddr, Sem.run_bind, Sem.run_pure, Result.andThen_ok, run_storeVar_mid w b 0 ty l.toArray (there_of_block hb (by simp; omega)) (by simpa using hi) (by simpa using h1)]
/-- what becomes of a job: the job and the error -/
def actL (j : JobV) (a : ActV) (r : Int) : JobV × Int :=
  if a.kind == 0 then beginJ j a.now a.nodes else if a.kind == 1 then stopJ j a.now a.n else if a.kind == 2 then loseJ j a.now a.n r else (job0, 0)
set_option maxRecDepth 100000 in
set_option maxHeartbeats 40000000 in
theorem lives_any (j : JobV) (lad : Option Addr) (ll lcap : Nat) (A : Nat → ActV) (R : Int) (w : World) (hA : ActsAt w lad ll A) :
    Calls Try.prog 3 #[.agg (jobC j).toArray, .slice lad ll lcap, .int .i64 R] w fun e w' => e = .returned (.bool true) ∧ Below w.heap.size w w' := by
  have hmx : Try.prog.follows .mixedOrders = true := by kernel_rfl
  have KO := Lib.hid (fun W => own15_any j W)
  have HLEN := Lib.hid (jobC_len j)
  have HONE := Lib.hid (jobC_one j)
  have HA := Lib.hid hA
  clear hA
  generalize hl : jobC j = l at *
  have HL := Lib.hid hl
  clear hl
  have HB0 := Lib.hid (below_alloc (Below.refl _ w) (.cells l.toArray 26))
  have HC0 := Lib.hid (World.alloc_heap_new w (.cells l.toArray 26))
  go_enter Try.func3, Try.ntmps3
  go_upto_region 1 with fail
  generalize w.alloc (.cells l.toArray 26) = U at *
  refine wp_region_lit ?_
  refine wpList_load_all rfl 26 _ rfl w.heap.size l _ (by go_simp) HC0.out Try.underlying26 rfl (by rw [HLEN.out]; kernel_rfl) ?_
  refine wpList_enter rfl (by go_simp) (KO.out U) ?_
  rintro e W1 ⟨rfl, hb1⟩
  refine ⟨_, rfl, ?_⟩
  have HC1 := Lib.hid ((hb1.block _ (Array.getElem?_eq_some_iff.1 HC0.out).1).trans HC0.out)
  have HB1 := Lib.hid (below_next HB0.out hb1)
  clear hb1 HB0 HC0
  refine wpList_yield (w' := W1.alloc (.cells #[.int .i64 0, .int .i64 0, .int .i64 0, .int .i64 0, .int .i64 0, .int .i64 0, .int .i64 0, .bool false, .int .i64 0, .int .i64 0, .int .i64 0, .int .i64 0, .int .i64 0, .int .u64 0, .int .u64 0, .int .i64 0, .int .i64 0] 29)) (v := .pointer (some ⟨W1.heap.size, 0, none⟩)) rfl (by first | (go_simp; done) | (go_simp; rfl)) ?_
  have HBa := Lib.hid (below_next HB1.out (below_alloc (Below.refl _ W1) (.cells #[.int .i64 0, .int .i64 0, .int .i64 0, .int .i64 0, .int .i64 0, .int .i64 0, .int .i64 0, .bool false, .int .i64 0, .int .i64 0, .int .i64 0, .int .i64 0, .int .i64 0, .int .u64 0, .int .u64 0, .int .i64 0, .int .i64 0] 29)))
  have HCa := Lib.hid (((below_alloc (Below.refl _ W1) (.cells #[.int .i64 0, .int .i64 0, .int .i64 0, .int .i64 0, .int .i64 0, .int .i64 0, .int .i64 0, .bool false, .int .i64 0, .int .i64 0, .int .i64 0, .int .i64 0, .int .i64 0, .int .u64 0, .int .u64 0, .int .i64 0, .int .i64 0] 29)).block _ (Array.getElem?_eq_some_iff.1 HC1.out).1).trans HC1.out)
  have hN := World.alloc_heap_new W1 (.cells #[.int .i64 0, .int .i64 0, .int .i64 0, .int .i64 0, .int .i64 0, .int .i64 0, .int .i64 0, .bool false, .int .i64 0, .int .i64 0, .int .i64 0, .int .i64 0, .int .i64 0, .int .u64 0, .int .u64 0, .int .i64 0, .int .i64 0] 29)
  generalize W1.alloc (.cells #[.int .i64 0, .int .i64 0, .int .i64 0, .int .i64 0, .int .i64 0, .int .i64 0, .int .i64 0, .bool false, .int .i64 0, .int .i64 0, .int .i64 0, .int .i64 0, .int .i64 0, .int .u64 0, .int .u64 0, .int .i64 0, .int .i64 0] 29) = Wa at *
  obtain ⟨p, hp⟩ : ∃ p, p = W1.heap.size := ⟨_, rfl⟩
  have hwp : w.heap.size < p := by rw [hp]; exact (Array.getElem?_eq_some_iff.1 HC1.out).1
  rw [← hp] at hN ⊢
  clear hp HB1 HC1
  refine wpList_store_all rfl 29 _ _ rfl p (T := 29) l (by go_simp) (by go_simp) hN (by rw [HLEN.out]; rfl) (by rw [HLEN.out]; kernel_rfl) HONE.out ?_
  intro W2 hw2
  have HP2 := Lib.hid hw2.there
  have HC2 := Lib.hid ((hw2.rest _ (by omega)).trans HCa.out)
  have HB2 := Lib.hid (hw2.below HBa.out (by omega))
  clear hw2 hN HCa HBa
  go_wp2_with fail
  go_loopw [8] (fun i wr => ∃ (q : Nat) (jv : JobV), q ≤ 30 ∧ q ≤ ll ∧ i = .int .i64 q ∧ wr.heap[w.heap.size]? = some (.cells (jobC jv).toArray 26 (0, 0)) ∧ wr.heap[p]? = some (.cells (jobC jv).toArray 29 (0, 0)) ∧ Below w.heap.size w wr) (fun i _ => 30 - (intOf i).toNat)
  case atStart => exact ⟨0, j, Nat.zero_le _, Nat.zero_le _, rfl, by rw [HL.out]; exact HC2.out, by rw [HL.out]; exact HP2.out, HB2.out⟩
  case round =>
    obtain ⟨q, jv, hq30, hql, rfl, hcv, hpv, hbv⟩ := hrel
    have HCV := Lib.hid hcv
    have HPV := Lib.hid hpv
    have HBV := Lib.hid hbv
    clear hcv hpv hbv HB2 HC2 HP2 KO HL HLEN HONE
    by_cases hlt : q < ll ∧ q < 30
    case neg =>
      have HLV := Lib.hid (jobC_len jv)
      have k8 : (jobC jv).toArray[8]? = some (.int .i64 jv.state) := rfl
      have c8 := cell_of_block (o := 8) HCV.out k8
      have hlv9 : w.heap.size < wr.heap.size := (Array.getElem?_eq_some_iff.1 HCV.out).1
      have P8 := Lib.hid (fun (W : World) (h : Below wr.heap.size wr W) => (h.cell (p := ⟨w.heap.size, 8, none⟩) hlv9).trans c8)
      have LV := Lib.hid (fun (W : World) (h : Below wr.heap.size wr W) => (h.block w.heap.size hlv9).trans HCV.out)
      have KOV := Lib.hid (fun W => over_any jv W)
      have K1 := Lib.hid (fun W => job_one W)
      have HOV := Lib.hid (show overB jv = (decide (2 ≤ jv.state) && decide (jv.state ≤ 5)) from rfl)
      clear c8 k8 hlv9
      generalize hlv : jobC jv = lv at *
      clear hlv
      have hge : (decide (jv.state ≥ 2) = true ∧ decide (jv.state ≤ 5) = true ∧ overB jv = true) ∨ (decide (jv.state ≥ 2) = true ∧ decide (jv.state ≤ 5) = false ∧ overB jv = false) ∨ (decide (jv.state ≥ 2) = false ∧ overB jv = false) := by
        have := HOV.out
        by_cases h2 : 2 ≤ jv.state
        · by_cases h5 : jv.state ≤ 5
          · exact .inl ⟨decide_eq_true h2, decide_eq_true h5, by rw [this, decide_eq_true h2, decide_eq_true h5]; rfl⟩
          · exact .inr (.inl ⟨decide_eq_true h2, decide_eq_false h5, by rw [this, decide_eq_true h2, decide_eq_false h5]; rfl⟩)
        · exact .inr (.inr ⟨decide_eq_false h2, by rw [this, decide_eq_false h2]; rfl⟩)
      have hqq : decide (q < ll) = false ∨ (decide (q < ll) = true ∧ decide ((q : Int) < 30) = false) := by
        by_cases h : q < ll
        · exact .inr ⟨decide_eq_true h, decide_eq_false (by omega)⟩
        · exact .inl (decide_eq_false h)
      clear hlt HOV
      rcases hqq with hd1 | ⟨hd1, hd2⟩
      all_goals rcases hge with ⟨hg1, hg2, hov⟩ | ⟨hg1, hg2, hov⟩ | ⟨hg1, hov⟩
      all_goals rw [hov] at KOV
      all_goals clear hov
      all_goals go_upto_region 25 with fail
      all_goals refine Rl.wp_region_rel (fun a b => Below a.heap.size a b) wr (fun a b c h h' => below_next h h') (fun a => Below.refl _ _) hmx (by kernel_rfl) (Below.refl _ _).drew ?_
      all_goals (
        refine Rl.textR_run (.agg lv.toArray) (fun ρ => ?_) (fun ρ W hS hd => ?_) ?_
        · go_simp
        · exact Rl.comesToR_load 26 _ rfl w.heap.size (by go_simp) _ _ (LV.out W hS) Try.underlying26 rfl (by rw [HLV.out]; kernel_rfl) ⟨rfl, Below.refl _ _⟩
        (try go_simp)
        (refine Rl.textR_run ?_ (fun ρ => ?_) (fun ρ W hS hd => ?_) ?_; rotate_left; (focus go_simp); (focus (obtain ⟨hc, hf⟩ := bcell hS; go_simp; refine (KOV.out W).mono ?_; rintro e w1 ⟨rfl, hb⟩; refine ⟨_, rfl, ?_, hb⟩; rfl)); (try go_simp))
        (refine Rl.textR_run ?_ (fun ρ => ?_) (fun ρ W hS hd => ?_) ?_; rotate_left; (focus go_simp); (focus (obtain ⟨hc, hf⟩ := bcell hS; go_simp; first | exact ⟨rfl, Below.refl _ _⟩ | (refine ⟨?_, Below.refl _ _⟩; rfl))); (try go_simp))
        (refine Rl.textR_run ?_ (fun ρ => ?_) (fun ρ W hS hd => ?_) ?_; rotate_left; (focus go_simp); (focus (have hfact := P8.out W hS; go_simp; first | exact ⟨rfl, Below.refl _ _⟩ | (refine ⟨?_, Below.refl _ _⟩; rfl))); (try go_simp))
        iterate 2 (refine Rl.textR_run ?_ (fun ρ => ?_) (fun ρ W hS hd => ?_) ?_; rotate_left; (focus go_simp); (focus (obtain ⟨hc, hf⟩ := bcell hS; go_simp; first | exact ⟨rfl, Below.refl _ _⟩ | (refine ⟨?_, Below.refl _ _⟩; rfl))); (try go_simp)))
      all_goals first
        | ((refine Rl.textR_run ?_ (fun ρ => ?_) (fun ρ W hS hd => ?_) ?_; rotate_left; (focus go_simp); (focus (obtain ⟨hc, hf⟩ := bcell hS; go_simp; first | exact ⟨rfl, Below.refl _ _⟩ | (refine ⟨?_, Below.refl _ _⟩; rfl))); (try go_simp)); (refine Rl.textR_run ?_ (fun ρ => ?_) (fun ρ W hS hd => ?_) ?_; rotate_left; (focus go_simp); (focus (have hfact := P8.out W hS; go_simp; first | exact ⟨rfl, Below.refl _ _⟩ | (refine ⟨?_, Below.refl _ _⟩; rfl))); (try go_simp)); (refine Rl.textR_run ?_ (fun ρ => ?_) (fun ρ W hS hd => ?_) ?_; rotate_left; (focus go_simp); (focus (obtain ⟨hc, hf⟩ := bcell hS; go_simp; first | exact ⟨rfl, Below.refl _ _⟩ | (refine ⟨?_, Below.refl _ _⟩; rfl))); (try go_simp)); (refine Rl.textR_run ?_ (fun ρ => ?_) (fun ρ W hS hd => ?_) ?_; rotate_left; (focus go_simp); (focus (obtain ⟨hc, hf⟩ := bcell hS; go_simp; first | exact ⟨rfl, Below.refl _ _⟩ | (refine ⟨?_, Below.refl _ _⟩; rfl))); (try go_simp)); (refine Rl.textR_run ?_ (fun ρ => ?_) (fun ρ W hS hd => ?_) ?_; rotate_left; (focus go_simp); (focus (obtain ⟨hc, hf⟩ := bcell hS; go_simp; first | exact ⟨rfl, Below.refl _ _⟩ | (refine ⟨?_, Below.refl _ _⟩; rfl))); (try go_simp)); (refine Rl.textR_run ?_ (fun ρ => ?_) (fun ρ W hS hd => ?_) ?_; rotate_left; (focus go_simp); (focus (obtain ⟨hc, hf⟩ := bcell hS; go_simp; first | exact ⟨rfl, Below.refl _ _⟩ | (refine ⟨?_, Below.refl _ _⟩; rfl))); (try go_simp)); (refine Rl.textR_run ?_ (fun ρ => ?_) (fun ρ W hS hd => ?_) ?_; rotate_left; (focus go_simp); (focus (obtain ⟨hc, hf⟩ := bcell hS; go_simp; refine (K1.out W).mono ?_; rintro e w1 ⟨rfl, hb⟩; refine ⟨_, rfl, ?_, hb⟩; rfl)); (try go_simp)); (refine Rl.textR_run ?_ (fun ρ => ?_) (fun ρ W hS hd => ?_) ?_; rotate_left; (focus go_simp); (focus (obtain ⟨hc, hf⟩ := bcell hS; go_simp; first | exact ⟨rfl, Below.refl _ _⟩ | (refine ⟨?_, Below.refl _ _⟩; rfl))); (try go_simp)); (refine Rl.textR_run ?_ (fun ρ => ?_) (fun ρ W hS hd => ?_) ?_; rotate_left; (focus go_simp); (focus (obtain ⟨hc, hf⟩ := bcell hS; go_simp; first | exact ⟨rfl, Below.refl _ _⟩ | (refine ⟨?_, Below.refl _ _⟩; rfl))); (try go_simp))
           refine Rl.textR_nil ?_; intro ρ w9 hg hk; have HG := Lib.hid (below_next HBV.out hg); clear hg hk; dsimp only; clear ρ; go_wp2_with fail; go_ret; exact ⟨rfl, HG.out⟩)
        | ((refine Rl.textR_skip (fun ρ => ?_) ?_; (focus (first | rfl | (go_simp; done) | (go_simp; rfl))); (try go_simp)); (refine Rl.textR_skip (fun ρ => ?_) ?_; (focus (first | rfl | (go_simp; done) | (go_simp; rfl))); (try go_simp)); (refine Rl.textR_skip (fun ρ => ?_) ?_; (focus (first | rfl | (go_simp; done) | (go_simp; rfl))); (try go_simp)); (refine Rl.textR_run ?_ (fun ρ => ?_) (fun ρ W hS hd => ?_) ?_; rotate_left; (focus go_simp); (focus (obtain ⟨hc, hf⟩ := bcell hS; go_simp; first | exact ⟨rfl, Below.refl _ _⟩ | (refine ⟨?_, Below.refl _ _⟩; rfl))); (try go_simp)); (refine Rl.textR_run ?_ (fun ρ => ?_) (fun ρ W hS hd => ?_) ?_; rotate_left; (focus go_simp); (focus (obtain ⟨hc, hf⟩ := bcell hS; go_simp; first | exact ⟨rfl, Below.refl _ _⟩ | (refine ⟨?_, Below.refl _ _⟩; rfl))); (try go_simp)); (refine Rl.textR_run ?_ (fun ρ => ?_) (fun ρ W hS hd => ?_) ?_; rotate_left; (focus go_simp); (focus (obtain ⟨hc, hf⟩ := bcell hS; go_simp; first | exact ⟨rfl, Below.refl _ _⟩ | (refine ⟨?_, Below.refl _ _⟩; rfl))); (try go_simp)); (refine Rl.textR_run ?_ (fun ρ => ?_) (fun ρ W hS hd => ?_) ?_; rotate_left; (focus go_simp); (focus (obtain ⟨hc, hf⟩ := bcell hS; go_simp; refine (K1.out W).mono ?_; rintro e w1 ⟨rfl, hb⟩; refine ⟨_, rfl, ?_, hb⟩; rfl)); (try go_simp)); (refine Rl.textR_run ?_ (fun ρ => ?_) (fun ρ W hS hd => ?_) ?_; rotate_left; (focus go_simp); (focus (obtain ⟨hc, hf⟩ := bcell hS; go_simp; first | exact ⟨rfl, Below.refl _ _⟩ | (refine ⟨?_, Below.refl _ _⟩; rfl))); (try go_simp)); (refine Rl.textR_run ?_ (fun ρ => ?_) (fun ρ W hS hd => ?_) ?_; rotate_left; (focus go_simp); (focus (obtain ⟨hc, hf⟩ := bcell hS; go_simp; first | exact ⟨rfl, Below.refl _ _⟩ | (refine ⟨?_, Below.refl _ _⟩; rfl))); (try go_simp))
           refine Rl.textR_nil ?_; intro ρ w9 hg hk; have HG := Lib.hid (below_next HBV.out hg); clear hg hk; dsimp only; clear ρ; go_wp2_with fail; go_ret; exact ⟨rfl, HG.out⟩)
    case pos =>
      have hq3 := hlt.2
      have hql2 := hlt.1
      clear hlt
      have hll : ll ≤ 9223372036854775807 := HA.out.1
      have hd1 : decide (q < ll) = true := decide_eq_true hql2
      have hd2 : decide (q < 30) = true := decide_eq_true hq3
      have hd2i : decide ((q : Int) < 30) = true := decide_eq_true (by omega)
      have hql3 : (q : Int) < (ll : Int) := by omega
      have hw1 : IntKind.i64.wrap ((q : Int) + 1) = (q : Int) + 1 := by rw [IntKind.wrap_i64]; omega
      have HQ := Lib.hid (And.intro hql2 hq3)
      obtain ⟨ab, off, rfl, hrow⟩ := HA.out.2 (by omega)
      have hc := hrow q hql2
      clear hrow
      generalize A q = a at hc
      have hlt0 : ab < w.heap.size := World.block_lt_of_cell? w _ hc.c0
      have r0 := (HBV.out.cell (p := ⟨ab, off + q * 4, none⟩) hlt0).trans hc.c0
      have r1 := (HBV.out.cell (p := ⟨ab, off + q * 4 + 1, none⟩) hlt0).trans hc.c1
      have r2 := (HBV.out.cell (p := ⟨ab, off + q * 4 + 2, none⟩) hlt0).trans hc.c2
      have r3 := (HBV.out.cell (p := ⟨ab, off + q * 4 + 3, none⟩) hlt0).trans hc.c3
      obtain ⟨k, E, hKE⟩ : ∃ k E, actL jv a R = (k, E) := ⟨_, _, rfl⟩
      have HLV := Lib.hid (jobC_len jv)
      have HV1 := Lib.hid (jobC_one jv)
      have HLK := Lib.hid (jobC_len k)
      have HK1 := Lib.hid (jobC_one k)
      have KR1 := Lib.hid (fun W => right_any jv W)
      have KR2 := Lib.hid (fun W => rright_any jv W)
      have KOK := Lib.hid (fun W => own15_any k W)
      have KEQ := Lib.hid (fun (W : World) => show (Op.equalIn 10000 29 (.agg (jobC k).toArray) (.agg (jobC k).toArray)).run Try.prog W = .ok true W from (eqinJR _ _ W).trans (by rw [(keyJ_eq _ _).2 rfl]))
      have K0 := Lib.hid (fun (h : (a.kind == 0) = true) (W : World) => (show Calls Try.prog 7 #[.agg (jobC jv).toArray, .int .i64 a.now, .int .u64 (nv a.nodes)] W fun e w' => e = .returned (.tuple #[.agg (jobC k).toArray, .int .i64 E]) ∧ Below W.heap.size W w' by
        have h2 : beginJ jv a.now a.nodes = (k, E) := by rw [← hKE]; unfold actL; rw [if_pos h]
        have := begin_any jv a.now a.nodes W
        rwa [h2] at this))
      have Q0 := Lib.hid (fun (h : (a.kind == 0) = true) (W : World) => (show Calls Try.prog 8 #[.agg (jobC jv).toArray, .int .i64 a.now, .int .u64 (nv a.nodes)] W fun e w' => e = .returned (.tuple #[.agg (jobC k).toArray, .int .i64 E]) ∧ Below W.heap.size W w' by
        have h2 : beginJ jv a.now a.nodes = (k, E) := by rw [← hKE]; unfold actL; rw [if_pos h]
        have := rbegin_any jv a.now a.nodes W
        rwa [h2] at this))
      have K1 := Lib.hid (fun (h0 : (a.kind == 0) = false) (h : (a.kind == 1) = true) (W : World) => (show Calls Try.prog 9 #[.agg (jobC jv).toArray, .int .i64 a.now, .int .i64 a.n] W fun e w' => e = .returned (.tuple #[.agg (jobC k).toArray, .int .i64 E]) ∧ Below W.heap.size W w' by
        have h2 : stopJ jv a.now a.n = (k, E) := by rw [← hKE]; unfold actL; rw [if_neg (by rw [h0]; decide), if_pos h]
        have := stop_any jv a.now a.n W
        rwa [h2] at this))
      have Q1 := Lib.hid (fun (h0 : (a.kind == 0) = false) (h : (a.kind == 1) = true) (W : World) => (show Calls Try.prog 10 #[.agg (jobC jv).toArray, .int .i64 a.now, .int .i64 a.n] W fun e w' => e = .returned (.tuple #[.agg (jobC k).toArray, .int .i64 E]) ∧ Below W.heap.size W w' by
        have h2 : stopJ jv a.now a.n = (k, E) := by rw [← hKE]; unfold actL; rw [if_neg (by rw [h0]; decide), if_pos h]
        have := rstop_any jv a.now a.n W
        rwa [h2] at this))
      have K2 := Lib.hid (fun (h0 : (a.kind == 0) = false) (h1 : (a.kind == 1) = false) (h : (a.kind == 2) = true) (W : World) => (show Calls Try.prog 11 #[.agg (jobC jv).toArray, .int .i64 a.now, .int .i64 a.n, .int .i64 R] W fun e w' => e = .returned (.tuple #[.agg (jobC k).toArray, .int .i64 E]) ∧ Below W.heap.size W w' by
        have h2 : loseJ jv a.now a.n R = (k, E) := by rw [← hKE]; unfold actL; rw [if_neg (by rw [h0]; decide), if_neg (by rw [h1]; decide), if_pos h]
        have := lose_any jv a.now a.n R W
        rwa [h2] at this))
      have Q2 := Lib.hid (fun (h0 : (a.kind == 0) = false) (h1 : (a.kind == 1) = false) (h : (a.kind == 2) = true) (W : World) => (show Calls Try.prog 12 #[.agg (jobC jv).toArray, .int .i64 a.now, .int .i64 a.n, .int .i64 R] W fun e w' => e = .returned (.tuple #[.agg (jobC k).toArray, .int .i64 E]) ∧ Below W.heap.size W w' by
        have h2 : loseJ jv a.now a.n R = (k, E) := by rw [← hKE]; unfold actL; rw [if_neg (by rw [h0]; decide), if_neg (by rw [h1]; decide), if_pos h]
        have := rlose_any jv a.now a.n R W
        rwa [h2] at this))
      have K3 := Lib.hid (fun (h0 : (a.kind == 0) = false) (h1 : (a.kind == 1) = false) (h2 : (a.kind == 2) = false) => (show k = job0 ∧ E = 0 by
        have h3 : actL jv a R = (job0, 0) := by unfold actL; rw [if_neg (by rw [h0]; decide), if_neg (by rw [h1]; decide), if_neg (by rw [h2]; decide)]
        rw [h3] at hKE
        exact ⟨(congrArg Prod.fst hKE).symm, (congrArg Prod.snd hKE).symm⟩))
      have K3L := Lib.hid (fun (h : k = job0) => (show jobC job0 = jobC k by rw [h]))
      clear hc hKE HA hql2 hq3 hlt0
      have hA1 := below_alloc (Below.refl _ wr) (.cells #[.int .i64 a.kind, .int .i64 a.now, .int .u64 (nv a.nodes), .int .i64 a.n] 32)
      have hN1 := World.alloc_heap_new wr (.cells #[.int .i64 a.kind, .int .i64 a.now, .int .u64 (nv a.nodes), .int .i64 a.n] 32)
      have HB5 := Lib.hid (below_next HBV.out hA1)
      have HC5 := Lib.hid ((hA1.block w.heap.size (Array.getElem?_eq_some_iff.1 HCV.out).1).trans HCV.out)
      have HP5 := Lib.hid ((hA1.block p (Array.getElem?_eq_some_iff.1 HPV.out).1).trans HPV.out)
      have hpw := (Array.getElem?_eq_some_iff.1 HPV.out).1
      clear hA1
      generalize hlv : jobC jv = lv at *
      have HLJ := Lib.hid hlv
      clear hlv
      generalize hlk : jobC k = lk at *
      have HLK2 := Lib.hid hlk
      clear hlk
      generalize hB : rightB jv = B at *
      clear hB
      go_upto_region 6 with fail
      clear r0 r1 r2 r3
      generalize wr.alloc (.cells #[.int .i64 a.kind, .int .i64 a.now, .int .u64 (nv a.nodes), .int .i64 a.n] 32) = w5 at *
      obtain ⟨pa, hpa⟩ : ∃ pa, pa = wr.heap.size := ⟨_, rfl⟩
      rw [← hpa] at hN1 hpw ⊢
      clear hpa
      have HN1 := Lib.hid hN1
      clear hN1
      have FV := Lib.hid (fun (W : World) (h : Below w5.heap.size w5 W) => (h.block w.heap.size (Array.getElem?_eq_some_iff.1 HC5.out).1).trans HC5.out)
      have FP := Lib.hid (fun (W : World) (h : Below w5.heap.size w5 W) => (h.block p (Array.getElem?_eq_some_iff.1 HP5.out).1).trans HP5.out)
      refine Rl.wp_region_rel (fun a b => Below a.heap.size a b) w5 (fun a b c h h' => below_next h h') (fun a => Below.refl _ _) hmx (by kernel_rfl) (Below.refl _ _).drew ?_
      refine Rl.textR_run (.agg lv.toArray) (fun ρ => ?_) (fun ρ W hS hd => ?_) ?_
      · go_simp
      · exact Rl.comesToR_load 26 _ rfl w.heap.size (by go_simp) _ _ (FV.out W hS) Try.underlying26 rfl (by rw [HLV.out]; kernel_rfl) ⟨rfl, Below.refl _ _⟩
      (try go_simp)
      (refine Rl.textR_run ?_ (fun ρ => ?_) (fun ρ W hS hd => ?_) ?_; rotate_left; (focus go_simp); (focus (obtain ⟨hc, hf⟩ := bcell hS; go_simp; refine (KR1.out W).mono ?_; rintro e w1 ⟨rfl, hb⟩; refine ⟨_, rfl, ?_, hb⟩; rfl)); (try go_simp))
      refine Rl.textR_run (.agg lv.toArray) (fun ρ => ?_) (fun ρ W hS hd => ?_) ?_
      · go_simp
      · exact Rl.comesToR_load 29 _ rfl p (by go_simp) _ _ (FP.out W hS) Try.underlying29 rfl (by rw [HLV.out]; kernel_rfl) ⟨rfl, Below.refl _ _⟩
      (try go_simp)
      (refine Rl.textR_run ?_ (fun ρ => ?_) (fun ρ W hS hd => ?_) ?_; rotate_left; (focus go_simp); (focus (obtain ⟨hc, hf⟩ := bcell hS; go_simp; refine (KR2.out W).mono ?_; rintro e w1 ⟨rfl, hb⟩; refine ⟨_, rfl, ?_, hb⟩; rfl)); (try go_simp))
      (refine Rl.textR_run ?_ (fun ρ => ?_) (fun ρ W hS hd => ?_) ?_; rotate_left; (focus go_simp); (focus (obtain ⟨hc, hf⟩ := bcell hS; go_simp; first | exact ⟨rfl, Below.refl _ _⟩ | (refine ⟨?_, Below.refl _ _⟩; rfl))); (try go_simp))
      refine Rl.textR_nil ?_
      intro ρ w6 hg hk
      have HB6 := Lib.hid (below_next HB5.out hg)
      have HC6 := Lib.hid (FV.out _ hg)
      have HP6 := Lib.hid (FP.out _ hg)
      have HN6 := Lib.hid ((hg.block pa (Array.getElem?_eq_some_iff.1 HN1.out).1).trans HN1.out)
      clear hg hk FV FP HB5 HC5 HP5 HN1
      dsimp only
      clear ρ
      go_upto_region 8 with fail
      refine wp_region_lit ?_
      refine wpList_yield (w' := w6.alloc (.cells #[.int .i64 0, .int .i64 0, .int .i64 0, .int .i64 0, .int .i64 0, .int .i64 0, .int .i64 0, .bool false, .int .i64 0, .int .i64 0, .int .i64 0, .int .i64 0, .int .i64 0, .int .u64 0, .int .u64 0, .int .i64 0, .int .i64 0] 26)) (v := .pointer (some ⟨w6.heap.size, 0, none⟩)) rfl (by first | (go_simp; done) | (go_simp; rfl)) ?_
      have hbb := below_alloc (Below.refl _ w6) (.cells #[.int .i64 0, .int .i64 0, .int .i64 0, .int .i64 0, .int .i64 0, .int .i64 0, .int .i64 0, .bool false, .int .i64 0, .int .i64 0, .int .i64 0, .int .i64 0, .int .i64 0, .int .u64 0, .int .u64 0, .int .i64 0, .int .i64 0] 26)
      have HB7 := Lib.hid (below_next HB6.out hbb)
      have HC7 := Lib.hid ((hbb.block _ (Array.getElem?_eq_some_iff.1 HC6.out).1).trans HC6.out)
      have HP7 := Lib.hid ((hbb.block _ (Array.getElem?_eq_some_iff.1 HP6.out).1).trans HP6.out)
      have HN7 := Lib.hid ((hbb.block _ (Array.getElem?_eq_some_iff.1 HN6.out).1).trans HN6.out)
      have hN := World.alloc_heap_new w6 (.cells #[.int .i64 0, .int .i64 0, .int .i64 0, .int .i64 0, .int .i64 0, .int .i64 0, .int .i64 0, .bool false, .int .i64 0, .int .i64 0, .int .i64 0, .int .i64 0, .int .i64 0, .int .u64 0, .int .u64 0, .int .i64 0, .int .i64 0] 26)
      generalize w6.alloc (.cells #[.int .i64 0, .int .i64 0, .int .i64 0, .int .i64 0, .int .i64 0, .int .i64 0, .int .i64 0, .bool false, .int .i64 0, .int .i64 0, .int .i64 0, .int .i64 0, .int .i64 0, .int .u64 0, .int .u64 0, .int .i64 0, .int .i64 0] 26) = w7 at *
      obtain ⟨pk, hp⟩ : ∃ x, x = w6.heap.size := ⟨_, rfl⟩
      have hpk : pa < pk := by rw [hp]; exact (Array.getElem?_eq_some_iff.1 HN6.out).1
      rw [← hp] at hN ⊢
      have HK7 := Lib.hid hN
      clear hp hN hbb HB6 HC6 HP6 HN6
      go_upto_region 9 with fail
      refine wp_region_lit ?_
      refine wpList_yield (w' := w7.alloc (.cells #[.int .i64 0, .int .i64 0, .int .i64 0, .int .i64 0, .int .i64 0, .int .i64 0, .int .i64 0, .bool false, .int .i64 0, .int .i64 0, .int .i64 0, .int .i64 0, .int .i64 0, .int .u64 0, .int .u64 0, .int .i64 0, .int .i64 0] 29)) (v := .pointer (some ⟨w7.heap.size, 0, none⟩)) rfl (by first | (go_simp; done) | (go_simp; rfl)) ?_
      have hbb := below_alloc (Below.refl _ w7) (.cells #[.int .i64 0, .int .i64 0, .int .i64 0, .int .i64 0, .int .i64 0, .int .i64 0, .int .i64 0, .bool false, .int .i64 0, .int .i64 0, .int .i64 0, .int .i64 0, .int .i64 0, .int .u64 0, .int .u64 0, .int .i64 0, .int .i64 0] 29)
      have HB8 := Lib.hid (below_next HB7.out hbb)
      have HC8 := Lib.hid ((hbb.block _ (Array.getElem?_eq_some_iff.1 HC7.out).1).trans HC7.out)
      have HP8 := Lib.hid ((hbb.block _ (Array.getElem?_eq_some_iff.1 HP7.out).1).trans HP7.out)
      have HN8 := Lib.hid ((hbb.block _ (Array.getElem?_eq_some_iff.1 HN7.out).1).trans HN7.out)
      have HK8 := Lib.hid ((hbb.block _ (Array.getElem?_eq_some_iff.1 HK7.out).1).trans HK7.out)
      have hN := World.alloc_heap_new w7 (.cells #[.int .i64 0, .int .i64 0, .int .i64 0, .int .i64 0, .int .i64 0, .int .i64 0, .int .i64 0, .bool false, .int .i64 0, .int .i64 0, .int .i64 0, .int .i64 0, .int .i64 0, .int .u64 0, .int .u64 0, .int .i64 0, .int .i64 0] 29)
      generalize w7.alloc (.cells #[.int .i64 0, .int .i64 0, .int .i64 0, .int .i64 0, .int .i64 0, .int .i64 0, .int .i64 0, .bool false, .int .i64 0, .int .i64 0, .int .i64 0, .int .i64 0, .int .i64 0, .int .u64 0, .int .u64 0, .int .i64 0, .int .i64 0] 29) = w8 at *
      obtain ⟨px, hp⟩ : ∃ x, x = w7.heap.size := ⟨_, rfl⟩
      have hpx : pk < px := by rw [hp]; exact (Array.getElem?_eq_some_iff.1 HK7.out).1
      rw [← hp] at hN ⊢
      have HX8 := Lib.hid hN
      clear hp hN hbb HB7 HC7 HP7 HN7 HK7
      have e0 := cell_of_block (o := 0) HN8.out rfl
      have e1 := cell_of_block (o := 1) HN8.out rfl
      have e2 := cell_of_block (o := 2) HN8.out rfl
      have e3 := cell_of_block (o := 3) HN8.out rfl
      go_upto_block 2 with fail
      go_cut [12, 13] (fun s t wx => s = .int .i64 E ∧ t = .int .i64 E ∧ Below w.heap.size w wx ∧ wx.heap[w.heap.size]? = some (.cells lv.toArray 26 (0, 0)) ∧ wx.heap[p]? = some (.cells lv.toArray 29 (0, 0)) ∧ wx.heap[pa]? = some (.cells #[.int .i64 a.kind, .int .i64 a.now, .int .u64 (nv a.nodes), .int .i64 a.n] 32 (0, 0)) ∧ wx.heap[pk]? = some (.cells lk.toArray 26 (0, 0)) ∧ wx.heap[px]? = some (.cells lk.toArray 29 (0, 0)))
      case first =>
        cases h0 : (a.kind == 0) with
        | true =>
          go_upto_region 13 with fail
          refine wp_region_lit ?_
          refine wpList_load_all rfl 26 _ rfl w.heap.size lv _ (by go_simp) HC8.out Try.underlying26 rfl (by rw [HLV.out]; kernel_rfl) ?_
          refine wpList_yield (w' := w8) (v := .pointer (some ⟨pa, 1, none⟩)) rfl (by first | (go_simp; done) | (go_simp; rfl)) ?_
          refine wpList_yield (w' := w8) (v := .int .i64 a.now) rfl (by first | (go_simp; done) | (go_simp; rfl)) ?_
          refine wpList_yield (w' := w8) (v := .pointer (some ⟨pa, 2, none⟩)) rfl (by first | (go_simp; done) | (go_simp; rfl)) ?_
          refine wpList_yield (w' := w8) (v := .int .u64 (nv a.nodes)) rfl (by first | (go_simp; done) | (go_simp; rfl)) ?_
          refine wpList_enter rfl (by go_simp) (K0.out h0 w8) ?_
          rintro e wa ⟨rfl, hb⟩
          refine ⟨_, rfl, ?_⟩
          have HCa := Lib.hid ((hb.block _ (Array.getElem?_eq_some_iff.1 HC8.out).1).trans HC8.out)
          have HPa := Lib.hid ((hb.block _ (Array.getElem?_eq_some_iff.1 HP8.out).1).trans HP8.out)
          have HNa := Lib.hid ((hb.block _ (Array.getElem?_eq_some_iff.1 HN8.out).1).trans HN8.out)
          have HKa := Lib.hid ((hb.block _ (Array.getElem?_eq_some_iff.1 HK8.out).1).trans HK8.out)
          have HXa := Lib.hid ((hb.block _ (Array.getElem?_eq_some_iff.1 HX8.out).1).trans HX8.out)
          have HBa := Lib.hid (below_next HB8.out hb)
          clear hb
          refine wpList_yield (w' := wa) (v := .tuple #[.agg lk.toArray, .int .i64 E]) rfl (by first | (go_simp; done) | (go_simp; rfl)) ?_
          refine wpList_yield (w' := wa) (v := .agg lk.toArray) rfl (by first | (go_simp; done) | (go_simp; rfl)) ?_
          refine wpList_yield (w' := wa) (v := .int .i64 E) rfl (by first | (go_simp; done) | (go_simp; rfl)) ?_
          refine wpList_store_all rfl 26 _ _ rfl pk (T := 26) lk (by go_simp) (by go_simp) HKa.out (by rw [HLK.out]; rfl) (by rw [HLK.out]; kernel_rfl) HK1.out ?_
          intro wb hw
          have HCb := Lib.hid ((hw.rest _ (by omega)).trans HCa.out)
          have HPb := Lib.hid ((hw.rest _ (by omega)).trans HPa.out)
          have HNb := Lib.hid ((hw.rest _ (by omega)).trans HNa.out)
          have HKb := Lib.hid hw.there
          have HXb := Lib.hid ((hw.rest _ (by omega)).trans HXa.out)
          have HBb := Lib.hid (hw.below HBa.out (by omega))
          clear hw
          refine wpList_yield (w' := wb) (v := .int .i64 E) rfl (by first | (go_simp; done) | (go_simp; rfl)) ?_
          clear e0 e1 e2 e3
          have e0 := cell_of_block (o := 0) HNb.out rfl
          have e1 := cell_of_block (o := 1) HNb.out rfl
          have e2 := cell_of_block (o := 2) HNb.out rfl
          have e3 := cell_of_block (o := 3) HNb.out rfl
          go_upto_region 14 with fail
          refine wp_region_lit ?_
          refine wpList_load_all rfl 29 _ rfl p lv _ (by go_simp) HPb.out Try.underlying29 rfl (by rw [HLV.out]; kernel_rfl) ?_
          refine wpList_yield (w' := wb) (v := .pointer (some ⟨pa, 1, none⟩)) rfl (by first | (go_simp; done) | (go_simp; rfl)) ?_
          refine wpList_yield (w' := wb) (v := .int .i64 a.now) rfl (by first | (go_simp; done) | (go_simp; rfl)) ?_
          refine wpList_yield (w' := wb) (v := .pointer (some ⟨pa, 2, none⟩)) rfl (by first | (go_simp; done) | (go_simp; rfl)) ?_
          refine wpList_yield (w' := wb) (v := .int .u64 (nv a.nodes)) rfl (by first | (go_simp; done) | (go_simp; rfl)) ?_
          refine wpList_enter rfl (by go_simp) (Q0.out h0 wb) ?_
          rintro e wm ⟨rfl, hb⟩
          refine ⟨_, rfl, ?_⟩
          have HCm := Lib.hid ((hb.block _ (Array.getElem?_eq_some_iff.1 HCb.out).1).trans HCb.out)
          have HPm := Lib.hid ((hb.block _ (Array.getElem?_eq_some_iff.1 HPb.out).1).trans HPb.out)
          have HNm := Lib.hid ((hb.block _ (Array.getElem?_eq_some_iff.1 HNb.out).1).trans HNb.out)
          have HKm := Lib.hid ((hb.block _ (Array.getElem?_eq_some_iff.1 HKb.out).1).trans HKb.out)
          have HXm := Lib.hid ((hb.block _ (Array.getElem?_eq_some_iff.1 HXb.out).1).trans HXb.out)
          have HBm := Lib.hid (below_next HBb.out hb)
          clear hb
          refine wpList_yield (w' := wm) (v := .tuple #[.agg lk.toArray, .int .i64 E]) rfl (by first | (go_simp; done) | (go_simp; rfl)) ?_
          refine wpList_yield (w' := wm) (v := .agg lk.toArray) rfl (by first | (go_simp; done) | (go_simp; rfl)) ?_
          refine wpList_yield (w' := wm) (v := .int .i64 E) rfl (by first | (go_simp; done) | (go_simp; rfl)) ?_
          refine wpList_store_all rfl 29 _ _ rfl px (T := 29) lk (by go_simp) (by go_simp) HXm.out (by rw [HLK.out]; rfl) (by rw [HLK.out]; kernel_rfl) HK1.out ?_
          intro wn hw
          have HCn := Lib.hid ((hw.rest _ (by omega)).trans HCm.out)
          have HPn := Lib.hid ((hw.rest _ (by omega)).trans HPm.out)
          have HNn := Lib.hid ((hw.rest _ (by omega)).trans HNm.out)
          have HKn := Lib.hid ((hw.rest _ (by omega)).trans HKm.out)
          have HXn := Lib.hid hw.there
          have HBn := Lib.hid (hw.below HBm.out (by omega))
          clear hw
          refine wpList_yield (w' := wn) (v := .int .i64 E) rfl (by first | (go_simp; done) | (go_simp; rfl)) ?_
          go_wp2_with fail
          try go_simp
          go_meet
          exact ⟨rfl, rfl, HBn.out, HCn.out, HPn.out, HNn.out, HKn.out, HXn.out⟩
        | false =>
          cases h1 : (a.kind == 1) with
          | true =>
            go_upto_region 16 with fail
            refine wp_region_lit ?_
            refine wpList_load_all rfl 26 _ rfl w.heap.size lv _ (by go_simp) HC8.out Try.underlying26 rfl (by rw [HLV.out]; kernel_rfl) ?_
            refine wpList_yield (w' := w8) (v := .pointer (some ⟨pa, 1, none⟩)) rfl (by first | (go_simp; done) | (go_simp; rfl)) ?_
            refine wpList_yield (w' := w8) (v := .int .i64 a.now) rfl (by first | (go_simp; done) | (go_simp; rfl)) ?_
            refine wpList_yield (w' := w8) (v := .pointer (some ⟨pa, 3, none⟩)) rfl (by first | (go_simp; done) | (go_simp; rfl)) ?_
            refine wpList_yield (w' := w8) (v := .int .i64 a.n) rfl (by first | (go_simp; done) | (go_simp; rfl)) ?_
            refine wpList_enter rfl (by go_simp) (K1.out h0 h1 w8) ?_
            rintro e wa ⟨rfl, hb⟩
            refine ⟨_, rfl, ?_⟩
            have HCa := Lib.hid ((hb.block _ (Array.getElem?_eq_some_iff.1 HC8.out).1).trans HC8.out)
            have HPa := Lib.hid ((hb.block _ (Array.getElem?_eq_some_iff.1 HP8.out).1).trans HP8.out)
            have HNa := Lib.hid ((hb.block _ (Array.getElem?_eq_some_iff.1 HN8.out).1).trans HN8.out)
            have HKa := Lib.hid ((hb.block _ (Array.getElem?_eq_some_iff.1 HK8.out).1).trans HK8.out)
            have HXa := Lib.hid ((hb.block _ (Array.getElem?_eq_some_iff.1 HX8.out).1).trans HX8.out)
            have HBa := Lib.hid (below_next HB8.out hb)
            clear hb
            refine wpList_yield (w' := wa) (v := .tuple #[.agg lk.toArray, .int .i64 E]) rfl (by first | (go_simp; done) | (go_simp; rfl)) ?_
            refine wpList_yield (w' := wa) (v := .agg lk.toArray) rfl (by first | (go_simp; done) | (go_simp; rfl)) ?_
            refine wpList_yield (w' := wa) (v := .int .i64 E) rfl (by first | (go_simp; done) | (go_simp; rfl)) ?_
            refine wpList_store_all rfl 26 _ _ rfl pk (T := 26) lk (by go_simp) (by go_simp) HKa.out (by rw [HLK.out]; rfl) (by rw [HLK.out]; kernel_rfl) HK1.out ?_
            intro wb hw
            have HCb := Lib.hid ((hw.rest _ (by omega)).trans HCa.out)
            have HPb := Lib.hid ((hw.rest _ (by omega)).trans HPa.out)
            have HNb := Lib.hid ((hw.rest _ (by omega)).trans HNa.out)
            have HKb := Lib.hid hw.there
            have HXb := Lib.hid ((hw.rest _ (by omega)).trans HXa.out)
            have HBb := Lib.hid (hw.below HBa.out (by omega))
            clear hw
            refine wpList_yield (w' := wb) (v := .int .i64 E) rfl (by first | (go_simp; done) | (go_simp; rfl)) ?_
            clear e0 e1 e2 e3
            have e0 := cell_of_block (o := 0) HNb.out rfl
            have e1 := cell_of_block (o := 1) HNb.out rfl
            have e2 := cell_of_block (o := 2) HNb.out rfl
            have e3 := cell_of_block (o := 3) HNb.out rfl
            go_upto_region 17 with fail
            refine wp_region_lit ?_
            refine wpList_load_all rfl 29 _ rfl p lv _ (by go_simp) HPb.out Try.underlying29 rfl (by rw [HLV.out]; kernel_rfl) ?_
            refine wpList_yield (w' := wb) (v := .pointer (some ⟨pa, 1, none⟩)) rfl (by first | (go_simp; done) | (go_simp; rfl)) ?_
            refine wpList_yield (w' := wb) (v := .int .i64 a.now) rfl (by first | (go_simp; done) | (go_simp; rfl)) ?_
            refine wpList_yield (w' := wb) (v := .pointer (some ⟨pa, 3, none⟩)) rfl (by first | (go_simp; done) | (go_simp; rfl)) ?_
            refine wpList_yield (w' := wb) (v := .int .i64 a.n) rfl (by first | (go_simp; done) | (go_simp; rfl)) ?_
            refine wpList_enter rfl (by go_simp) (Q1.out h0 h1 wb) ?_
            rintro e wm ⟨rfl, hb⟩
            refine ⟨_, rfl, ?_⟩
            have HCm := Lib.hid ((hb.block _ (Array.getElem?_eq_some_iff.1 HCb.out).1).trans HCb.out)
            have HPm := Lib.hid ((hb.block _ (Array.getElem?_eq_some_iff.1 HPb.out).1).trans HPb.out)
            have HNm := Lib.hid ((hb.block _ (Array.getElem?_eq_some_iff.1 HNb.out).1).trans HNb.out)
            have HKm := Lib.hid ((hb.block _ (Array.getElem?_eq_some_iff.1 HKb.out).1).trans HKb.out)
            have HXm := Lib.hid ((hb.block _ (Array.getElem?_eq_some_iff.1 HXb.out).1).trans HXb.out)
            have HBm := Lib.hid (below_next HBb.out hb)
            clear hb
            refine wpList_yield (w' := wm) (v := .tuple #[.agg lk.toArray, .int .i64 E]) rfl (by first | (go_simp; done) | (go_simp; rfl)) ?_
            refine wpList_yield (w' := wm) (v := .agg lk.toArray) rfl (by first | (go_simp; done) | (go_simp; rfl)) ?_
            refine wpList_yield (w' := wm) (v := .int .i64 E) rfl (by first | (go_simp; done) | (go_simp; rfl)) ?_
            refine wpList_store_all rfl 29 _ _ rfl px (T := 29) lk (by go_simp) (by go_simp) HXm.out (by rw [HLK.out]; rfl) (by rw [HLK.out]; kernel_rfl) HK1.out ?_
            intro wn hw
            have HCn := Lib.hid ((hw.rest _ (by omega)).trans HCm.out)
            have HPn := Lib.hid ((hw.rest _ (by omega)).trans HPm.out)
            have HNn := Lib.hid ((hw.rest _ (by omega)).trans HNm.out)
            have HKn := Lib.hid ((hw.rest _ (by omega)).trans HKm.out)
            have HXn := Lib.hid hw.there
            have HBn := Lib.hid (hw.below HBm.out (by omega))
            clear hw
            refine wpList_yield (w' := wn) (v := .int .i64 E) rfl (by first | (go_simp; done) | (go_simp; rfl)) ?_
            go_wp2_with fail
            try go_simp
            go_meet
            exact ⟨rfl, rfl, HBn.out, HCn.out, HPn.out, HNn.out, HKn.out, HXn.out⟩
          | false =>
            cases h2 : (a.kind == 2) with
            | true =>
              go_upto_region 19 with fail
              refine wp_region_lit ?_
              refine wpList_load_all rfl 26 _ rfl w.heap.size lv _ (by go_simp) HC8.out Try.underlying26 rfl (by rw [HLV.out]; kernel_rfl) ?_
              refine wpList_yield (w' := w8) (v := .pointer (some ⟨pa, 1, none⟩)) rfl (by first | (go_simp; done) | (go_simp; rfl)) ?_
              refine wpList_yield (w' := w8) (v := .int .i64 a.now) rfl (by first | (go_simp; done) | (go_simp; rfl)) ?_
              refine wpList_yield (w' := w8) (v := .pointer (some ⟨pa, 3, none⟩)) rfl (by first | (go_simp; done) | (go_simp; rfl)) ?_
              refine wpList_yield (w' := w8) (v := .int .i64 a.n) rfl (by first | (go_simp; done) | (go_simp; rfl)) ?_
              refine wpList_yield (w' := w8) (v := .int .i64 R) rfl (by first | (go_simp; done) | (go_simp; rfl)) ?_
              refine wpList_enter rfl (by go_simp) (K2.out h0 h1 h2 w8) ?_
              rintro e wa ⟨rfl, hb⟩
              refine ⟨_, rfl, ?_⟩
              have HCa := Lib.hid ((hb.block _ (Array.getElem?_eq_some_iff.1 HC8.out).1).trans HC8.out)
              have HPa := Lib.hid ((hb.block _ (Array.getElem?_eq_some_iff.1 HP8.out).1).trans HP8.out)
              have HNa := Lib.hid ((hb.block _ (Array.getElem?_eq_some_iff.1 HN8.out).1).trans HN8.out)
              have HKa := Lib.hid ((hb.block _ (Array.getElem?_eq_some_iff.1 HK8.out).1).trans HK8.out)
              have HXa := Lib.hid ((hb.block _ (Array.getElem?_eq_some_iff.1 HX8.out).1).trans HX8.out)
              have HBa := Lib.hid (below_next HB8.out hb)
              clear hb
              refine wpList_yield (w' := wa) (v := .tuple #[.agg lk.toArray, .int .i64 E]) rfl (by first | (go_simp; done) | (go_simp; rfl)) ?_
              refine wpList_yield (w' := wa) (v := .agg lk.toArray) rfl (by first | (go_simp; done) | (go_simp; rfl)) ?_
              refine wpList_yield (w' := wa) (v := .int .i64 E) rfl (by first | (go_simp; done) | (go_simp; rfl)) ?_
              refine wpList_store_all rfl 26 _ _ rfl pk (T := 26) lk (by go_simp) (by go_simp) HKa.out (by rw [HLK.out]; rfl) (by rw [HLK.out]; kernel_rfl) HK1.out ?_
              intro wb hw
              have HCb := Lib.hid ((hw.rest _ (by omega)).trans HCa.out)
              have HPb := Lib.hid ((hw.rest _ (by omega)).trans HPa.out)
              have HNb := Lib.hid ((hw.rest _ (by omega)).trans HNa.out)
              have HKb := Lib.hid hw.there
              have HXb := Lib.hid ((hw.rest _ (by omega)).trans HXa.out)
              have HBb := Lib.hid (hw.below HBa.out (by omega))
              clear hw
              refine wpList_yield (w' := wb) (v := .int .i64 E) rfl (by first | (go_simp; done) | (go_simp; rfl)) ?_
              clear e0 e1 e2 e3
              have e0 := cell_of_block (o := 0) HNb.out rfl
              have e1 := cell_of_block (o := 1) HNb.out rfl
              have e2 := cell_of_block (o := 2) HNb.out rfl
              have e3 := cell_of_block (o := 3) HNb.out rfl
              go_upto_region 20 with fail
              refine wp_region_lit ?_
              refine wpList_load_all rfl 29 _ rfl p lv _ (by go_simp) HPb.out Try.underlying29 rfl (by rw [HLV.out]; kernel_rfl) ?_
              refine wpList_yield (w' := wb) (v := .pointer (some ⟨pa, 1, none⟩)) rfl (by first | (go_simp; done) | (go_simp; rfl)) ?_
              refine wpList_yield (w' := wb) (v := .int .i64 a.now) rfl (by first | (go_simp; done) | (go_simp; rfl)) ?_
              refine wpList_yield (w' := wb) (v := .pointer (some ⟨pa, 3, none⟩)) rfl (by first | (go_simp; done) | (go_simp; rfl)) ?_
              refine wpList_yield (w' := wb) (v := .int .i64 a.n) rfl (by first | (go_simp; done) | (go_simp; rfl)) ?_
              refine wpList_yield (w' := wb) (v := .int .i64 R) rfl (by first | (go_simp; done) | (go_simp; rfl)) ?_
              refine wpList_enter rfl (by go_simp) (Q2.out h0 h1 h2 wb) ?_
              rintro e wm ⟨rfl, hb⟩
              refine ⟨_, rfl, ?_⟩
              have HCm := Lib.hid ((hb.block _ (Array.getElem?_eq_some_iff.1 HCb.out).1).trans HCb.out)
              have HPm := Lib.hid ((hb.block _ (Array.getElem?_eq_some_iff.1 HPb.out).1).trans HPb.out)
              have HNm := Lib.hid ((hb.block _ (Array.getElem?_eq_some_iff.1 HNb.out).1).trans HNb.out)
              have HKm := Lib.hid ((hb.block _ (Array.getElem?_eq_some_iff.1 HKb.out).1).trans HKb.out)
              have HXm := Lib.hid ((hb.block _ (Array.getElem?_eq_some_iff.1 HXb.out).1).trans HXb.out)
              have HBm := Lib.hid (below_next HBb.out hb)
              clear hb
              refine wpList_yield (w' := wm) (v := .tuple #[.agg lk.toArray, .int .i64 E]) rfl (by first | (go_simp; done) | (go_simp; rfl)) ?_
              refine wpList_yield (w' := wm) (v := .agg lk.toArray) rfl (by first | (go_simp; done) | (go_simp; rfl)) ?_
              refine wpList_yield (w' := wm) (v := .int .i64 E) rfl (by first | (go_simp; done) | (go_simp; rfl)) ?_
              refine wpList_store_all rfl 29 _ _ rfl px (T := 29) lk (by go_simp) (by go_simp) HXm.out (by rw [HLK.out]; rfl) (by rw [HLK.out]; kernel_rfl) HK1.out ?_
              intro wn hw
              have HCn := Lib.hid ((hw.rest _ (by omega)).trans HCm.out)
              have HPn := Lib.hid ((hw.rest _ (by omega)).trans HPm.out)
              have HNn := Lib.hid ((hw.rest _ (by omega)).trans HNm.out)
              have HKn := Lib.hid ((hw.rest _ (by omega)).trans HKm.out)
              have HXn := Lib.hid hw.there
              have HBn := Lib.hid (hw.below HBm.out (by omega))
              clear hw
              refine wpList_yield (w' := wn) (v := .int .i64 E) rfl (by first | (go_simp; done) | (go_simp; rfl)) ?_
              go_wp2_with fail
              try go_simp
              go_meet
              exact ⟨rfl, rfl, HBn.out, HCn.out, HPn.out, HNn.out, HKn.out, HXn.out⟩
            | false =>
              obtain ⟨hk, hE⟩ := K3.out h0 h1 h2
              go_wp2_with fail
              try go_simp
              go_meet
              exact ⟨by rw [hE], by rw [hE], HB8.out, HC8.out, HP8.out, HN8.out, by rw [← K3L.out hk]; exact HK8.out, by rw [← K3L.out hk]; exact HX8.out⟩
      case rest =>
      obtain ⟨rfl, rfl, hb9, hc9, hp9, hn9, hk9, hx9⟩ := hcut
      have HB9 := Lib.hid hb9
      have HC9 := Lib.hid hc9
      have HP9 := Lib.hid hp9
      have HN9 := Lib.hid hn9
      have HK9 := Lib.hid hk9
      have HX9 := Lib.hid hx9
      clear hb9 hc9 hp9 hn9 hk9 hx9 e0 e1 e2 e3 HB8 HC8 HP8 HN8 HK8 HX8 K0 K1 K2 Q0 Q1 Q2 K3 K3L HBV HCV HPV
      go_upto_region 21 with fail
      have FC := Lib.hid (fun (W : World) (h : Below wc.heap.size wc W) => (h.block _ (Array.getElem?_eq_some_iff.1 HC9.out).1).trans HC9.out)
      have FP := Lib.hid (fun (W : World) (h : Below wc.heap.size wc W) => (h.block _ (Array.getElem?_eq_some_iff.1 HP9.out).1).trans HP9.out)
      have FN := Lib.hid (fun (W : World) (h : Below wc.heap.size wc W) => (h.block _ (Array.getElem?_eq_some_iff.1 HN9.out).1).trans HN9.out)
      have FK := Lib.hid (fun (W : World) (h : Below wc.heap.size wc W) => (h.block _ (Array.getElem?_eq_some_iff.1 HK9.out).1).trans HK9.out)
      have FX := Lib.hid (fun (W : World) (h : Below wc.heap.size wc W) => (h.block _ (Array.getElem?_eq_some_iff.1 HX9.out).1).trans HX9.out)
      refine Rl.wp_region_rel (fun a b => Below a.heap.size a b) wc (fun a b c h h' => below_next h h') (fun a => Below.refl _ _) hmx (by kernel_rfl) (Below.refl _ _).drew ?_
      iterate 4 (refine Rl.textR_run ?_ (fun ρ => ?_) (fun ρ W hS hd => ?_) ?_; rotate_left; (focus go_simp); (focus (obtain ⟨hc, hf⟩ := bcell hS; go_simp; first | exact ⟨rfl, Below.refl _ _⟩ | (refine ⟨?_, Below.refl _ _⟩; rfl))); (try go_simp))
      refine Rl.textR_run (.agg lk.toArray) (fun ρ => ?_) (fun ρ W hS hd => ?_) ?_
      · go_simp
      · exact Rl.comesToR_load 26 _ rfl pk (by go_simp) _ _ (FK.out W hS) Try.underlying26 rfl (by rw [HLK.out]; kernel_rfl) ⟨rfl, Below.refl _ _⟩
      (try go_simp)
      (refine Rl.textR_run ?_ (fun ρ => ?_) (fun ρ W hS hd => ?_) ?_; rotate_left; (focus go_simp); (focus (obtain ⟨hc, hf⟩ := bcell hS; go_simp; refine (KOK.out W).mono ?_; rintro e w1 ⟨rfl, hb⟩; refine ⟨_, rfl, ?_, hb⟩; rfl)); (try go_simp))
      refine Rl.textR_run (.agg lk.toArray) (fun ρ => ?_) (fun ρ W hS hd => ?_) ?_
      · go_simp
      · exact Rl.comesToR_load 29 _ rfl px (by go_simp) _ _ (FX.out W hS) Try.underlying29 rfl (by rw [HLK.out]; kernel_rfl) ⟨rfl, Below.refl _ _⟩
      (try go_simp)
      refine Rl.textR_run (.bool false) (fun ρ => ?_) (fun ρ W hS hd => ?_) ?_
      · go_simp
      · exact Rl.comesToR_neq 29 _ _ _ rfl _ _ (by go_simp) (by go_simp) (by kernel_rfl) (KEQ.out W) ⟨rfl, Below.refl _ _⟩
      (try go_simp)
      (refine Rl.textR_run ?_ (fun ρ => ?_) (fun ρ W hS hd => ?_) ?_; rotate_left; (focus go_simp); (focus (obtain ⟨hc, hf⟩ := bcell hS; go_simp; first | exact ⟨rfl, Below.refl _ _⟩ | (refine ⟨?_, Below.refl _ _⟩; rfl))); (try go_simp))
      refine Rl.textR_nil ?_
      intro ρ wd hg hk
      have HBd := Lib.hid (below_next HB9.out hg)
      have HCd := Lib.hid (FC.out _ hg)
      have HPd := Lib.hid (FP.out _ hg)
      have HNd := Lib.hid (FN.out _ hg)
      have HKd := Lib.hid (FK.out _ hg)
      have HXd := Lib.hid (FX.out _ hg)
      clear hg hk FC FP FN FK FX HB9 HC9 HP9 HN9 HK9 HX9
      dsimp only
      clear ρ
      have e0 := cell_of_block (o := 0) HNd.out rfl
      by_cases hall : E = 0 ∧ 0 ≤ a.kind ∧ a.kind ≤ 2
      case neg =>
        have hno : (E == 0) = false ∨ ((E == 0) = true ∧ decide (a.kind ≥ 0) = false) ∨ ((E == 0) = true ∧ decide (a.kind ≥ 0) = true ∧ decide (a.kind ≤ 2) = false) := by
          by_cases h1 : E = 0
          · by_cases h2 : 0 ≤ a.kind
            · exact .inr (.inr ⟨beq_iff_eq.2 h1, decide_eq_true h2, decide_eq_false (fun h3 => hall ⟨h1, h2, h3⟩)⟩)
            · exact .inr (.inl ⟨beq_iff_eq.2 h1, decide_eq_false h2⟩)
          · exact .inl (beq_eq_false_iff_ne.2 h1)
        clear hall
        rcases hno with hx | ⟨hx, hy⟩ | ⟨hx, hy, hz⟩
        all_goals (
          go_wp2_with fail
          go_roundw
          case rel => exact ⟨q + 1, jv, by have := HQ.out; omega, by have := HQ.out; omega, by go_num, by rw [HLJ.out]; exact HCd.out, by rw [HLJ.out]; exact HPd.out, HBd.out⟩
          case measure => have := HQ.out; simp [intOf]; omega)
      case pos =>
        obtain ⟨hE, hk0, hk2⟩ := hall
        subst hE
        have hx0 : decide (a.kind ≥ 0) = true := decide_eq_true hk0
        have hx2 : decide (a.kind ≤ 2) = true := decide_eq_true hk2
        clear hk0 hk2
        go_upto_region 24 with fail
        clear e0 hx0 hx2
        refine wp_region_held (S := fun X => X.heap[pk]? = some (.cells lk.toArray 26 (0, 0)) ∧ X.heap[px]? = some (.cells lk.toArray 29 (0, 0))) hmx ?_
        change wpAnyH _ _ _ _ _ 4 _ _ wd.drew
        have HBe := Lib.hid (below_next HBd.out (show Below wd.heap.size wd wd.drew from (Below.refl _ _).drew))
        have HCe := Lib.hid (show wd.drew.heap[w.heap.size]? = _ from HCd.out)
        have HPe := Lib.hid (show wd.drew.heap[p]? = _ from HPd.out)
        have hSS : wd.drew.heap[pk]? = some (.cells lk.toArray 26 (0, 0)) ∧ wd.drew.heap[px]? = some (.cells lk.toArray 29 (0, 0)) := ⟨HKd.out, HXd.out⟩
        generalize wd.drew = we at *
        refine wpAnyH_take (i := 0) (v := .agg lk.toArray) rfl (by decide +kernel) (by decide +kernel) (by decide +kernel) (fun _ _ _ h => h) (yieldsIf_load_mid (by first | rfl | (go_simp; done)) 26 _ rfl pk 0 (by go_simp) lk _ (fun X hX => range_of_block hX.1) Try.underlying26 rfl (by rw [HLK.out]; kernel_rfl)) hSS ?_
        refine wpAnyH_take (i := 1) (v := .agg lk.toArray) rfl (by decide +kernel) (by decide +kernel) (by decide +kernel) (fun _ _ _ h => h) (yieldsIf_load_mid (by first | rfl | (go_simp; done)) 29 _ rfl px 0 (by go_simp) lk _ (fun X hX => range_of_block hX.2) Try.underlying29 rfl (by rw [HLK.out]; kernel_rfl)) hSS ?_
        have hwA := wrote_all HCe.out (l := lk) (by rw [HLK.out]; simp [HLV.out])
        have hS2 : (we.setCells w.heap.size 0 lk).heap[pk]? = some (.cells lk.toArray 26 (0, 0)) ∧ (we.setCells w.heap.size 0 lk).heap[px]? = some (.cells lk.toArray 29 (0, 0)) := ⟨(hwA.rest _ (by omega)).trans hSS.1, (hwA.rest _ (by omega)).trans hSS.2⟩
        refine anyH_store (i := 2) (by decide +kernel) rfl (by first | rfl | (go_simp; done)) (exec_store_all 26 _ _ rfl w.heap.size lk (by go_simp) (by go_simp) HCe.out (by rw [HLK.out]; simp [HLV.out]) (by rw [HLK.out]; kernel_rfl) HK1.out) hS2 ?_
        have HPf := Lib.hid ((hwA.rest p (by omega)).trans HPe.out)
        have HCf := Lib.hid hwA.there
        have HBf := Lib.hid (hwA.below HBe.out (Nat.le_refl _))
        clear hwA hSS
        generalize we.setCells w.heap.size 0 lk = wf at *
        have hwB := wrote_all HPf.out (l := lk) (by rw [HLK.out]; simp [HLV.out])
        have hS3 : (wf.setCells p 0 lk).heap[pk]? = some (.cells lk.toArray 26 (0, 0)) ∧ (wf.setCells p 0 lk).heap[px]? = some (.cells lk.toArray 29 (0, 0)) := ⟨(hwB.rest _ (by omega)).trans hS2.1, (hwB.rest _ (by omega)).trans hS2.2⟩
        refine anyH_store (i := 3) (by decide +kernel) rfl (by first | rfl | (go_simp; done)) (exec_store_all 29 _ _ rfl p lk (by go_simp) (by go_simp) HPf.out (by rw [HLK.out]; simp [HLV.out]) (by rw [HLK.out]; kernel_rfl) HK1.out) hS3 ?_
        have HPg := Lib.hid hwB.there
        have HCg := Lib.hid ((hwB.rest w.heap.size (by omega)).trans HCf.out)
        have HBg := Lib.hid (hwB.below HBf.out (by omega))
        clear hwB hS2
        generalize wf.setCells p 0 lk = wg at *
        refine wpAnyH_done (by decide +kernel) ?_ _
        clear hS3
        go_wp2_with fail
        go_roundw
        case rel => exact ⟨q + 1, k, by have := HQ.out; omega, by have := HQ.out; omega, by go_num, by rw [HLK2.out]; exact HCg.out, by rw [HLK2.out]; exact HPg.out, HBg.out⟩
        case measure => have := HQ.out; simp [intOf]; omega
end Go.Proofs.Ytgeldpfojmkdbaa
