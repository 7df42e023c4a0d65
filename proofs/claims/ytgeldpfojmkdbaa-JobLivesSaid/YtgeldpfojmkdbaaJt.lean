/- What is a right job, by the document (layer 15). No condition. -/
import Derived.Test.YtgeldpfojmkdbaaJs
import Derived.Test.YtgeldpfojmkdbaaRelL
import Derived.Test.YtgeldpfojmkdbaaFork
namespace Go.Proofs.Ytgeldpfojmkdbaa
set_option linter.unusedVariables false
open Go.ChangeShapes Go.WideShapes Go.ChangeAt Go.RowKit
attribute [local go_sem ↓] Go.wp_at_zero Go.wp_at_succ comesTo_value_eq comesTo_skip_eq comesTo_enter_eq Rl.comesToR_value_eq Rl.comesToR_skip_eq Rl.comesToR_enter_eq

def CA (j : JobV) : Prop := 1 ≤ j.id ∧ j.id ≤ 1073741824 ∧ 1 ≤ j.user ∧ j.user ≤ 16 ∧ 0 ≤ j.part ∧ j.part ≤ 3 ∧ 1 ≤ j.width ∧ j.width ≤ 64 ∧ 1 ≤ j.limit ∧ j.limit ≤ 1048576 ∧ -100 ≤ j.nice ∧ j.nice ≤ 100 ∧ 0 ≤ j.after ∧ j.after < j.id
def CB (j : JobV) : Prop := timeB j.sent = true ∧ timeB j.plan = true ∧ timeB j.promise = true ∧ timeB j.start = true ∧ timeB j.fin = true ∧ 0 ≤ j.tries ∧ j.tries ≤ 9
theorem rightB_split (j : JobV) : rightB j = true ↔ CA j ∧ CB j ∧ stateB j = true := by
  unfold rightB numsB moreB timesJ CA CB inI
  simp only [List.all_cons, List.all_nil, Bool.and_eq_true, decide_eq_true_eq, and_true]
  constructor
  · rintro ⟨⟨⟨h1, h2⟩, h3⟩, h4⟩
    refine ⟨?_, ?_, h4⟩
    · omega
    · refine ⟨h3.1, h3.2.1, h3.2.2.1, h3.2.2.2.1, h3.2.2.2.2, ?_⟩; omega
  · rintro ⟨h1, ⟨a, b, c, d, e, f⟩, h4⟩
    exact ⟨⟨⟨by omega, by omega⟩, ⟨a, b, c, d, e⟩⟩, h4⟩
set_option maxRecDepth 100000 in
set_option maxHeartbeats 40000000 in
theorem rright_any (j : JobV) (w : World) : Calls Try.prog 6 #[.agg (jobC j).toArray] w fun e w' => e = .returned (.bool (rightB j)) ∧ Below w.heap.size w w' := by
  have hmx : Try.prog.follows .mixedOrders = true := by kernel_rfl
  have HSP := Lib.hid (rightB_split j)
  have hS : j.state = 0 ∨ j.state = 1 ∨ (inI j.state 2 5 = true ∧ (j.state = 2 ∨ j.state = 3 ∨ j.state = 4 ∨ j.state = 5)) ∨ (inI j.state 2 5 = false ∧ (j.state == 0) = false ∧ (j.state == 1) = false ∧ (j.state == 2) = false ∧ (j.state == 3) = false ∧ (j.state == 4) = false ∧ (j.state == 5) = false) := by
    cases h : inI j.state 2 5 with
    | true => have := inI_yes h; by_cases h0 : j.state = 0; exact .inl h0; by_cases h1 : j.state = 1; exact .inr (.inl h1); exact .inr (.inr (.inl ⟨rfl, by omega⟩))
    | false =>
      have := inI_no h
      by_cases h0 : j.state = 0; exact .inl h0; by_cases h1 : j.state = 1; exact .inr (.inl h1)
      refine .inr (.inr (.inr ⟨rfl, ?_, ?_, ?_, ?_, ?_, ?_⟩)) <;> (rw [beq_eq_false_iff_ne]; omega)
  have HS := Lib.hid hS
  clear hS
  have k0 : (jobC j).toArray[0]? = some (.int .i64 j.id) := rfl
  have k1 : (jobC j).toArray[1]? = some (.int .i64 j.user) := rfl
  have k2 : (jobC j).toArray[2]? = some (.int .i64 j.part) := rfl
  have k3 : (jobC j).toArray[3]? = some (.int .i64 j.width) := rfl
  have k4 : (jobC j).toArray[4]? = some (.int .i64 j.limit) := rfl
  have k5 : (jobC j).toArray[5]? = some (.int .i64 j.nice) := rfl
  have k6 : (jobC j).toArray[6]? = some (.int .i64 j.after) := rfl
  have k7 : (jobC j).toArray[7]? = some (.bool j.hold) := rfl
  have k8 : (jobC j).toArray[8]? = some (.int .i64 j.state) := rfl
  have k9 : (jobC j).toArray[9]? = some (.int .i64 j.sent) := rfl
  have k10 : (jobC j).toArray[10]? = some (.int .i64 j.plan) := rfl
  have k11 : (jobC j).toArray[11]? = some (.int .i64 j.promise) := rfl
  have k12 : (jobC j).toArray[12]? = some (.int .i64 j.tries) := rfl
  have k13 : (jobC j).toArray[13]? = some (.int .u64 (nv j.black)) := rfl
  have k14 : (jobC j).toArray[14]? = some (.int .u64 (nv j.nodes)) := rfl
  have k15 : (jobC j).toArray[15]? = some (.int .i64 j.start) := rfl
  have k16 : (jobC j).toArray[16]? = some (.int .i64 j.fin) := rfl
  generalize hl : jobC j = l at *
  clear hl
  have hC := World.alloc_heap_new w (.cells l.toArray 29)
  have HB := Lib.hid (below_alloc (Below.refl _ w) (.cells l.toArray 29))
  have l0 : w.heap.size < (w.alloc (.cells l.toArray 29)).heap.size := by simp
  have c0 := cell_of_block (o := 0) hC k0
  have c1 := cell_of_block (o := 1) hC k1
  have c2 := cell_of_block (o := 2) hC k2
  have c3 := cell_of_block (o := 3) hC k3
  have c4 := cell_of_block (o := 4) hC k4
  have c5 := cell_of_block (o := 5) hC k5
  have c6 := cell_of_block (o := 6) hC k6
  have c7 := cell_of_block (o := 7) hC k7
  have c8 := cell_of_block (o := 8) hC k8
  have c9 := cell_of_block (o := 9) hC k9
  have c10 := cell_of_block (o := 10) hC k10
  have c11 := cell_of_block (o := 11) hC k11
  have c12 := cell_of_block (o := 12) hC k12
  have c13 := cell_of_block (o := 13) hC k13
  have c14 := cell_of_block (o := 14) hC k14
  have c15 := cell_of_block (o := 15) hC k15
  have c16 := cell_of_block (o := 16) hC k16
  have HC0 := Lib.hid c0
  have HC1 := Lib.hid c1
  have HC2 := Lib.hid c2
  have HC3 := Lib.hid c3
  have HC4 := Lib.hid c4
  have HC5 := Lib.hid c5
  have HC6 := Lib.hid c6
  have HC7 := Lib.hid c7
  have HC8 := Lib.hid c8
  have HC9 := Lib.hid c9
  have HC10 := Lib.hid c10
  have HC11 := Lib.hid c11
  have HC12 := Lib.hid c12
  have HC13 := Lib.hid c13
  have HC14 := Lib.hid c14
  have HC15 := Lib.hid c15
  have HC16 := Lib.hid c16
  have L0 := Lib.hid l0
  clear hC l0 k0 k1 k2 k3 k4 k5 k6 k7 k8 k9 k10 k11 k12 k13 k14 k15 k16 c7 c8 c9 c10 c11 c12 c13 c14 c15 c16
  go_enter Try.func6, Try.ntmps6
  go_upto_region 1 with fail
  generalize w.alloc (.cells l.toArray 29) = U at *
  obtain ⟨ac0, hc0⟩ : ∃ b : Bool, b = decide (j.id < 1) := ⟨_, rfl⟩
  have aC0 := Lib.hid hc0
  clear hc0
  obtain ⟨ac1, hc1⟩ : ∃ b : Bool, b = decide (1073741824 < j.id) := ⟨_, rfl⟩
  have aC1 := Lib.hid hc1
  clear hc1
  obtain ⟨ac2, hc2⟩ : ∃ b : Bool, b = decide (j.user < 1) := ⟨_, rfl⟩
  have aC2 := Lib.hid hc2
  clear hc2
  obtain ⟨ac3, hc3⟩ : ∃ b : Bool, b = decide (16 < j.user) := ⟨_, rfl⟩
  have aC3 := Lib.hid hc3
  clear hc3
  obtain ⟨ac4, hc4⟩ : ∃ b : Bool, b = decide (j.part < 0) := ⟨_, rfl⟩
  have aC4 := Lib.hid hc4
  clear hc4
  obtain ⟨ac5, hc5⟩ : ∃ b : Bool, b = decide (3 < j.part) := ⟨_, rfl⟩
  have aC5 := Lib.hid hc5
  clear hc5
  obtain ⟨ac6, hc6⟩ : ∃ b : Bool, b = decide (j.width < 1) := ⟨_, rfl⟩
  have aC6 := Lib.hid hc6
  clear hc6
  obtain ⟨ac7, hc7⟩ : ∃ b : Bool, b = decide (64 < j.width) := ⟨_, rfl⟩
  have aC7 := Lib.hid hc7
  clear hc7
  obtain ⟨ac8, hc8⟩ : ∃ b : Bool, b = decide (j.limit < 1) := ⟨_, rfl⟩
  have aC8 := Lib.hid hc8
  clear hc8
  obtain ⟨ac9, hc9⟩ : ∃ b : Bool, b = decide (1048576 < j.limit) := ⟨_, rfl⟩
  have aC9 := Lib.hid hc9
  clear hc9
  obtain ⟨ac10, hc10⟩ : ∃ b : Bool, b = decide (j.nice < -100) := ⟨_, rfl⟩
  have aC10 := Lib.hid hc10
  clear hc10
  obtain ⟨ac11, hc11⟩ : ∃ b : Bool, b = decide (100 < j.nice) := ⟨_, rfl⟩
  have aC11 := Lib.hid hc11
  clear hc11
  obtain ⟨ac12, hc12⟩ : ∃ b : Bool, b = decide (j.after < 0) := ⟨_, rfl⟩
  have aC12 := Lib.hid hc12
  clear hc12
  obtain ⟨ac13, hc13⟩ : ∃ b : Bool, b = decide (j.id ≤ j.after) := ⟨_, rfl⟩
  have aC13 := Lib.hid hc13
  clear hc13
  obtain ⟨ab1, hb1⟩ : ∃ b : Bool, b = (ac0 || ac1) := ⟨_, rfl⟩
  have aB1 := Lib.hid hb1
  clear hb1
  obtain ⟨ab2, hb2⟩ : ∃ b : Bool, b = (ab1 || ac2) := ⟨_, rfl⟩
  have aB2 := Lib.hid hb2
  clear hb2
  obtain ⟨ab3, hb3⟩ : ∃ b : Bool, b = (ab2 || ac3) := ⟨_, rfl⟩
  have aB3 := Lib.hid hb3
  clear hb3
  obtain ⟨ab4, hb4⟩ : ∃ b : Bool, b = (ab3 || ac4) := ⟨_, rfl⟩
  have aB4 := Lib.hid hb4
  clear hb4
  obtain ⟨ab5, hb5⟩ : ∃ b : Bool, b = (ab4 || ac5) := ⟨_, rfl⟩
  have aB5 := Lib.hid hb5
  clear hb5
  obtain ⟨ab6, hb6⟩ : ∃ b : Bool, b = (ab5 || ac6) := ⟨_, rfl⟩
  have aB6 := Lib.hid hb6
  clear hb6
  obtain ⟨ab7, hb7⟩ : ∃ b : Bool, b = (ab6 || ac7) := ⟨_, rfl⟩
  have aB7 := Lib.hid hb7
  clear hb7
  obtain ⟨ab8, hb8⟩ : ∃ b : Bool, b = (ab7 || ac8) := ⟨_, rfl⟩
  have aB8 := Lib.hid hb8
  clear hb8
  obtain ⟨ab9, hb9⟩ : ∃ b : Bool, b = (ab8 || ac9) := ⟨_, rfl⟩
  have aB9 := Lib.hid hb9
  clear hb9
  obtain ⟨ab10, hb10⟩ : ∃ b : Bool, b = (ab9 || ac10) := ⟨_, rfl⟩
  have aB10 := Lib.hid hb10
  clear hb10
  obtain ⟨ab11, hb11⟩ : ∃ b : Bool, b = (ab10 || ac11) := ⟨_, rfl⟩
  have aB11 := Lib.hid hb11
  clear hb11
  obtain ⟨ab12, hb12⟩ : ∃ b : Bool, b = (ab11 || ac12) := ⟨_, rfl⟩
  have aB12 := Lib.hid hb12
  clear hb12
  obtain ⟨ab13, hb13⟩ : ∃ b : Bool, b = (ab12 || ac13) := ⟨_, rfl⟩
  have aB13 := Lib.hid hb13
  clear hb13
  refine wp_region_lit (WL.out ?_)
  refine WL.yield (w' := U) (v := .pointer (some ⟨w.heap.size, 0, none⟩)) rfl (by first | (go_simp; done) | (go_simp; rfl)) ?_
  refine WL.yield (w' := U) (v := .int .i64 j.id) rfl (by first | (go_simp; done) | (go_simp; rfl)) ?_
  refine WL.yield (w' := U) (v := .bool ac0) rfl (by rw [aC0.out]; first | (go_simp; done) | (go_simp; rfl)) ?_
  refine WL.yield (w' := U) (v := .bool ac0) rfl (by first | (go_simp; done) | (go_simp; rfl)) ?_
  refine WL.link3 3 false ac0 ac1 (by kernel_rfl) (by kernel_rfl) (by kernel_rfl) (fun hb H => ?_) (fun x y z hz => ?_)
  · subst hb
    refine WL.yield_w (w' := U) (v := .pointer (some ⟨w.heap.size, 0, none⟩)) (by kernel_rfl) (by first | (go_simp; done) | (go_simp; rfl)) ?_
    refine WL.yield_w (w' := U) (v := .int .i64 j.id) (by kernel_rfl) (by first | (go_simp; done) | (go_simp; rfl)) ?_
    refine WL.yield_w (w' := U) (v := .bool ac1) (by kernel_rfl) (by rw [aC1.out]; first | (go_simp; done) | (go_simp; rfl)) ?_
    exact H _ _
  refine WL.yield (w' := U) (v := .bool ab1) rfl (by rw [aB1.out]; exact exec_pick_or rfl (by go_simp) rfl (fun h => by rw [hz h]; first | (go_simp; done) | (go_simp; rfl))) ?_
  clear hz
  go_simp
  refine WL.yield (w' := U) (v := .bool ab1) rfl (by first | (go_simp; done) | (go_simp; rfl)) ?_
  refine WL.link3 8 false ab1 ac2 (by kernel_rfl) (by kernel_rfl) (by kernel_rfl) (fun hb H => ?_) (fun x y z hz => ?_)
  · subst hb
    refine WL.yield_w (w' := U) (v := .pointer (some ⟨w.heap.size, 1, none⟩)) (by kernel_rfl) (by first | (go_simp; done) | (go_simp; rfl)) ?_
    refine WL.yield_w (w' := U) (v := .int .i64 j.user) (by kernel_rfl) (by first | (go_simp; done) | (go_simp; rfl)) ?_
    refine WL.yield_w (w' := U) (v := .bool ac2) (by kernel_rfl) (by rw [aC2.out]; first | (go_simp; done) | (go_simp; rfl)) ?_
    exact H _ _
  refine WL.yield (w' := U) (v := .bool ab2) rfl (by rw [aB2.out]; exact exec_pick_or rfl (by go_simp) rfl (fun h => by rw [hz h]; first | (go_simp; done) | (go_simp; rfl))) ?_
  clear hz
  go_simp
  refine WL.yield (w' := U) (v := .bool ab2) rfl (by first | (go_simp; done) | (go_simp; rfl)) ?_
  refine WL.link3 13 false ab2 ac3 (by kernel_rfl) (by kernel_rfl) (by kernel_rfl) (fun hb H => ?_) (fun x y z hz => ?_)
  · subst hb
    refine WL.yield_w (w' := U) (v := .pointer (some ⟨w.heap.size, 1, none⟩)) (by kernel_rfl) (by first | (go_simp; done) | (go_simp; rfl)) ?_
    refine WL.yield_w (w' := U) (v := .int .i64 j.user) (by kernel_rfl) (by first | (go_simp; done) | (go_simp; rfl)) ?_
    refine WL.yield_w (w' := U) (v := .bool ac3) (by kernel_rfl) (by rw [aC3.out]; first | (go_simp; done) | (go_simp; rfl)) ?_
    exact H _ _
  refine WL.yield (w' := U) (v := .bool ab3) rfl (by rw [aB3.out]; exact exec_pick_or rfl (by go_simp) rfl (fun h => by rw [hz h]; first | (go_simp; done) | (go_simp; rfl))) ?_
  clear hz
  go_simp
  refine WL.yield (w' := U) (v := .bool ab3) rfl (by first | (go_simp; done) | (go_simp; rfl)) ?_
  refine WL.link3 18 false ab3 ac4 (by kernel_rfl) (by kernel_rfl) (by kernel_rfl) (fun hb H => ?_) (fun x y z hz => ?_)
  · subst hb
    refine WL.yield_w (w' := U) (v := .pointer (some ⟨w.heap.size, 2, none⟩)) (by kernel_rfl) (by first | (go_simp; done) | (go_simp; rfl)) ?_
    refine WL.yield_w (w' := U) (v := .int .i64 j.part) (by kernel_rfl) (by first | (go_simp; done) | (go_simp; rfl)) ?_
    refine WL.yield_w (w' := U) (v := .bool ac4) (by kernel_rfl) (by rw [aC4.out]; first | (go_simp; done) | (go_simp; rfl)) ?_
    exact H _ _
  refine WL.yield (w' := U) (v := .bool ab4) rfl (by rw [aB4.out]; exact exec_pick_or rfl (by go_simp) rfl (fun h => by rw [hz h]; first | (go_simp; done) | (go_simp; rfl))) ?_
  clear hz
  go_simp
  refine WL.yield (w' := U) (v := .bool ab4) rfl (by first | (go_simp; done) | (go_simp; rfl)) ?_
  refine WL.link3 23 false ab4 ac5 (by kernel_rfl) (by kernel_rfl) (by kernel_rfl) (fun hb H => ?_) (fun x y z hz => ?_)
  · subst hb
    refine WL.yield_w (w' := U) (v := .pointer (some ⟨w.heap.size, 2, none⟩)) (by kernel_rfl) (by first | (go_simp; done) | (go_simp; rfl)) ?_
    refine WL.yield_w (w' := U) (v := .int .i64 j.part) (by kernel_rfl) (by first | (go_simp; done) | (go_simp; rfl)) ?_
    refine WL.yield_w (w' := U) (v := .bool ac5) (by kernel_rfl) (by rw [aC5.out]; first | (go_simp; done) | (go_simp; rfl)) ?_
    exact H _ _
  refine WL.yield (w' := U) (v := .bool ab5) rfl (by rw [aB5.out]; exact exec_pick_or rfl (by go_simp) rfl (fun h => by rw [hz h]; first | (go_simp; done) | (go_simp; rfl))) ?_
  clear hz
  go_simp
  refine WL.yield (w' := U) (v := .bool ab5) rfl (by first | (go_simp; done) | (go_simp; rfl)) ?_
  refine WL.link3 28 false ab5 ac6 (by kernel_rfl) (by kernel_rfl) (by kernel_rfl) (fun hb H => ?_) (fun x y z hz => ?_)
  · subst hb
    refine WL.yield_w (w' := U) (v := .pointer (some ⟨w.heap.size, 3, none⟩)) (by kernel_rfl) (by first | (go_simp; done) | (go_simp; rfl)) ?_
    refine WL.yield_w (w' := U) (v := .int .i64 j.width) (by kernel_rfl) (by first | (go_simp; done) | (go_simp; rfl)) ?_
    refine WL.yield_w (w' := U) (v := .bool ac6) (by kernel_rfl) (by rw [aC6.out]; first | (go_simp; done) | (go_simp; rfl)) ?_
    exact H _ _
  refine WL.yield (w' := U) (v := .bool ab6) rfl (by rw [aB6.out]; exact exec_pick_or rfl (by go_simp) rfl (fun h => by rw [hz h]; first | (go_simp; done) | (go_simp; rfl))) ?_
  clear hz
  go_simp
  refine WL.yield (w' := U) (v := .bool ab6) rfl (by first | (go_simp; done) | (go_simp; rfl)) ?_
  refine WL.link3 33 false ab6 ac7 (by kernel_rfl) (by kernel_rfl) (by kernel_rfl) (fun hb H => ?_) (fun x y z hz => ?_)
  · subst hb
    refine WL.yield_w (w' := U) (v := .pointer (some ⟨w.heap.size, 3, none⟩)) (by kernel_rfl) (by first | (go_simp; done) | (go_simp; rfl)) ?_
    refine WL.yield_w (w' := U) (v := .int .i64 j.width) (by kernel_rfl) (by first | (go_simp; done) | (go_simp; rfl)) ?_
    refine WL.yield_w (w' := U) (v := .bool ac7) (by kernel_rfl) (by rw [aC7.out]; first | (go_simp; done) | (go_simp; rfl)) ?_
    exact H _ _
  refine WL.yield (w' := U) (v := .bool ab7) rfl (by rw [aB7.out]; exact exec_pick_or rfl (by go_simp) rfl (fun h => by rw [hz h]; first | (go_simp; done) | (go_simp; rfl))) ?_
  clear hz
  go_simp
  refine WL.yield (w' := U) (v := .bool ab7) rfl (by first | (go_simp; done) | (go_simp; rfl)) ?_
  refine WL.link3 38 false ab7 ac8 (by kernel_rfl) (by kernel_rfl) (by kernel_rfl) (fun hb H => ?_) (fun x y z hz => ?_)
  · subst hb
    refine WL.yield_w (w' := U) (v := .pointer (some ⟨w.heap.size, 4, none⟩)) (by kernel_rfl) (by first | (go_simp; done) | (go_simp; rfl)) ?_
    refine WL.yield_w (w' := U) (v := .int .i64 j.limit) (by kernel_rfl) (by first | (go_simp; done) | (go_simp; rfl)) ?_
    refine WL.yield_w (w' := U) (v := .bool ac8) (by kernel_rfl) (by rw [aC8.out]; first | (go_simp; done) | (go_simp; rfl)) ?_
    exact H _ _
  refine WL.yield (w' := U) (v := .bool ab8) rfl (by rw [aB8.out]; exact exec_pick_or rfl (by go_simp) rfl (fun h => by rw [hz h]; first | (go_simp; done) | (go_simp; rfl))) ?_
  clear hz
  go_simp
  refine WL.yield (w' := U) (v := .bool ab8) rfl (by first | (go_simp; done) | (go_simp; rfl)) ?_
  refine WL.link3 43 false ab8 ac9 (by kernel_rfl) (by kernel_rfl) (by kernel_rfl) (fun hb H => ?_) (fun x y z hz => ?_)
  · subst hb
    refine WL.yield_w (w' := U) (v := .pointer (some ⟨w.heap.size, 4, none⟩)) (by kernel_rfl) (by first | (go_simp; done) | (go_simp; rfl)) ?_
    refine WL.yield_w (w' := U) (v := .int .i64 j.limit) (by kernel_rfl) (by first | (go_simp; done) | (go_simp; rfl)) ?_
    refine WL.yield_w (w' := U) (v := .bool ac9) (by kernel_rfl) (by rw [aC9.out]; first | (go_simp; done) | (go_simp; rfl)) ?_
    exact H _ _
  refine WL.yield (w' := U) (v := .bool ab9) rfl (by rw [aB9.out]; exact exec_pick_or rfl (by go_simp) rfl (fun h => by rw [hz h]; first | (go_simp; done) | (go_simp; rfl))) ?_
  clear hz
  go_simp
  refine WL.yield (w' := U) (v := .bool ab9) rfl (by first | (go_simp; done) | (go_simp; rfl)) ?_
  refine WL.link3 48 false ab9 ac10 (by kernel_rfl) (by kernel_rfl) (by kernel_rfl) (fun hb H => ?_) (fun x y z hz => ?_)
  · subst hb
    refine WL.yield_w (w' := U) (v := .pointer (some ⟨w.heap.size, 5, none⟩)) (by kernel_rfl) (by first | (go_simp; done) | (go_simp; rfl)) ?_
    refine WL.yield_w (w' := U) (v := .int .i64 j.nice) (by kernel_rfl) (by first | (go_simp; done) | (go_simp; rfl)) ?_
    refine WL.yield_w (w' := U) (v := .bool ac10) (by kernel_rfl) (by rw [aC10.out]; first | (go_simp; done) | (go_simp; rfl)) ?_
    exact H _ _
  refine WL.yield (w' := U) (v := .bool ab10) rfl (by rw [aB10.out]; exact exec_pick_or rfl (by go_simp) rfl (fun h => by rw [hz h]; first | (go_simp; done) | (go_simp; rfl))) ?_
  clear hz
  go_simp
  refine WL.yield (w' := U) (v := .bool ab10) rfl (by first | (go_simp; done) | (go_simp; rfl)) ?_
  refine WL.link3 53 false ab10 ac11 (by kernel_rfl) (by kernel_rfl) (by kernel_rfl) (fun hb H => ?_) (fun x y z hz => ?_)
  · subst hb
    refine WL.yield_w (w' := U) (v := .pointer (some ⟨w.heap.size, 5, none⟩)) (by kernel_rfl) (by first | (go_simp; done) | (go_simp; rfl)) ?_
    refine WL.yield_w (w' := U) (v := .int .i64 j.nice) (by kernel_rfl) (by first | (go_simp; done) | (go_simp; rfl)) ?_
    refine WL.yield_w (w' := U) (v := .bool ac11) (by kernel_rfl) (by rw [aC11.out]; first | (go_simp; done) | (go_simp; rfl)) ?_
    exact H _ _
  refine WL.yield (w' := U) (v := .bool ab11) rfl (by rw [aB11.out]; exact exec_pick_or rfl (by go_simp) rfl (fun h => by rw [hz h]; first | (go_simp; done) | (go_simp; rfl))) ?_
  clear hz
  go_simp
  refine WL.yield (w' := U) (v := .bool ab11) rfl (by first | (go_simp; done) | (go_simp; rfl)) ?_
  refine WL.link3 58 false ab11 ac12 (by kernel_rfl) (by kernel_rfl) (by kernel_rfl) (fun hb H => ?_) (fun x y z hz => ?_)
  · subst hb
    refine WL.yield_w (w' := U) (v := .pointer (some ⟨w.heap.size, 6, none⟩)) (by kernel_rfl) (by first | (go_simp; done) | (go_simp; rfl)) ?_
    refine WL.yield_w (w' := U) (v := .int .i64 j.after) (by kernel_rfl) (by first | (go_simp; done) | (go_simp; rfl)) ?_
    refine WL.yield_w (w' := U) (v := .bool ac12) (by kernel_rfl) (by rw [aC12.out]; first | (go_simp; done) | (go_simp; rfl)) ?_
    exact H _ _
  refine WL.yield (w' := U) (v := .bool ab12) rfl (by rw [aB12.out]; exact exec_pick_or rfl (by go_simp) rfl (fun h => by rw [hz h]; first | (go_simp; done) | (go_simp; rfl))) ?_
  clear hz
  go_simp
  refine WL.yield (w' := U) (v := .bool ab12) rfl (by first | (go_simp; done) | (go_simp; rfl)) ?_
  refine WL.link5 63 false ab12 ac13 (by kernel_rfl) (by kernel_rfl) (by kernel_rfl) (fun hb H => ?_) (fun x y x2 y2 z hz => ?_)
  · subst hb
    refine WL.yield_w (w' := U) (v := .pointer (some ⟨w.heap.size, 6, none⟩)) (by kernel_rfl) (by first | (go_simp; done) | (go_simp; rfl)) ?_
    refine WL.yield_w (w' := U) (v := .int .i64 j.after) (by kernel_rfl) (by first | (go_simp; done) | (go_simp; rfl)) ?_
    refine WL.yield_w (w' := U) (v := .pointer (some ⟨w.heap.size, 0, none⟩)) (by kernel_rfl) (by first | (go_simp; done) | (go_simp; rfl)) ?_
    refine WL.yield_w (w' := U) (v := .int .i64 j.id) (by kernel_rfl) (by first | (go_simp; done) | (go_simp; rfl)) ?_
    refine WL.yield_w (w' := U) (v := .bool ac13) (by kernel_rfl) (by rw [aC13.out]; first | (go_simp; done) | (go_simp; rfl)) ?_
    exact H _ _ _ _
  refine WL.yield (w' := U) (v := .bool ab13) rfl (by rw [aB13.out]; exact exec_pick_or rfl (by go_simp) rfl (fun h => by rw [hz h]; first | (go_simp; done) | (go_simp; rfl))) ?_
  clear hz
  go_simp
  refine WL.nil ?_
  have hB0 : ab13 = true ↔ ¬ CA j := by
    rw [aB13.out, aB12.out, aB11.out, aB10.out, aB9.out, aB8.out, aB7.out, aB6.out, aB5.out, aB4.out, aB3.out, aB2.out, aB1.out]; simp only [Bool.or_eq_true, aC0.out, aC1.out, aC2.out, aC3.out, aC4.out, aC5.out, aC6.out, aC7.out, aC8.out, aC9.out, aC10.out, aC11.out, aC12.out, aC13.out, decide_eq_true_eq]; unfold CA
    constructor
    · rintro h ⟨_, _, _, _, _, _, _, _, _, _, _, _, _, _⟩; omega
    · intro h; apply Decidable.byContradiction; intro hn; simp only [not_or] at hn; refine h ⟨?_, ?_, ?_, ?_, ?_, ?_, ?_, ?_, ?_, ?_, ?_, ?_, ?_, ?_⟩ <;> omega
  clear aB1 aB2 aB3 aB4 aB5 aB6 aB7 aB8 aB9 aB10 aB11 aB12 aB13 aC0 aC1 aC2 aC3 aC4 aC5 aC6 aC7 aC8 aC9 aC10 aC11 aC12 aC13
  clear c0 c1 c2 c3 c4 c5 c6
  by_cases h1 : CA j
  case neg =>
    obtain rfl : ab13 = true := hB0.2 h1
    have E := Lib.hid (show rightB j = false by rw [Bool.eq_false_iff]; intro h; exact h1 (HSP.out.1 h).1)
    clear hB0 h1
    go_wp2
    go_ret
    exact ⟨by rw [E.out]; rfl, HB.out⟩
  case pos =>
  obtain rfl : ab13 = false := by cases ab13 with | false => rfl | true => exact absurd h1 (hB0.1 rfl)
  clear hB0
  have HCA := Lib.hid h1
  clear h1
  have c9 := HC9.out
  have c10 := HC10.out
  have c11 := HC11.out
  have c12 := HC12.out
  have c15 := HC15.out
  have c16 := HC16.out
  go_upto_region 3 with fail
  obtain ⟨ec0, hc0⟩ : ∃ b : Bool, b = (!timeB j.sent) := ⟨_, rfl⟩
  have eC0 := Lib.hid hc0
  clear hc0
  obtain ⟨ec1, hc1⟩ : ∃ b : Bool, b = (!timeB j.plan) := ⟨_, rfl⟩
  have eC1 := Lib.hid hc1
  clear hc1
  obtain ⟨ec2, hc2⟩ : ∃ b : Bool, b = (!timeB j.promise) := ⟨_, rfl⟩
  have eC2 := Lib.hid hc2
  clear hc2
  obtain ⟨ec3, hc3⟩ : ∃ b : Bool, b = (!timeB j.start) := ⟨_, rfl⟩
  have eC3 := Lib.hid hc3
  clear hc3
  obtain ⟨ec4, hc4⟩ : ∃ b : Bool, b = (!timeB j.fin) := ⟨_, rfl⟩
  have eC4 := Lib.hid hc4
  clear hc4
  obtain ⟨ec5, hc5⟩ : ∃ b : Bool, b = decide (j.tries < 0) := ⟨_, rfl⟩
  have eC5 := Lib.hid hc5
  clear hc5
  obtain ⟨ec6, hc6⟩ : ∃ b : Bool, b = decide (9 < j.tries) := ⟨_, rfl⟩
  have eC6 := Lib.hid hc6
  clear hc6
  obtain ⟨eb1, hb1⟩ : ∃ b : Bool, b = (ec0 || ec1) := ⟨_, rfl⟩
  have eB1 := Lib.hid hb1
  clear hb1
  obtain ⟨eb2, hb2⟩ : ∃ b : Bool, b = (eb1 || ec2) := ⟨_, rfl⟩
  have eB2 := Lib.hid hb2
  clear hb2
  obtain ⟨eb3, hb3⟩ : ∃ b : Bool, b = (eb2 || ec3) := ⟨_, rfl⟩
  have eB3 := Lib.hid hb3
  clear hb3
  obtain ⟨eb4, hb4⟩ : ∃ b : Bool, b = (eb3 || ec4) := ⟨_, rfl⟩
  have eB4 := Lib.hid hb4
  clear hb4
  obtain ⟨eb5, hb5⟩ : ∃ b : Bool, b = (eb4 || ec5) := ⟨_, rfl⟩
  have eB5 := Lib.hid hb5
  clear hb5
  obtain ⟨eb6, hb6⟩ : ∃ b : Bool, b = (eb5 || ec6) := ⟨_, rfl⟩
  have eB6 := Lib.hid hb6
  clear hb6
  refine wp_region_lit (WL.out ?_)
  refine WL.yield (w' := U) (v := .pointer (some ⟨w.heap.size, 9, none⟩)) rfl (by first | (go_simp; done) | (go_simp; rfl)) ?_
  refine WL.yield (w' := U) (v := .int .i64 j.sent) rfl (by first | (go_simp; done) | (go_simp; rfl)) ?_
  refine WL.callq (args := #[.int .i64 j.sent]) (v := .bool (timeB j.sent)) rfl (by first | (go_simp; done) | (go_simp; rfl)) (rtime_any j.sent U) ?_
  refine WL.yield (w' := U) (v := .bool ec0) rfl (by rw [eC0.out]; first | (go_simp; done) | (go_simp; rfl)) ?_
  refine WL.yield (w' := U) (v := .bool ec0) rfl (by first | (go_simp; done) | (go_simp; rfl)) ?_
  refine WL.link4 4 false ec0 ec1 (by kernel_rfl) (by kernel_rfl) (by kernel_rfl) (fun hb H => ?_) (fun x y x2 z hz => ?_)
  · subst hb
    refine WL.yield_w (w' := U) (v := .pointer (some ⟨w.heap.size, 10, none⟩)) (by kernel_rfl) (by first | (go_simp; done) | (go_simp; rfl)) ?_
    refine WL.yield_w (w' := U) (v := .int .i64 j.plan) (by kernel_rfl) (by first | (go_simp; done) | (go_simp; rfl)) ?_
    refine WL.callq_w (args := #[.int .i64 j.plan]) (v := .bool (timeB j.plan)) (by kernel_rfl) (by first | (go_simp; done) | (go_simp; rfl)) (rtime_any j.plan U) ?_
    refine WL.yield_w (w' := U) (v := .bool ec1) (by kernel_rfl) (by rw [eC1.out]; first | (go_simp; done) | (go_simp; rfl)) ?_
    exact H _ _ _
  refine WL.yield (w' := U) (v := .bool eb1) rfl (by rw [eB1.out]; exact exec_pick_or rfl (by go_simp) rfl (fun h => by rw [hz h]; first | (go_simp; done) | (go_simp; rfl))) ?_
  clear hz
  go_simp
  refine WL.yield (w' := U) (v := .bool eb1) rfl (by first | (go_simp; done) | (go_simp; rfl)) ?_
  refine WL.link4 10 false eb1 ec2 (by kernel_rfl) (by kernel_rfl) (by kernel_rfl) (fun hb H => ?_) (fun x y x2 z hz => ?_)
  · subst hb
    refine WL.yield_w (w' := U) (v := .pointer (some ⟨w.heap.size, 11, none⟩)) (by kernel_rfl) (by first | (go_simp; done) | (go_simp; rfl)) ?_
    refine WL.yield_w (w' := U) (v := .int .i64 j.promise) (by kernel_rfl) (by first | (go_simp; done) | (go_simp; rfl)) ?_
    refine WL.callq_w (args := #[.int .i64 j.promise]) (v := .bool (timeB j.promise)) (by kernel_rfl) (by first | (go_simp; done) | (go_simp; rfl)) (rtime_any j.promise U) ?_
    refine WL.yield_w (w' := U) (v := .bool ec2) (by kernel_rfl) (by rw [eC2.out]; first | (go_simp; done) | (go_simp; rfl)) ?_
    exact H _ _ _
  refine WL.yield (w' := U) (v := .bool eb2) rfl (by rw [eB2.out]; exact exec_pick_or rfl (by go_simp) rfl (fun h => by rw [hz h]; first | (go_simp; done) | (go_simp; rfl))) ?_
  clear hz
  go_simp
  refine WL.yield (w' := U) (v := .bool eb2) rfl (by first | (go_simp; done) | (go_simp; rfl)) ?_
  refine WL.link4 16 false eb2 ec3 (by kernel_rfl) (by kernel_rfl) (by kernel_rfl) (fun hb H => ?_) (fun x y x2 z hz => ?_)
  · subst hb
    refine WL.yield_w (w' := U) (v := .pointer (some ⟨w.heap.size, 15, none⟩)) (by kernel_rfl) (by first | (go_simp; done) | (go_simp; rfl)) ?_
    refine WL.yield_w (w' := U) (v := .int .i64 j.start) (by kernel_rfl) (by first | (go_simp; done) | (go_simp; rfl)) ?_
    refine WL.callq_w (args := #[.int .i64 j.start]) (v := .bool (timeB j.start)) (by kernel_rfl) (by first | (go_simp; done) | (go_simp; rfl)) (rtime_any j.start U) ?_
    refine WL.yield_w (w' := U) (v := .bool ec3) (by kernel_rfl) (by rw [eC3.out]; first | (go_simp; done) | (go_simp; rfl)) ?_
    exact H _ _ _
  refine WL.yield (w' := U) (v := .bool eb3) rfl (by rw [eB3.out]; exact exec_pick_or rfl (by go_simp) rfl (fun h => by rw [hz h]; first | (go_simp; done) | (go_simp; rfl))) ?_
  clear hz
  go_simp
  refine WL.yield (w' := U) (v := .bool eb3) rfl (by first | (go_simp; done) | (go_simp; rfl)) ?_
  refine WL.link4 22 false eb3 ec4 (by kernel_rfl) (by kernel_rfl) (by kernel_rfl) (fun hb H => ?_) (fun x y x2 z hz => ?_)
  · subst hb
    refine WL.yield_w (w' := U) (v := .pointer (some ⟨w.heap.size, 16, none⟩)) (by kernel_rfl) (by first | (go_simp; done) | (go_simp; rfl)) ?_
    refine WL.yield_w (w' := U) (v := .int .i64 j.fin) (by kernel_rfl) (by first | (go_simp; done) | (go_simp; rfl)) ?_
    refine WL.callq_w (args := #[.int .i64 j.fin]) (v := .bool (timeB j.fin)) (by kernel_rfl) (by first | (go_simp; done) | (go_simp; rfl)) (rtime_any j.fin U) ?_
    refine WL.yield_w (w' := U) (v := .bool ec4) (by kernel_rfl) (by rw [eC4.out]; first | (go_simp; done) | (go_simp; rfl)) ?_
    exact H _ _ _
  refine WL.yield (w' := U) (v := .bool eb4) rfl (by rw [eB4.out]; exact exec_pick_or rfl (by go_simp) rfl (fun h => by rw [hz h]; first | (go_simp; done) | (go_simp; rfl))) ?_
  clear hz
  go_simp
  refine WL.yield (w' := U) (v := .bool eb4) rfl (by first | (go_simp; done) | (go_simp; rfl)) ?_
  refine WL.link3 28 false eb4 ec5 (by kernel_rfl) (by kernel_rfl) (by kernel_rfl) (fun hb H => ?_) (fun x y z hz => ?_)
  · subst hb
    refine WL.yield_w (w' := U) (v := .pointer (some ⟨w.heap.size, 12, none⟩)) (by kernel_rfl) (by first | (go_simp; done) | (go_simp; rfl)) ?_
    refine WL.yield_w (w' := U) (v := .int .i64 j.tries) (by kernel_rfl) (by first | (go_simp; done) | (go_simp; rfl)) ?_
    refine WL.yield_w (w' := U) (v := .bool ec5) (by kernel_rfl) (by rw [eC5.out]; first | (go_simp; done) | (go_simp; rfl)) ?_
    exact H _ _
  refine WL.yield (w' := U) (v := .bool eb5) rfl (by rw [eB5.out]; exact exec_pick_or rfl (by go_simp) rfl (fun h => by rw [hz h]; first | (go_simp; done) | (go_simp; rfl))) ?_
  clear hz
  go_simp
  refine WL.yield (w' := U) (v := .bool eb5) rfl (by first | (go_simp; done) | (go_simp; rfl)) ?_
  refine WL.link3 33 false eb5 ec6 (by kernel_rfl) (by kernel_rfl) (by kernel_rfl) (fun hb H => ?_) (fun x y z hz => ?_)
  · subst hb
    refine WL.yield_w (w' := U) (v := .pointer (some ⟨w.heap.size, 12, none⟩)) (by kernel_rfl) (by first | (go_simp; done) | (go_simp; rfl)) ?_
    refine WL.yield_w (w' := U) (v := .int .i64 j.tries) (by kernel_rfl) (by first | (go_simp; done) | (go_simp; rfl)) ?_
    refine WL.yield_w (w' := U) (v := .bool ec6) (by kernel_rfl) (by rw [eC6.out]; first | (go_simp; done) | (go_simp; rfl)) ?_
    exact H _ _
  refine WL.yield (w' := U) (v := .bool eb6) rfl (by rw [eB6.out]; exact exec_pick_or rfl (by go_simp) rfl (fun h => by rw [hz h]; first | (go_simp; done) | (go_simp; rfl))) ?_
  clear hz
  go_simp
  refine WL.nil ?_
  have hB1 : eb6 = true ↔ ¬ CB j := by
    rw [eB6.out, eB5.out, eB4.out, eB3.out, eB2.out, eB1.out]; simp only [Bool.or_eq_true, eC0.out, eC1.out, eC2.out, eC3.out, eC4.out, eC5.out, eC6.out, decide_eq_true_eq, Bool.not_eq_true']; unfold CB
    constructor
    · rintro h ⟨a1, a2, a3, a4, a5, a6, a7⟩; simp only [a1, a2, a3, a4, a5, Bool.true_eq_false, false_or] at h; omega
    · intro h; apply Decidable.byContradiction; intro hn; simp only [not_or, Bool.not_eq_false] at hn; refine h ⟨hn.1.1.1.1.1.1, hn.1.1.1.1.1.2, hn.1.1.1.1.2, hn.1.1.1.2, hn.1.1.2, ?_, ?_⟩ <;> omega
  clear eB1 eB2 eB3 eB4 eB5 eB6 eC0 eC1 eC2 eC3 eC4 eC5 eC6
  clear c9 c10 c11 c12 c15 c16
  by_cases h1 : CB j
  case neg =>
    obtain rfl : eb6 = true := hB1.2 h1
    have E := Lib.hid (show rightB j = false by rw [Bool.eq_false_iff]; intro h; exact h1 (HSP.out.1 h).2.1)
    clear hB1 h1
    go_wp2
    go_ret
    exact ⟨by rw [E.out]; rfl, HB.out⟩
  case pos =>
  obtain rfl : eb6 = false := by cases eb6 with | false => rfl | true => exact absurd h1 (hB1.1 rfl)
  clear hB1
  have E0 := Lib.hid (show rightB j = stateB j by rw [Bool.eq_iff_iff, HSP.out]; exact ⟨fun h => h.2.2, fun h => ⟨HCA.out, h1, h⟩⟩)
  clear h1 HSP HCA
  have c8 := HC8.out
  have P3 := Lib.hid (fun (W : World) (h : Below U.heap.size U W) => (h.cell (p := ⟨w.heap.size, 3, none⟩) L0.out).trans HC3.out)
  have P7 := Lib.hid (fun (W : World) (h : Below U.heap.size U W) => (h.cell (p := ⟨w.heap.size, 7, none⟩) L0.out).trans HC7.out)
  have P12 := Lib.hid (fun (W : World) (h : Below U.heap.size U W) => (h.cell (p := ⟨w.heap.size, 12, none⟩) L0.out).trans HC12.out)
  have P13 := Lib.hid (fun (W : World) (h : Below U.heap.size U W) => (h.cell (p := ⟨w.heap.size, 13, none⟩) L0.out).trans HC13.out)
  have P14 := Lib.hid (fun (W : World) (h : Below U.heap.size U W) => (h.cell (p := ⟨w.heap.size, 14, none⟩) L0.out).trans HC14.out)
  have P15 := Lib.hid (fun (W : World) (h : Below U.heap.size U W) => (h.cell (p := ⟨w.heap.size, 15, none⟩) L0.out).trans HC15.out)
  have P16 := Lib.hid (fun (W : World) (h : Below U.heap.size U W) => (h.cell (p := ⟨w.heap.size, 16, none⟩) L0.out).trans HC16.out)
  rcases HS.out with hs | hs | ⟨hi, hs⟩ | ⟨hi, h0, h1, h2, h3, h4, h5⟩
  · rw [hs] at c8
    have E1 := Lib.hid (show rightB j = ((nv j.nodes == 0) && (j.start == 0) && (j.fin == 0)) by rw [E0.out]; unfold stateB; rw [hs]; rfl)
    clear hs
    have c14 := HC14.out
    have c15 := HC15.out
    have c16 := HC16.out
    cases ha : (nv j.nodes == 0) with
    | false =>
      have E := Lib.hid (show rightB j = false by rw [E1.out, ha]; simp)
      go_wp2
      go_ret
      exact ⟨by rw [E.out]; rfl, HB.out⟩
    | true =>
      cases hb : (j.start == 0) with
      | false =>
        have E := Lib.hid (show rightB j = false by rw [E1.out, ha, hb]; simp)
        go_wp2
        go_ret
        exact ⟨by rw [E.out]; rfl, HB.out⟩
      | true =>
        have E := Lib.hid (show rightB j = (j.fin == 0) by rw [E1.out, ha, hb]; simp)
        go_wp2
        go_ret
        exact ⟨by rw [E.out]; rfl, HB.out⟩
  · rw [hs] at c8
    have E1 := Lib.hid (show rightB j = (!j.hold && fitsB j j.nodes && decide (1 ≤ j.tries) && decide (j.start < 1099511627776) && (j.fin == 0)) by rw [E0.out]; unfold stateB; rw [hs]; rfl)
    clear hs
    have KL := Lib.hid (fun W => rlen15 j.nodes W)
    have KM := Lib.hid (fun (b : Bool) (h : (nv (j.nodes &&& j.black) == 0) = b) (W : World) => (show Calls Try.prog 20 #[.int .u64 (nv j.nodes), .int .u64 (nv j.black)] W fun e w' => e = .returned (.bool (!b)) ∧ Below W.heap.size W w' from h ▸ rmeets_any j.nodes j.black W))
    go_upto_region 9 with fail
    clear c8
    have P7 := P7
    cases h0 : j.hold with
    | true =>
      have E := Lib.hid (show rightB j = false by rw [E1.out, h0]; rfl)
      rw [h0] at P7
      refine Rl.wp_region_rel (fun a b => Below a.heap.size a b) U (fun a b c h h' => below_next h h') (fun a => Below.refl _ _) hmx (by kernel_rfl) (Below.refl _ _).drew ?_
      (refine Rl.textR_run ?_ (fun ρ => ?_) (fun ρ W hS hd => ?_) ?_; rotate_left; (focus go_simp); (focus (obtain ⟨hc, hf⟩ := bcell hS; go_simp; first | exact ⟨rfl, Below.refl _ _⟩ | (refine ⟨?_, Below.refl _ _⟩; rfl))); (try go_simp))
      (refine Rl.textR_run ?_ (fun ρ => ?_) (fun ρ W hS hd => ?_) ?_; rotate_left; (focus go_simp); (focus (have hfact := P7.out W hS; go_simp; first | exact ⟨rfl, Below.refl _ _⟩ | (refine ⟨?_, Below.refl _ _⟩; rfl))); (try go_simp))
      (refine Rl.textR_run ?_ (fun ρ => ?_) (fun ρ W hS hd => ?_) ?_; rotate_left; (focus go_simp); (focus (obtain ⟨hc, hf⟩ := bcell hS; go_simp; first | exact ⟨rfl, Below.refl _ _⟩ | (refine ⟨?_, Below.refl _ _⟩; rfl))); (try go_simp))
      (refine Rl.textR_run ?_ (fun ρ => ?_) (fun ρ W hS hd => ?_) ?_; rotate_left; (focus go_simp); (focus (obtain ⟨hc, hf⟩ := bcell hS; go_simp; first | exact ⟨rfl, Below.refl _ _⟩ | (refine ⟨?_, Below.refl _ _⟩; rfl))); (try go_simp))
      iterate 6 (refine Rl.textR_skip (fun ρ => ?_) ?_; (focus (first | rfl | (go_simp; done) | (go_simp; rfl))); (try go_simp))
      iterate 2 (refine Rl.textR_run ?_ (fun ρ => ?_) (fun ρ W hS hd => ?_) ?_; rotate_left; (focus go_simp); (focus (obtain ⟨hc, hf⟩ := bcell hS; go_simp; first | exact ⟨rfl, Below.refl _ _⟩ | (refine ⟨?_, Below.refl _ _⟩; rfl))); (try go_simp))
      iterate 6 (refine Rl.textR_skip (fun ρ => ?_) ?_; (focus (first | rfl | (go_simp; done) | (go_simp; rfl))); (try go_simp))
      iterate 2 (refine Rl.textR_run ?_ (fun ρ => ?_) (fun ρ W hS hd => ?_) ?_; rotate_left; (focus go_simp); (focus (obtain ⟨hc, hf⟩ := bcell hS; go_simp; first | exact ⟨rfl, Below.refl _ _⟩ | (refine ⟨?_, Below.refl _ _⟩; rfl))); (try go_simp))
      iterate 3 (refine Rl.textR_skip (fun ρ => ?_) ?_; (focus (first | rfl | (go_simp; done) | (go_simp; rfl))); (try go_simp))
      iterate 2 (refine Rl.textR_run ?_ (fun ρ => ?_) (fun ρ W hS hd => ?_) ?_; rotate_left; (focus go_simp); (focus (obtain ⟨hc, hf⟩ := bcell hS; go_simp; first | exact ⟨rfl, Below.refl _ _⟩ | (refine ⟨?_, Below.refl _ _⟩; rfl))); (try go_simp))
      iterate 3 (refine Rl.textR_skip (fun ρ => ?_) ?_; (focus (first | rfl | (go_simp; done) | (go_simp; rfl))); (try go_simp))
      iterate 2 (refine Rl.textR_run ?_ (fun ρ => ?_) (fun ρ W hS hd => ?_) ?_; rotate_left; (focus go_simp); (focus (obtain ⟨hc, hf⟩ := bcell hS; go_simp; first | exact ⟨rfl, Below.refl _ _⟩ | (refine ⟨?_, Below.refl _ _⟩; rfl))); (try go_simp))
      iterate 3 (refine Rl.textR_skip (fun ρ => ?_) ?_; (focus (first | rfl | (go_simp; done) | (go_simp; rfl))); (try go_simp))
      iterate 2 (refine Rl.textR_run ?_ (fun ρ => ?_) (fun ρ W hS hd => ?_) ?_; rotate_left; (focus go_simp); (focus (obtain ⟨hc, hf⟩ := bcell hS; go_simp; first | exact ⟨rfl, Below.refl _ _⟩ | (refine ⟨?_, Below.refl _ _⟩; rfl))); (try go_simp))
      refine Rl.textR_nil ?_
      intro ρ w9 hg hk
      have HF := Lib.hid (below_next HB.out hg)
      clear hg hk
      dsimp only
      clear ρ
      go_wp2_with fail
      go_ret
      exact ⟨by rw [E.out]; rfl, HF.out⟩
    | false =>
      rw [h0] at P7
      have hw : (((card j.nodes : Nat) : Int) == j.width) = true ∨ (((card j.nodes : Nat) : Int) == j.width) = false := by cases (((card j.nodes : Nat) : Int) == j.width); exact .inr rfl; exact .inl rfl
      rcases hw with hw | hw
      · cases hm : (nv (j.nodes &&& j.black) == 0) with
        | false =>
          have E := Lib.hid (show rightB j = false by rw [E1.out, h0]; unfold fitsB; rw [hw, hm]; rfl)
          refine Rl.wp_region_rel (fun a b => Below a.heap.size a b) U (fun a b c h h' => below_next h h') (fun a => Below.refl _ _) hmx (by kernel_rfl) (Below.refl _ _).drew ?_
          (refine Rl.textR_run ?_ (fun ρ => ?_) (fun ρ W hS hd => ?_) ?_; rotate_left; (focus go_simp); (focus (obtain ⟨hc, hf⟩ := bcell hS; go_simp; first | exact ⟨rfl, Below.refl _ _⟩ | (refine ⟨?_, Below.refl _ _⟩; rfl))); (try go_simp))
          (refine Rl.textR_run ?_ (fun ρ => ?_) (fun ρ W hS hd => ?_) ?_; rotate_left; (focus go_simp); (focus (have hfact := P7.out W hS; go_simp; first | exact ⟨rfl, Below.refl _ _⟩ | (refine ⟨?_, Below.refl _ _⟩; rfl))); (try go_simp))
          (refine Rl.textR_run ?_ (fun ρ => ?_) (fun ρ W hS hd => ?_) ?_; rotate_left; (focus go_simp); (focus (obtain ⟨hc, hf⟩ := bcell hS; go_simp; first | exact ⟨rfl, Below.refl _ _⟩ | (refine ⟨?_, Below.refl _ _⟩; rfl))); (try go_simp))
          (refine Rl.textR_run ?_ (fun ρ => ?_) (fun ρ W hS hd => ?_) ?_; rotate_left; (focus go_simp); (focus (obtain ⟨hc, hf⟩ := bcell hS; go_simp; first | exact ⟨rfl, Below.refl _ _⟩ | (refine ⟨?_, Below.refl _ _⟩; rfl))); (try go_simp))
          (refine Rl.textR_run ?_ (fun ρ => ?_) (fun ρ W hS hd => ?_) ?_; rotate_left; (focus go_simp); (focus (obtain ⟨hc, hf⟩ := bcell hS; go_simp; first | exact ⟨rfl, Below.refl _ _⟩ | (refine ⟨?_, Below.refl _ _⟩; rfl))); (try go_simp))
          (refine Rl.textR_run ?_ (fun ρ => ?_) (fun ρ W hS hd => ?_) ?_; rotate_left; (focus go_simp); (focus (have hfact := P14.out W hS; go_simp; first | exact ⟨rfl, Below.refl _ _⟩ | (refine ⟨?_, Below.refl _ _⟩; rfl))); (try go_simp))
          (refine Rl.textR_run ?_ (fun ρ => ?_) (fun ρ W hS hd => ?_) ?_; rotate_left; (focus go_simp); (focus (obtain ⟨hc, hf⟩ := bcell hS; go_simp; refine (KL.out W).mono ?_; rintro e w1 ⟨rfl, hb⟩; refine ⟨_, rfl, ?_, hb⟩; rfl)); (try go_simp))
          (refine Rl.textR_run ?_ (fun ρ => ?_) (fun ρ W hS hd => ?_) ?_; rotate_left; (focus go_simp); (focus (obtain ⟨hc, hf⟩ := bcell hS; go_simp; first | exact ⟨rfl, Below.refl _ _⟩ | (refine ⟨?_, Below.refl _ _⟩; rfl))); (try go_simp))
          (refine Rl.textR_run ?_ (fun ρ => ?_) (fun ρ W hS hd => ?_) ?_; rotate_left; (focus go_simp); (focus (have hfact := P3.out W hS; go_simp; first | exact ⟨rfl, Below.refl _ _⟩ | (refine ⟨?_, Below.refl _ _⟩; rfl))); (try go_simp))
          (refine Rl.textR_run ?_ (fun ρ => ?_) (fun ρ W hS hd => ?_) ?_; rotate_left; (focus go_simp); (focus (obtain ⟨hc, hf⟩ := bcell hS; go_simp; first | exact ⟨rfl, Below.refl _ _⟩ | (refine ⟨?_, Below.refl _ _⟩; rfl))); (try go_simp))
          iterate 2 (refine Rl.textR_run ?_ (fun ρ => ?_) (fun ρ W hS hd => ?_) ?_; rotate_left; (focus go_simp); (focus (obtain ⟨hc, hf⟩ := bcell hS; go_simp; first | exact ⟨rfl, Below.refl _ _⟩ | (refine ⟨?_, Below.refl _ _⟩; rfl))); (try go_simp))
          (refine Rl.textR_run ?_ (fun ρ => ?_) (fun ρ W hS hd => ?_) ?_; rotate_left; (focus go_simp); (focus (obtain ⟨hc, hf⟩ := bcell hS; go_simp; first | exact ⟨rfl, Below.refl _ _⟩ | (refine ⟨?_, Below.refl _ _⟩; rfl))); (try go_simp))
          (refine Rl.textR_run ?_ (fun ρ => ?_) (fun ρ W hS hd => ?_) ?_; rotate_left; (focus go_simp); (focus (have hfact := P14.out W hS; go_simp; first | exact ⟨rfl, Below.refl _ _⟩ | (refine ⟨?_, Below.refl _ _⟩; rfl))); (try go_simp))
          (refine Rl.textR_run ?_ (fun ρ => ?_) (fun ρ W hS hd => ?_) ?_; rotate_left; (focus go_simp); (focus (obtain ⟨hc, hf⟩ := bcell hS; go_simp; first | exact ⟨rfl, Below.refl _ _⟩ | (refine ⟨?_, Below.refl _ _⟩; rfl))); (try go_simp))
          (refine Rl.textR_run ?_ (fun ρ => ?_) (fun ρ W hS hd => ?_) ?_; rotate_left; (focus go_simp); (focus (have hfact := P13.out W hS; go_simp; first | exact ⟨rfl, Below.refl _ _⟩ | (refine ⟨?_, Below.refl _ _⟩; rfl))); (try go_simp))
          (refine Rl.textR_run ?_ (fun ρ => ?_) (fun ρ W hS hd => ?_) ?_; rotate_left; (focus go_simp); (focus (obtain ⟨hc, hf⟩ := bcell hS; go_simp; refine (KM.out _ hm W).mono ?_; rintro e w1 ⟨rfl, hb⟩; refine ⟨_, rfl, ?_, hb⟩; rfl)); (try go_simp))
          (refine Rl.textR_run ?_ (fun ρ => ?_) (fun ρ W hS hd => ?_) ?_; rotate_left; (focus go_simp); (focus (obtain ⟨hc, hf⟩ := bcell hS; go_simp; first | exact ⟨rfl, Below.refl _ _⟩ | (refine ⟨?_, Below.refl _ _⟩; rfl))); (try go_simp))
          iterate 2 (refine Rl.textR_run ?_ (fun ρ => ?_) (fun ρ W hS hd => ?_) ?_; rotate_left; (focus go_simp); (focus (obtain ⟨hc, hf⟩ := bcell hS; go_simp; first | exact ⟨rfl, Below.refl _ _⟩ | (refine ⟨?_, Below.refl _ _⟩; rfl))); (try go_simp))
          iterate 3 (refine Rl.textR_skip (fun ρ => ?_) ?_; (focus (first | rfl | (go_simp; done) | (go_simp; rfl))); (try go_simp))
          iterate 2 (refine Rl.textR_run ?_ (fun ρ => ?_) (fun ρ W hS hd => ?_) ?_; rotate_left; (focus go_simp); (focus (obtain ⟨hc, hf⟩ := bcell hS; go_simp; first | exact ⟨rfl, Below.refl _ _⟩ | (refine ⟨?_, Below.refl _ _⟩; rfl))); (try go_simp))
          iterate 3 (refine Rl.textR_skip (fun ρ => ?_) ?_; (focus (first | rfl | (go_simp; done) | (go_simp; rfl))); (try go_simp))
          iterate 2 (refine Rl.textR_run ?_ (fun ρ => ?_) (fun ρ W hS hd => ?_) ?_; rotate_left; (focus go_simp); (focus (obtain ⟨hc, hf⟩ := bcell hS; go_simp; first | exact ⟨rfl, Below.refl _ _⟩ | (refine ⟨?_, Below.refl _ _⟩; rfl))); (try go_simp))
          iterate 3 (refine Rl.textR_skip (fun ρ => ?_) ?_; (focus (first | rfl | (go_simp; done) | (go_simp; rfl))); (try go_simp))
          iterate 2 (refine Rl.textR_run ?_ (fun ρ => ?_) (fun ρ W hS hd => ?_) ?_; rotate_left; (focus go_simp); (focus (obtain ⟨hc, hf⟩ := bcell hS; go_simp; first | exact ⟨rfl, Below.refl _ _⟩ | (refine ⟨?_, Below.refl _ _⟩; rfl))); (try go_simp))
          refine Rl.textR_nil ?_
          intro ρ w9 hg hk
          have HF := Lib.hid (below_next HB.out hg)
          clear hg hk
          dsimp only
          clear ρ
          go_wp2_with fail
          go_ret
          exact ⟨by rw [E.out]; rfl, HF.out⟩
        | true =>
          have E2 := Lib.hid (show rightB j = (decide (1 ≤ j.tries) && decide (j.start < 1099511627776) && (j.fin == 0)) by rw [E1.out, h0]; unfold fitsB; rw [hw, hm]; simp)
          cases h3 : decide (1 ≤ j.tries) with
          | false =>
            have h3' : decide (j.tries ≥ 1) = false := h3
            have E := Lib.hid (show rightB j = false by rw [E2.out, h3]; rfl)
            refine Rl.wp_region_rel (fun a b => Below a.heap.size a b) U (fun a b c h h' => below_next h h') (fun a => Below.refl _ _) hmx (by kernel_rfl) (Below.refl _ _).drew ?_
            (refine Rl.textR_run ?_ (fun ρ => ?_) (fun ρ W hS hd => ?_) ?_; rotate_left; (focus go_simp); (focus (obtain ⟨hc, hf⟩ := bcell hS; go_simp; first | exact ⟨rfl, Below.refl _ _⟩ | (refine ⟨?_, Below.refl _ _⟩; rfl))); (try go_simp))
            (refine Rl.textR_run ?_ (fun ρ => ?_) (fun ρ W hS hd => ?_) ?_; rotate_left; (focus go_simp); (focus (have hfact := P7.out W hS; go_simp; first | exact ⟨rfl, Below.refl _ _⟩ | (refine ⟨?_, Below.refl _ _⟩; rfl))); (try go_simp))
            (refine Rl.textR_run ?_ (fun ρ => ?_) (fun ρ W hS hd => ?_) ?_; rotate_left; (focus go_simp); (focus (obtain ⟨hc, hf⟩ := bcell hS; go_simp; first | exact ⟨rfl, Below.refl _ _⟩ | (refine ⟨?_, Below.refl _ _⟩; rfl))); (try go_simp))
            (refine Rl.textR_run ?_ (fun ρ => ?_) (fun ρ W hS hd => ?_) ?_; rotate_left; (focus go_simp); (focus (obtain ⟨hc, hf⟩ := bcell hS; go_simp; first | exact ⟨rfl, Below.refl _ _⟩ | (refine ⟨?_, Below.refl _ _⟩; rfl))); (try go_simp))
            (refine Rl.textR_run ?_ (fun ρ => ?_) (fun ρ W hS hd => ?_) ?_; rotate_left; (focus go_simp); (focus (obtain ⟨hc, hf⟩ := bcell hS; go_simp; first | exact ⟨rfl, Below.refl _ _⟩ | (refine ⟨?_, Below.refl _ _⟩; rfl))); (try go_simp))
            (refine Rl.textR_run ?_ (fun ρ => ?_) (fun ρ W hS hd => ?_) ?_; rotate_left; (focus go_simp); (focus (have hfact := P14.out W hS; go_simp; first | exact ⟨rfl, Below.refl _ _⟩ | (refine ⟨?_, Below.refl _ _⟩; rfl))); (try go_simp))
            (refine Rl.textR_run ?_ (fun ρ => ?_) (fun ρ W hS hd => ?_) ?_; rotate_left; (focus go_simp); (focus (obtain ⟨hc, hf⟩ := bcell hS; go_simp; refine (KL.out W).mono ?_; rintro e w1 ⟨rfl, hb⟩; refine ⟨_, rfl, ?_, hb⟩; rfl)); (try go_simp))
            (refine Rl.textR_run ?_ (fun ρ => ?_) (fun ρ W hS hd => ?_) ?_; rotate_left; (focus go_simp); (focus (obtain ⟨hc, hf⟩ := bcell hS; go_simp; first | exact ⟨rfl, Below.refl _ _⟩ | (refine ⟨?_, Below.refl _ _⟩; rfl))); (try go_simp))
            (refine Rl.textR_run ?_ (fun ρ => ?_) (fun ρ W hS hd => ?_) ?_; rotate_left; (focus go_simp); (focus (have hfact := P3.out W hS; go_simp; first | exact ⟨rfl, Below.refl _ _⟩ | (refine ⟨?_, Below.refl _ _⟩; rfl))); (try go_simp))
            (refine Rl.textR_run ?_ (fun ρ => ?_) (fun ρ W hS hd => ?_) ?_; rotate_left; (focus go_simp); (focus (obtain ⟨hc, hf⟩ := bcell hS; go_simp; first | exact ⟨rfl, Below.refl _ _⟩ | (refine ⟨?_, Below.refl _ _⟩; rfl))); (try go_simp))
            iterate 2 (refine Rl.textR_run ?_ (fun ρ => ?_) (fun ρ W hS hd => ?_) ?_; rotate_left; (focus go_simp); (focus (obtain ⟨hc, hf⟩ := bcell hS; go_simp; first | exact ⟨rfl, Below.refl _ _⟩ | (refine ⟨?_, Below.refl _ _⟩; rfl))); (try go_simp))
            (refine Rl.textR_run ?_ (fun ρ => ?_) (fun ρ W hS hd => ?_) ?_; rotate_left; (focus go_simp); (focus (obtain ⟨hc, hf⟩ := bcell hS; go_simp; first | exact ⟨rfl, Below.refl _ _⟩ | (refine ⟨?_, Below.refl _ _⟩; rfl))); (try go_simp))
            (refine Rl.textR_run ?_ (fun ρ => ?_) (fun ρ W hS hd => ?_) ?_; rotate_left; (focus go_simp); (focus (have hfact := P14.out W hS; go_simp; first | exact ⟨rfl, Below.refl _ _⟩ | (refine ⟨?_, Below.refl _ _⟩; rfl))); (try go_simp))
            (refine Rl.textR_run ?_ (fun ρ => ?_) (fun ρ W hS hd => ?_) ?_; rotate_left; (focus go_simp); (focus (obtain ⟨hc, hf⟩ := bcell hS; go_simp; first | exact ⟨rfl, Below.refl _ _⟩ | (refine ⟨?_, Below.refl _ _⟩; rfl))); (try go_simp))
            (refine Rl.textR_run ?_ (fun ρ => ?_) (fun ρ W hS hd => ?_) ?_; rotate_left; (focus go_simp); (focus (have hfact := P13.out W hS; go_simp; first | exact ⟨rfl, Below.refl _ _⟩ | (refine ⟨?_, Below.refl _ _⟩; rfl))); (try go_simp))
            (refine Rl.textR_run ?_ (fun ρ => ?_) (fun ρ W hS hd => ?_) ?_; rotate_left; (focus go_simp); (focus (obtain ⟨hc, hf⟩ := bcell hS; go_simp; refine (KM.out _ hm W).mono ?_; rintro e w1 ⟨rfl, hb⟩; refine ⟨_, rfl, ?_, hb⟩; rfl)); (try go_simp))
            (refine Rl.textR_run ?_ (fun ρ => ?_) (fun ρ W hS hd => ?_) ?_; rotate_left; (focus go_simp); (focus (obtain ⟨hc, hf⟩ := bcell hS; go_simp; first | exact ⟨rfl, Below.refl _ _⟩ | (refine ⟨?_, Below.refl _ _⟩; rfl))); (try go_simp))
            iterate 2 (refine Rl.textR_run ?_ (fun ρ => ?_) (fun ρ W hS hd => ?_) ?_; rotate_left; (focus go_simp); (focus (obtain ⟨hc, hf⟩ := bcell hS; go_simp; first | exact ⟨rfl, Below.refl _ _⟩ | (refine ⟨?_, Below.refl _ _⟩; rfl))); (try go_simp))
            (refine Rl.textR_run ?_ (fun ρ => ?_) (fun ρ W hS hd => ?_) ?_; rotate_left; (focus go_simp); (focus (obtain ⟨hc, hf⟩ := bcell hS; go_simp; first | exact ⟨rfl, Below.refl _ _⟩ | (refine ⟨?_, Below.refl _ _⟩; rfl))); (try go_simp))
            (refine Rl.textR_run ?_ (fun ρ => ?_) (fun ρ W hS hd => ?_) ?_; rotate_left; (focus go_simp); (focus (have hfact := P12.out W hS; go_simp; first | exact ⟨rfl, Below.refl _ _⟩ | (refine ⟨?_, Below.refl _ _⟩; rfl))); (try go_simp))
            (refine Rl.textR_run ?_ (fun ρ => ?_) (fun ρ W hS hd => ?_) ?_; rotate_left; (focus go_simp); (focus (obtain ⟨hc, hf⟩ := bcell hS; go_simp; first | exact ⟨rfl, Below.refl _ _⟩ | (refine ⟨?_, Below.refl _ _⟩; rfl))); (try go_simp))
            iterate 2 (refine Rl.textR_run ?_ (fun ρ => ?_) (fun ρ W hS hd => ?_) ?_; rotate_left; (focus go_simp); (focus (obtain ⟨hc, hf⟩ := bcell hS; go_simp; first | exact ⟨rfl, Below.refl _ _⟩ | (refine ⟨?_, Below.refl _ _⟩; rfl))); (try go_simp))
            iterate 3 (refine Rl.textR_skip (fun ρ => ?_) ?_; (focus (first | rfl | (go_simp; done) | (go_simp; rfl))); (try go_simp))
            iterate 2 (refine Rl.textR_run ?_ (fun ρ => ?_) (fun ρ W hS hd => ?_) ?_; rotate_left; (focus go_simp); (focus (obtain ⟨hc, hf⟩ := bcell hS; go_simp; first | exact ⟨rfl, Below.refl _ _⟩ | (refine ⟨?_, Below.refl _ _⟩; rfl))); (try go_simp))
            iterate 3 (refine Rl.textR_skip (fun ρ => ?_) ?_; (focus (first | rfl | (go_simp; done) | (go_simp; rfl))); (try go_simp))
            iterate 2 (refine Rl.textR_run ?_ (fun ρ => ?_) (fun ρ W hS hd => ?_) ?_; rotate_left; (focus go_simp); (focus (obtain ⟨hc, hf⟩ := bcell hS; go_simp; first | exact ⟨rfl, Below.refl _ _⟩ | (refine ⟨?_, Below.refl _ _⟩; rfl))); (try go_simp))
            refine Rl.textR_nil ?_
            intro ρ w9 hg hk
            have HF := Lib.hid (below_next HB.out hg)
            clear hg hk
            dsimp only
            clear ρ
            go_wp2_with fail
            go_ret
            exact ⟨by rw [E.out]; rfl, HF.out⟩
          | true =>
            have h3' : decide (j.tries ≥ 1) = true := h3
            cases h4 : decide (j.start < 1099511627776) with
            | false =>
              have E := Lib.hid (show rightB j = false by rw [E2.out, h3, h4]; rfl)
              refine Rl.wp_region_rel (fun a b => Below a.heap.size a b) U (fun a b c h h' => below_next h h') (fun a => Below.refl _ _) hmx (by kernel_rfl) (Below.refl _ _).drew ?_
              (refine Rl.textR_run ?_ (fun ρ => ?_) (fun ρ W hS hd => ?_) ?_; rotate_left; (focus go_simp); (focus (obtain ⟨hc, hf⟩ := bcell hS; go_simp; first | exact ⟨rfl, Below.refl _ _⟩ | (refine ⟨?_, Below.refl _ _⟩; rfl))); (try go_simp))
              (refine Rl.textR_run ?_ (fun ρ => ?_) (fun ρ W hS hd => ?_) ?_; rotate_left; (focus go_simp); (focus (have hfact := P7.out W hS; go_simp; first | exact ⟨rfl, Below.refl _ _⟩ | (refine ⟨?_, Below.refl _ _⟩; rfl))); (try go_simp))
              (refine Rl.textR_run ?_ (fun ρ => ?_) (fun ρ W hS hd => ?_) ?_; rotate_left; (focus go_simp); (focus (obtain ⟨hc, hf⟩ := bcell hS; go_simp; first | exact ⟨rfl, Below.refl _ _⟩ | (refine ⟨?_, Below.refl _ _⟩; rfl))); (try go_simp))
              (refine Rl.textR_run ?_ (fun ρ => ?_) (fun ρ W hS hd => ?_) ?_; rotate_left; (focus go_simp); (focus (obtain ⟨hc, hf⟩ := bcell hS; go_simp; first | exact ⟨rfl, Below.refl _ _⟩ | (refine ⟨?_, Below.refl _ _⟩; rfl))); (try go_simp))
              (refine Rl.textR_run ?_ (fun ρ => ?_) (fun ρ W hS hd => ?_) ?_; rotate_left; (focus go_simp); (focus (obtain ⟨hc, hf⟩ := bcell hS; go_simp; first | exact ⟨rfl, Below.refl _ _⟩ | (refine ⟨?_, Below.refl _ _⟩; rfl))); (try go_simp))
              (refine Rl.textR_run ?_ (fun ρ => ?_) (fun ρ W hS hd => ?_) ?_; rotate_left; (focus go_simp); (focus (have hfact := P14.out W hS; go_simp; first | exact ⟨rfl, Below.refl _ _⟩ | (refine ⟨?_, Below.refl _ _⟩; rfl))); (try go_simp))
              (refine Rl.textR_run ?_ (fun ρ => ?_) (fun ρ W hS hd => ?_) ?_; rotate_left; (focus go_simp); (focus (obtain ⟨hc, hf⟩ := bcell hS; go_simp; refine (KL.out W).mono ?_; rintro e w1 ⟨rfl, hb⟩; refine ⟨_, rfl, ?_, hb⟩; rfl)); (try go_simp))
              (refine Rl.textR_run ?_ (fun ρ => ?_) (fun ρ W hS hd => ?_) ?_; rotate_left; (focus go_simp); (focus (obtain ⟨hc, hf⟩ := bcell hS; go_simp; first | exact ⟨rfl, Below.refl _ _⟩ | (refine ⟨?_, Below.refl _ _⟩; rfl))); (try go_simp))
              (refine Rl.textR_run ?_ (fun ρ => ?_) (fun ρ W hS hd => ?_) ?_; rotate_left; (focus go_simp); (focus (have hfact := P3.out W hS; go_simp; first | exact ⟨rfl, Below.refl _ _⟩ | (refine ⟨?_, Below.refl _ _⟩; rfl))); (try go_simp))
              (refine Rl.textR_run ?_ (fun ρ => ?_) (fun ρ W hS hd => ?_) ?_; rotate_left; (focus go_simp); (focus (obtain ⟨hc, hf⟩ := bcell hS; go_simp; first | exact ⟨rfl, Below.refl _ _⟩ | (refine ⟨?_, Below.refl _ _⟩; rfl))); (try go_simp))
              iterate 2 (refine Rl.textR_run ?_ (fun ρ => ?_) (fun ρ W hS hd => ?_) ?_; rotate_left; (focus go_simp); (focus (obtain ⟨hc, hf⟩ := bcell hS; go_simp; first | exact ⟨rfl, Below.refl _ _⟩ | (refine ⟨?_, Below.refl _ _⟩; rfl))); (try go_simp))
              (refine Rl.textR_run ?_ (fun ρ => ?_) (fun ρ W hS hd => ?_) ?_; rotate_left; (focus go_simp); (focus (obtain ⟨hc, hf⟩ := bcell hS; go_simp; first | exact ⟨rfl, Below.refl _ _⟩ | (refine ⟨?_, Below.refl _ _⟩; rfl))); (try go_simp))
              (refine Rl.textR_run ?_ (fun ρ => ?_) (fun ρ W hS hd => ?_) ?_; rotate_left; (focus go_simp); (focus (have hfact := P14.out W hS; go_simp; first | exact ⟨rfl, Below.refl _ _⟩ | (refine ⟨?_, Below.refl _ _⟩; rfl))); (try go_simp))
              (refine Rl.textR_run ?_ (fun ρ => ?_) (fun ρ W hS hd => ?_) ?_; rotate_left; (focus go_simp); (focus (obtain ⟨hc, hf⟩ := bcell hS; go_simp; first | exact ⟨rfl, Below.refl _ _⟩ | (refine ⟨?_, Below.refl _ _⟩; rfl))); (try go_simp))
              (refine Rl.textR_run ?_ (fun ρ => ?_) (fun ρ W hS hd => ?_) ?_; rotate_left; (focus go_simp); (focus (have hfact := P13.out W hS; go_simp; first | exact ⟨rfl, Below.refl _ _⟩ | (refine ⟨?_, Below.refl _ _⟩; rfl))); (try go_simp))
              (refine Rl.textR_run ?_ (fun ρ => ?_) (fun ρ W hS hd => ?_) ?_; rotate_left; (focus go_simp); (focus (obtain ⟨hc, hf⟩ := bcell hS; go_simp; refine (KM.out _ hm W).mono ?_; rintro e w1 ⟨rfl, hb⟩; refine ⟨_, rfl, ?_, hb⟩; rfl)); (try go_simp))
              (refine Rl.textR_run ?_ (fun ρ => ?_) (fun ρ W hS hd => ?_) ?_; rotate_left; (focus go_simp); (focus (obtain ⟨hc, hf⟩ := bcell hS; go_simp; first | exact ⟨rfl, Below.refl _ _⟩ | (refine ⟨?_, Below.refl _ _⟩; rfl))); (try go_simp))
              iterate 2 (refine Rl.textR_run ?_ (fun ρ => ?_) (fun ρ W hS hd => ?_) ?_; rotate_left; (focus go_simp); (focus (obtain ⟨hc, hf⟩ := bcell hS; go_simp; first | exact ⟨rfl, Below.refl _ _⟩ | (refine ⟨?_, Below.refl _ _⟩; rfl))); (try go_simp))
              (refine Rl.textR_run ?_ (fun ρ => ?_) (fun ρ W hS hd => ?_) ?_; rotate_left; (focus go_simp); (focus (obtain ⟨hc, hf⟩ := bcell hS; go_simp; first | exact ⟨rfl, Below.refl _ _⟩ | (refine ⟨?_, Below.refl _ _⟩; rfl))); (try go_simp))
              (refine Rl.textR_run ?_ (fun ρ => ?_) (fun ρ W hS hd => ?_) ?_; rotate_left; (focus go_simp); (focus (have hfact := P12.out W hS; go_simp; first | exact ⟨rfl, Below.refl _ _⟩ | (refine ⟨?_, Below.refl _ _⟩; rfl))); (try go_simp))
              (refine Rl.textR_run ?_ (fun ρ => ?_) (fun ρ W hS hd => ?_) ?_; rotate_left; (focus go_simp); (focus (obtain ⟨hc, hf⟩ := bcell hS; go_simp; first | exact ⟨rfl, Below.refl _ _⟩ | (refine ⟨?_, Below.refl _ _⟩; rfl))); (try go_simp))
              iterate 2 (refine Rl.textR_run ?_ (fun ρ => ?_) (fun ρ W hS hd => ?_) ?_; rotate_left; (focus go_simp); (focus (obtain ⟨hc, hf⟩ := bcell hS; go_simp; first | exact ⟨rfl, Below.refl _ _⟩ | (refine ⟨?_, Below.refl _ _⟩; rfl))); (try go_simp))
              (refine Rl.textR_run ?_ (fun ρ => ?_) (fun ρ W hS hd => ?_) ?_; rotate_left; (focus go_simp); (focus (obtain ⟨hc, hf⟩ := bcell hS; go_simp; first | exact ⟨rfl, Below.refl _ _⟩ | (refine ⟨?_, Below.refl _ _⟩; rfl))); (try go_simp))
              (refine Rl.textR_run ?_ (fun ρ => ?_) (fun ρ W hS hd => ?_) ?_; rotate_left; (focus go_simp); (focus (have hfact := P15.out W hS; go_simp; first | exact ⟨rfl, Below.refl _ _⟩ | (refine ⟨?_, Below.refl _ _⟩; rfl))); (try go_simp))
              (refine Rl.textR_run ?_ (fun ρ => ?_) (fun ρ W hS hd => ?_) ?_; rotate_left; (focus go_simp); (focus (obtain ⟨hc, hf⟩ := bcell hS; go_simp; first | exact ⟨rfl, Below.refl _ _⟩ | (refine ⟨?_, Below.refl _ _⟩; rfl))); (try go_simp))
              iterate 2 (refine Rl.textR_run ?_ (fun ρ => ?_) (fun ρ W hS hd => ?_) ?_; rotate_left; (focus go_simp); (focus (obtain ⟨hc, hf⟩ := bcell hS; go_simp; first | exact ⟨rfl, Below.refl _ _⟩ | (refine ⟨?_, Below.refl _ _⟩; rfl))); (try go_simp))
              iterate 3 (refine Rl.textR_skip (fun ρ => ?_) ?_; (focus (first | rfl | (go_simp; done) | (go_simp; rfl))); (try go_simp))
              iterate 2 (refine Rl.textR_run ?_ (fun ρ => ?_) (fun ρ W hS hd => ?_) ?_; rotate_left; (focus go_simp); (focus (obtain ⟨hc, hf⟩ := bcell hS; go_simp; first | exact ⟨rfl, Below.refl _ _⟩ | (refine ⟨?_, Below.refl _ _⟩; rfl))); (try go_simp))
              refine Rl.textR_nil ?_
              intro ρ w9 hg hk
              have HF := Lib.hid (below_next HB.out hg)
              clear hg hk
              dsimp only
              clear ρ
              go_wp2_with fail
              go_ret
              exact ⟨by rw [E.out]; rfl, HF.out⟩
            | true =>
              have E := Lib.hid (show rightB j = (j.fin == 0) by rw [E2.out, h3, h4]; rfl)
              refine Rl.wp_region_rel (fun a b => Below a.heap.size a b) U (fun a b c h h' => below_next h h') (fun a => Below.refl _ _) hmx (by kernel_rfl) (Below.refl _ _).drew ?_
              (refine Rl.textR_run ?_ (fun ρ => ?_) (fun ρ W hS hd => ?_) ?_; rotate_left; (focus go_simp); (focus (obtain ⟨hc, hf⟩ := bcell hS; go_simp; first | exact ⟨rfl, Below.refl _ _⟩ | (refine ⟨?_, Below.refl _ _⟩; rfl))); (try go_simp))
              (refine Rl.textR_run ?_ (fun ρ => ?_) (fun ρ W hS hd => ?_) ?_; rotate_left; (focus go_simp); (focus (have hfact := P7.out W hS; go_simp; first | exact ⟨rfl, Below.refl _ _⟩ | (refine ⟨?_, Below.refl _ _⟩; rfl))); (try go_simp))
              (refine Rl.textR_run ?_ (fun ρ => ?_) (fun ρ W hS hd => ?_) ?_; rotate_left; (focus go_simp); (focus (obtain ⟨hc, hf⟩ := bcell hS; go_simp; first | exact ⟨rfl, Below.refl _ _⟩ | (refine ⟨?_, Below.refl _ _⟩; rfl))); (try go_simp))
              (refine Rl.textR_run ?_ (fun ρ => ?_) (fun ρ W hS hd => ?_) ?_; rotate_left; (focus go_simp); (focus (obtain ⟨hc, hf⟩ := bcell hS; go_simp; first | exact ⟨rfl, Below.refl _ _⟩ | (refine ⟨?_, Below.refl _ _⟩; rfl))); (try go_simp))
              (refine Rl.textR_run ?_ (fun ρ => ?_) (fun ρ W hS hd => ?_) ?_; rotate_left; (focus go_simp); (focus (obtain ⟨hc, hf⟩ := bcell hS; go_simp; first | exact ⟨rfl, Below.refl _ _⟩ | (refine ⟨?_, Below.refl _ _⟩; rfl))); (try go_simp))
              (refine Rl.textR_run ?_ (fun ρ => ?_) (fun ρ W hS hd => ?_) ?_; rotate_left; (focus go_simp); (focus (have hfact := P14.out W hS; go_simp; first | exact ⟨rfl, Below.refl _ _⟩ | (refine ⟨?_, Below.refl _ _⟩; rfl))); (try go_simp))
              (refine Rl.textR_run ?_ (fun ρ => ?_) (fun ρ W hS hd => ?_) ?_; rotate_left; (focus go_simp); (focus (obtain ⟨hc, hf⟩ := bcell hS; go_simp; refine (KL.out W).mono ?_; rintro e w1 ⟨rfl, hb⟩; refine ⟨_, rfl, ?_, hb⟩; rfl)); (try go_simp))
              (refine Rl.textR_run ?_ (fun ρ => ?_) (fun ρ W hS hd => ?_) ?_; rotate_left; (focus go_simp); (focus (obtain ⟨hc, hf⟩ := bcell hS; go_simp; first | exact ⟨rfl, Below.refl _ _⟩ | (refine ⟨?_, Below.refl _ _⟩; rfl))); (try go_simp))
              (refine Rl.textR_run ?_ (fun ρ => ?_) (fun ρ W hS hd => ?_) ?_; rotate_left; (focus go_simp); (focus (have hfact := P3.out W hS; go_simp; first | exact ⟨rfl, Below.refl _ _⟩ | (refine ⟨?_, Below.refl _ _⟩; rfl))); (try go_simp))
              (refine Rl.textR_run ?_ (fun ρ => ?_) (fun ρ W hS hd => ?_) ?_; rotate_left; (focus go_simp); (focus (obtain ⟨hc, hf⟩ := bcell hS; go_simp; first | exact ⟨rfl, Below.refl _ _⟩ | (refine ⟨?_, Below.refl _ _⟩; rfl))); (try go_simp))
              iterate 2 (refine Rl.textR_run ?_ (fun ρ => ?_) (fun ρ W hS hd => ?_) ?_; rotate_left; (focus go_simp); (focus (obtain ⟨hc, hf⟩ := bcell hS; go_simp; first | exact ⟨rfl, Below.refl _ _⟩ | (refine ⟨?_, Below.refl _ _⟩; rfl))); (try go_simp))
              (refine Rl.textR_run ?_ (fun ρ => ?_) (fun ρ W hS hd => ?_) ?_; rotate_left; (focus go_simp); (focus (obtain ⟨hc, hf⟩ := bcell hS; go_simp; first | exact ⟨rfl, Below.refl _ _⟩ | (refine ⟨?_, Below.refl _ _⟩; rfl))); (try go_simp))
              (refine Rl.textR_run ?_ (fun ρ => ?_) (fun ρ W hS hd => ?_) ?_; rotate_left; (focus go_simp); (focus (have hfact := P14.out W hS; go_simp; first | exact ⟨rfl, Below.refl _ _⟩ | (refine ⟨?_, Below.refl _ _⟩; rfl))); (try go_simp))
              (refine Rl.textR_run ?_ (fun ρ => ?_) (fun ρ W hS hd => ?_) ?_; rotate_left; (focus go_simp); (focus (obtain ⟨hc, hf⟩ := bcell hS; go_simp; first | exact ⟨rfl, Below.refl _ _⟩ | (refine ⟨?_, Below.refl _ _⟩; rfl))); (try go_simp))
              (refine Rl.textR_run ?_ (fun ρ => ?_) (fun ρ W hS hd => ?_) ?_; rotate_left; (focus go_simp); (focus (have hfact := P13.out W hS; go_simp; first | exact ⟨rfl, Below.refl _ _⟩ | (refine ⟨?_, Below.refl _ _⟩; rfl))); (try go_simp))
              (refine Rl.textR_run ?_ (fun ρ => ?_) (fun ρ W hS hd => ?_) ?_; rotate_left; (focus go_simp); (focus (obtain ⟨hc, hf⟩ := bcell hS; go_simp; refine (KM.out _ hm W).mono ?_; rintro e w1 ⟨rfl, hb⟩; refine ⟨_, rfl, ?_, hb⟩; rfl)); (try go_simp))
              (refine Rl.textR_run ?_ (fun ρ => ?_) (fun ρ W hS hd => ?_) ?_; rotate_left; (focus go_simp); (focus (obtain ⟨hc, hf⟩ := bcell hS; go_simp; first | exact ⟨rfl, Below.refl _ _⟩ | (refine ⟨?_, Below.refl _ _⟩; rfl))); (try go_simp))
              iterate 2 (refine Rl.textR_run ?_ (fun ρ => ?_) (fun ρ W hS hd => ?_) ?_; rotate_left; (focus go_simp); (focus (obtain ⟨hc, hf⟩ := bcell hS; go_simp; first | exact ⟨rfl, Below.refl _ _⟩ | (refine ⟨?_, Below.refl _ _⟩; rfl))); (try go_simp))
              (refine Rl.textR_run ?_ (fun ρ => ?_) (fun ρ W hS hd => ?_) ?_; rotate_left; (focus go_simp); (focus (obtain ⟨hc, hf⟩ := bcell hS; go_simp; first | exact ⟨rfl, Below.refl _ _⟩ | (refine ⟨?_, Below.refl _ _⟩; rfl))); (try go_simp))
              (refine Rl.textR_run ?_ (fun ρ => ?_) (fun ρ W hS hd => ?_) ?_; rotate_left; (focus go_simp); (focus (have hfact := P12.out W hS; go_simp; first | exact ⟨rfl, Below.refl _ _⟩ | (refine ⟨?_, Below.refl _ _⟩; rfl))); (try go_simp))
              (refine Rl.textR_run ?_ (fun ρ => ?_) (fun ρ W hS hd => ?_) ?_; rotate_left; (focus go_simp); (focus (obtain ⟨hc, hf⟩ := bcell hS; go_simp; first | exact ⟨rfl, Below.refl _ _⟩ | (refine ⟨?_, Below.refl _ _⟩; rfl))); (try go_simp))
              iterate 2 (refine Rl.textR_run ?_ (fun ρ => ?_) (fun ρ W hS hd => ?_) ?_; rotate_left; (focus go_simp); (focus (obtain ⟨hc, hf⟩ := bcell hS; go_simp; first | exact ⟨rfl, Below.refl _ _⟩ | (refine ⟨?_, Below.refl _ _⟩; rfl))); (try go_simp))
              (refine Rl.textR_run ?_ (fun ρ => ?_) (fun ρ W hS hd => ?_) ?_; rotate_left; (focus go_simp); (focus (obtain ⟨hc, hf⟩ := bcell hS; go_simp; first | exact ⟨rfl, Below.refl _ _⟩ | (refine ⟨?_, Below.refl _ _⟩; rfl))); (try go_simp))
              (refine Rl.textR_run ?_ (fun ρ => ?_) (fun ρ W hS hd => ?_) ?_; rotate_left; (focus go_simp); (focus (have hfact := P15.out W hS; go_simp; first | exact ⟨rfl, Below.refl _ _⟩ | (refine ⟨?_, Below.refl _ _⟩; rfl))); (try go_simp))
              (refine Rl.textR_run ?_ (fun ρ => ?_) (fun ρ W hS hd => ?_) ?_; rotate_left; (focus go_simp); (focus (obtain ⟨hc, hf⟩ := bcell hS; go_simp; first | exact ⟨rfl, Below.refl _ _⟩ | (refine ⟨?_, Below.refl _ _⟩; rfl))); (try go_simp))
              iterate 2 (refine Rl.textR_run ?_ (fun ρ => ?_) (fun ρ W hS hd => ?_) ?_; rotate_left; (focus go_simp); (focus (obtain ⟨hc, hf⟩ := bcell hS; go_simp; first | exact ⟨rfl, Below.refl _ _⟩ | (refine ⟨?_, Below.refl _ _⟩; rfl))); (try go_simp))
              (refine Rl.textR_run ?_ (fun ρ => ?_) (fun ρ W hS hd => ?_) ?_; rotate_left; (focus go_simp); (focus (obtain ⟨hc, hf⟩ := bcell hS; go_simp; first | exact ⟨rfl, Below.refl _ _⟩ | (refine ⟨?_, Below.refl _ _⟩; rfl))); (try go_simp))
              (refine Rl.textR_run ?_ (fun ρ => ?_) (fun ρ W hS hd => ?_) ?_; rotate_left; (focus go_simp); (focus (have hfact := P16.out W hS; go_simp; first | exact ⟨rfl, Below.refl _ _⟩ | (refine ⟨?_, Below.refl _ _⟩; rfl))); (try go_simp))
              (refine Rl.textR_run ?_ (fun ρ => ?_) (fun ρ W hS hd => ?_) ?_; rotate_left; (focus go_simp); (focus (obtain ⟨hc, hf⟩ := bcell hS; go_simp; first | exact ⟨rfl, Below.refl _ _⟩ | (refine ⟨?_, Below.refl _ _⟩; rfl))); (try go_simp))
              iterate 2 (refine Rl.textR_run ?_ (fun ρ => ?_) (fun ρ W hS hd => ?_) ?_; rotate_left; (focus go_simp); (focus (obtain ⟨hc, hf⟩ := bcell hS; go_simp; first | exact ⟨rfl, Below.refl _ _⟩ | (refine ⟨?_, Below.refl _ _⟩; rfl))); (try go_simp))
              refine Rl.textR_nil ?_
              intro ρ w9 hg hk
              have HF := Lib.hid (below_next HB.out hg)
              clear hg hk
              dsimp only
              clear ρ
              go_wp2_with fail
              go_ret
              exact ⟨by rw [E.out]; rfl, HF.out⟩
      · have E := Lib.hid (show rightB j = false by rw [E1.out, h0]; unfold fitsB; rw [hw]; rfl)
        refine Rl.wp_region_rel (fun a b => Below a.heap.size a b) U (fun a b c h h' => below_next h h') (fun a => Below.refl _ _) hmx (by kernel_rfl) (Below.refl _ _).drew ?_
        (refine Rl.textR_run ?_ (fun ρ => ?_) (fun ρ W hS hd => ?_) ?_; rotate_left; (focus go_simp); (focus (obtain ⟨hc, hf⟩ := bcell hS; go_simp; first | exact ⟨rfl, Below.refl _ _⟩ | (refine ⟨?_, Below.refl _ _⟩; rfl))); (try go_simp))
        (refine Rl.textR_run ?_ (fun ρ => ?_) (fun ρ W hS hd => ?_) ?_; rotate_left; (focus go_simp); (focus (have hfact := P7.out W hS; go_simp; first | exact ⟨rfl, Below.refl _ _⟩ | (refine ⟨?_, Below.refl _ _⟩; rfl))); (try go_simp))
        (refine Rl.textR_run ?_ (fun ρ => ?_) (fun ρ W hS hd => ?_) ?_; rotate_left; (focus go_simp); (focus (obtain ⟨hc, hf⟩ := bcell hS; go_simp; first | exact ⟨rfl, Below.refl _ _⟩ | (refine ⟨?_, Below.refl _ _⟩; rfl))); (try go_simp))
        (refine Rl.textR_run ?_ (fun ρ => ?_) (fun ρ W hS hd => ?_) ?_; rotate_left; (focus go_simp); (focus (obtain ⟨hc, hf⟩ := bcell hS; go_simp; first | exact ⟨rfl, Below.refl _ _⟩ | (refine ⟨?_, Below.refl _ _⟩; rfl))); (try go_simp))
        (refine Rl.textR_run ?_ (fun ρ => ?_) (fun ρ W hS hd => ?_) ?_; rotate_left; (focus go_simp); (focus (obtain ⟨hc, hf⟩ := bcell hS; go_simp; first | exact ⟨rfl, Below.refl _ _⟩ | (refine ⟨?_, Below.refl _ _⟩; rfl))); (try go_simp))
        (refine Rl.textR_run ?_ (fun ρ => ?_) (fun ρ W hS hd => ?_) ?_; rotate_left; (focus go_simp); (focus (have hfact := P14.out W hS; go_simp; first | exact ⟨rfl, Below.refl _ _⟩ | (refine ⟨?_, Below.refl _ _⟩; rfl))); (try go_simp))
        (refine Rl.textR_run ?_ (fun ρ => ?_) (fun ρ W hS hd => ?_) ?_; rotate_left; (focus go_simp); (focus (obtain ⟨hc, hf⟩ := bcell hS; go_simp; refine (KL.out W).mono ?_; rintro e w1 ⟨rfl, hb⟩; refine ⟨_, rfl, ?_, hb⟩; rfl)); (try go_simp))
        (refine Rl.textR_run ?_ (fun ρ => ?_) (fun ρ W hS hd => ?_) ?_; rotate_left; (focus go_simp); (focus (obtain ⟨hc, hf⟩ := bcell hS; go_simp; first | exact ⟨rfl, Below.refl _ _⟩ | (refine ⟨?_, Below.refl _ _⟩; rfl))); (try go_simp))
        (refine Rl.textR_run ?_ (fun ρ => ?_) (fun ρ W hS hd => ?_) ?_; rotate_left; (focus go_simp); (focus (have hfact := P3.out W hS; go_simp; first | exact ⟨rfl, Below.refl _ _⟩ | (refine ⟨?_, Below.refl _ _⟩; rfl))); (try go_simp))
        (refine Rl.textR_run ?_ (fun ρ => ?_) (fun ρ W hS hd => ?_) ?_; rotate_left; (focus go_simp); (focus (obtain ⟨hc, hf⟩ := bcell hS; go_simp; first | exact ⟨rfl, Below.refl _ _⟩ | (refine ⟨?_, Below.refl _ _⟩; rfl))); (try go_simp))
        iterate 2 (refine Rl.textR_run ?_ (fun ρ => ?_) (fun ρ W hS hd => ?_) ?_; rotate_left; (focus go_simp); (focus (obtain ⟨hc, hf⟩ := bcell hS; go_simp; first | exact ⟨rfl, Below.refl _ _⟩ | (refine ⟨?_, Below.refl _ _⟩; rfl))); (try go_simp))
        iterate 6 (refine Rl.textR_skip (fun ρ => ?_) ?_; (focus (first | rfl | (go_simp; done) | (go_simp; rfl))); (try go_simp))
        iterate 2 (refine Rl.textR_run ?_ (fun ρ => ?_) (fun ρ W hS hd => ?_) ?_; rotate_left; (focus go_simp); (focus (obtain ⟨hc, hf⟩ := bcell hS; go_simp; first | exact ⟨rfl, Below.refl _ _⟩ | (refine ⟨?_, Below.refl _ _⟩; rfl))); (try go_simp))
        iterate 3 (refine Rl.textR_skip (fun ρ => ?_) ?_; (focus (first | rfl | (go_simp; done) | (go_simp; rfl))); (try go_simp))
        iterate 2 (refine Rl.textR_run ?_ (fun ρ => ?_) (fun ρ W hS hd => ?_) ?_; rotate_left; (focus go_simp); (focus (obtain ⟨hc, hf⟩ := bcell hS; go_simp; first | exact ⟨rfl, Below.refl _ _⟩ | (refine ⟨?_, Below.refl _ _⟩; rfl))); (try go_simp))
        iterate 3 (refine Rl.textR_skip (fun ρ => ?_) ?_; (focus (first | rfl | (go_simp; done) | (go_simp; rfl))); (try go_simp))
        iterate 2 (refine Rl.textR_run ?_ (fun ρ => ?_) (fun ρ W hS hd => ?_) ?_; rotate_left; (focus go_simp); (focus (obtain ⟨hc, hf⟩ := bcell hS; go_simp; first | exact ⟨rfl, Below.refl _ _⟩ | (refine ⟨?_, Below.refl _ _⟩; rfl))); (try go_simp))
        iterate 3 (refine Rl.textR_skip (fun ρ => ?_) ?_; (focus (first | rfl | (go_simp; done) | (go_simp; rfl))); (try go_simp))
        iterate 2 (refine Rl.textR_run ?_ (fun ρ => ?_) (fun ρ W hS hd => ?_) ?_; rotate_left; (focus go_simp); (focus (obtain ⟨hc, hf⟩ := bcell hS; go_simp; first | exact ⟨rfl, Below.refl _ _⟩ | (refine ⟨?_, Below.refl _ _⟩; rfl))); (try go_simp))
        refine Rl.textR_nil ?_
        intro ρ w9 hg hk
        have HF := Lib.hid (below_next HB.out hg)
        clear hg hk
        dsimp only
        clear ρ
        go_wp2_with fail
        go_ret
        exact ⟨by rw [E.out]; rfl, HF.out⟩
  · have hs0 : (j.state == 0) = false := by rcases hs with h | h | h | h <;> (rw [h]; rfl)
    have hs1 : (j.state == 1) = false := by rcases hs with h | h | h | h <;> (rw [h]; rfl)
    have E1 := Lib.hid (show rightB j = (if j.tries == 0 then (nv j.nodes == 0) && decide (j.start ≤ j.fin) else ((card j.nodes : Int) == j.width) && decide (j.start ≤ j.fin)) by rw [E0.out]; unfold stateB; rw [hs0, hs1, hi]; rfl)
    clear hs0 hs1 hi
    have KL := Lib.hid (fun W => rlen15 j.nodes W)
    have c12 := HC12.out
    cases ht : (j.tries == 0) with
    | true =>
      have E2 := Lib.hid (show rightB j = ((nv j.nodes == 0) && decide (j.start ≤ j.fin)) by rw [E1.out, ht]; rfl)
      have c14 := HC14.out
      have c15 := HC15.out
      have c16 := HC16.out
      cases hb : decide (j.start ≤ j.fin) with
      | false =>
        have E := Lib.hid (show rightB j = false by rw [E2.out, hb]; simp)
        rcases hs with hs | hs | hs | hs <;> rw [hs] at c8
        all_goals clear hs
        all_goals go_wp2
        all_goals go_ret
        all_goals exact ⟨by rw [E.out]; rfl, HB.out⟩
      | true =>
        have E := Lib.hid (show rightB j = (nv j.nodes == 0) by rw [E2.out, hb]; simp)
        rcases hs with hs | hs | hs | hs <;> rw [hs] at c8
        all_goals clear hs
        all_goals go_wp2
        all_goals go_ret
        all_goals exact ⟨by rw [E.out]; rfl, HB.out⟩
    | false =>
      have E2 := Lib.hid (show rightB j = (((card j.nodes : Int) == j.width) && decide (j.start ≤ j.fin)) by rw [E1.out, ht]; rfl)
      cases hb : decide (j.start ≤ j.fin) with
      | false =>
        have E := Lib.hid (show rightB j = false by rw [E2.out, hb]; simp)
        rcases hs with hs | hs | hs | hs <;> rw [hs] at c8
        all_goals clear hs
        all_goals go_upto_region 16 with fail
        all_goals clear c8 c12
        all_goals (
          refine Rl.wp_region_rel (fun a b => Below a.heap.size a b) U (fun a b c h h' => below_next h h') (fun a => Below.refl _ _) hmx (by kernel_rfl) (Below.refl _ _).drew ?_
          (refine Rl.textR_run ?_ (fun ρ => ?_) (fun ρ W hS hd => ?_) ?_; rotate_left; (focus go_simp); (focus (obtain ⟨hc, hf⟩ := bcell hS; go_simp; first | exact ⟨rfl, Below.refl _ _⟩ | (refine ⟨?_, Below.refl _ _⟩; rfl))); (try go_simp))
          (refine Rl.textR_run ?_ (fun ρ => ?_) (fun ρ W hS hd => ?_) ?_; rotate_left; (focus go_simp); (focus (have hfact := P15.out W hS; go_simp; first | exact ⟨rfl, Below.refl _ _⟩ | (refine ⟨?_, Below.refl _ _⟩; rfl))); (try go_simp))
          (refine Rl.textR_run ?_ (fun ρ => ?_) (fun ρ W hS hd => ?_) ?_; rotate_left; (focus go_simp); (focus (obtain ⟨hc, hf⟩ := bcell hS; go_simp; first | exact ⟨rfl, Below.refl _ _⟩ | (refine ⟨?_, Below.refl _ _⟩; rfl))); (try go_simp))
          (refine Rl.textR_run ?_ (fun ρ => ?_) (fun ρ W hS hd => ?_) ?_; rotate_left; (focus go_simp); (focus (have hfact := P16.out W hS; go_simp; first | exact ⟨rfl, Below.refl _ _⟩ | (refine ⟨?_, Below.refl _ _⟩; rfl))); (try go_simp))
          iterate 2 (refine Rl.textR_run ?_ (fun ρ => ?_) (fun ρ W hS hd => ?_) ?_; rotate_left; (focus go_simp); (focus (obtain ⟨hc, hf⟩ := bcell hS; go_simp; first | exact ⟨rfl, Below.refl _ _⟩ | (refine ⟨?_, Below.refl _ _⟩; rfl))); (try go_simp))
          iterate 6 (refine Rl.textR_skip (fun ρ => ?_) ?_; (focus (first | rfl | (go_simp; done) | (go_simp; rfl))); (try go_simp))
          iterate 2 (refine Rl.textR_run ?_ (fun ρ => ?_) (fun ρ W hS hd => ?_) ?_; rotate_left; (focus go_simp); (focus (obtain ⟨hc, hf⟩ := bcell hS; go_simp; first | exact ⟨rfl, Below.refl _ _⟩ | (refine ⟨?_, Below.refl _ _⟩; rfl))); (try go_simp))
          refine Rl.textR_nil ?_
          intro ρ w9 hg hk
          have HF := Lib.hid (below_next HB.out hg)
          clear hg hk
          dsimp only
          clear ρ
          go_wp2_with fail
          go_ret
          exact ⟨by rw [E.out]; rfl, HF.out⟩)
      | true =>
        have E := Lib.hid (show rightB j = ((card j.nodes : Int) == j.width) by rw [E2.out, hb]; simp)
        rcases hs with hs | hs | hs | hs <;> rw [hs] at c8
        all_goals clear hs
        all_goals go_upto_region 16 with fail
        all_goals clear c8 c12
        all_goals (
          refine Rl.wp_region_rel (fun a b => Below a.heap.size a b) U (fun a b c h h' => below_next h h') (fun a => Below.refl _ _) hmx (by kernel_rfl) (Below.refl _ _).drew ?_
          (refine Rl.textR_run ?_ (fun ρ => ?_) (fun ρ W hS hd => ?_) ?_; rotate_left; (focus go_simp); (focus (obtain ⟨hc, hf⟩ := bcell hS; go_simp; first | exact ⟨rfl, Below.refl _ _⟩ | (refine ⟨?_, Below.refl _ _⟩; rfl))); (try go_simp))
          (refine Rl.textR_run ?_ (fun ρ => ?_) (fun ρ W hS hd => ?_) ?_; rotate_left; (focus go_simp); (focus (have hfact := P15.out W hS; go_simp; first | exact ⟨rfl, Below.refl _ _⟩ | (refine ⟨?_, Below.refl _ _⟩; rfl))); (try go_simp))
          (refine Rl.textR_run ?_ (fun ρ => ?_) (fun ρ W hS hd => ?_) ?_; rotate_left; (focus go_simp); (focus (obtain ⟨hc, hf⟩ := bcell hS; go_simp; first | exact ⟨rfl, Below.refl _ _⟩ | (refine ⟨?_, Below.refl _ _⟩; rfl))); (try go_simp))
          (refine Rl.textR_run ?_ (fun ρ => ?_) (fun ρ W hS hd => ?_) ?_; rotate_left; (focus go_simp); (focus (have hfact := P16.out W hS; go_simp; first | exact ⟨rfl, Below.refl _ _⟩ | (refine ⟨?_, Below.refl _ _⟩; rfl))); (try go_simp))
          iterate 2 (refine Rl.textR_run ?_ (fun ρ => ?_) (fun ρ W hS hd => ?_) ?_; rotate_left; (focus go_simp); (focus (obtain ⟨hc, hf⟩ := bcell hS; go_simp; first | exact ⟨rfl, Below.refl _ _⟩ | (refine ⟨?_, Below.refl _ _⟩; rfl))); (try go_simp))
          (refine Rl.textR_run ?_ (fun ρ => ?_) (fun ρ W hS hd => ?_) ?_; rotate_left; (focus go_simp); (focus (obtain ⟨hc, hf⟩ := bcell hS; go_simp; first | exact ⟨rfl, Below.refl _ _⟩ | (refine ⟨?_, Below.refl _ _⟩; rfl))); (try go_simp))
          (refine Rl.textR_run ?_ (fun ρ => ?_) (fun ρ W hS hd => ?_) ?_; rotate_left; (focus go_simp); (focus (have hfact := P14.out W hS; go_simp; first | exact ⟨rfl, Below.refl _ _⟩ | (refine ⟨?_, Below.refl _ _⟩; rfl))); (try go_simp))
          (refine Rl.textR_run ?_ (fun ρ => ?_) (fun ρ W hS hd => ?_) ?_; rotate_left; (focus go_simp); (focus (obtain ⟨hc, hf⟩ := bcell hS; go_simp; refine (KL.out W).mono ?_; rintro e w1 ⟨rfl, hb⟩; refine ⟨_, rfl, ?_, hb⟩; rfl)); (try go_simp))
          (refine Rl.textR_run ?_ (fun ρ => ?_) (fun ρ W hS hd => ?_) ?_; rotate_left; (focus go_simp); (focus (obtain ⟨hc, hf⟩ := bcell hS; go_simp; first | exact ⟨rfl, Below.refl _ _⟩ | (refine ⟨?_, Below.refl _ _⟩; rfl))); (try go_simp))
          (refine Rl.textR_run ?_ (fun ρ => ?_) (fun ρ W hS hd => ?_) ?_; rotate_left; (focus go_simp); (focus (have hfact := P3.out W hS; go_simp; first | exact ⟨rfl, Below.refl _ _⟩ | (refine ⟨?_, Below.refl _ _⟩; rfl))); (try go_simp))
          (refine Rl.textR_run ?_ (fun ρ => ?_) (fun ρ W hS hd => ?_) ?_; rotate_left; (focus go_simp); (focus (obtain ⟨hc, hf⟩ := bcell hS; go_simp; first | exact ⟨rfl, Below.refl _ _⟩ | (refine ⟨?_, Below.refl _ _⟩; rfl))); (try go_simp))
          iterate 2 (refine Rl.textR_run ?_ (fun ρ => ?_) (fun ρ W hS hd => ?_) ?_; rotate_left; (focus go_simp); (focus (obtain ⟨hc, hf⟩ := bcell hS; go_simp; first | exact ⟨rfl, Below.refl _ _⟩ | (refine ⟨?_, Below.refl _ _⟩; rfl))); (try go_simp))
          refine Rl.textR_nil ?_
          intro ρ w9 hg hk
          have HF := Lib.hid (below_next HB.out hg)
          clear hg hk
          dsimp only
          clear ρ
          go_wp2_with fail
          go_ret
          exact ⟨by rw [E.out]; rfl, HF.out⟩)
  · have E := Lib.hid (show rightB j = false by rw [E0.out]; unfold stateB; rw [h0, h1, hi]; rfl)
    clear hi
    go_wp2
    go_ret
    exact ⟨by rw [E.out]; rfl, HB.out⟩
end Go.Proofs.Ytgeldpfojmkdbaa
