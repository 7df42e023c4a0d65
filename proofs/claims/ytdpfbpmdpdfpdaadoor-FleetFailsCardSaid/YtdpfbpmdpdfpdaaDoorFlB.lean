/- The nodes of a state, those that are up; of none; a node, and the rules, of a fleet. Condition: math/bits' table of trailing zeros lies as its text lays it. -/
import Derived.Test.YtdpfbpmdpdfpdaaDoorFlZ
import Derived.Test.YtdpfbpmdpdfpdaaDoorHealthB
import Derived.Test.YtdpfbpmdpdfpdaaDoorHeld2
namespace Go.Proofs.YtdpfbpmdpdfpdaaDoor
set_option linter.unusedVariables false
open Go.ChangeShapes Go.WideShapes Go.ChangeAt Go.RowKit
attribute [local go_sem ↓] Go.wp_at_zero Go.wp_at_succ comesTo_value_eq comesTo_skip_eq comesTo_enter_eq

theorem in1_any (x : N3) (B : Nat) (k : Int) (w : World) (hc : w.cell? ⟨B, 0, none⟩ = some (.int .i64 k)) :
    Calls Tryd.prog 78 #[nodeA x, .pointer (some ⟨B, 0, none⟩)] w fun e w' => e = .returned (.bool (x.1 == k)) ∧ Below w.heap.size w w' := by
  obtain ⟨t, m, b⟩ := x
  unfold nodeA
  dsimp only
  have hA := below_alloc (Below.refl _ w) (.cells #[.int .i64 t, .int .i64 m, .int .i64 b] 78)
  have hlt := World.block_lt_of_cell? w _ hc
  have hc2 := (hA.cell (p := ⟨B, 0, none⟩) hlt).trans hc
  have HA := Lib.hid hA
  clear hA hc hlt
  go_enter Tryd.func78, Tryd.ntmps78
  go_wp2_with fail
  go_ret
  exact ⟨rfl, HA.out⟩
theorem in_fl {w : World} {F G : Nat} {f : FV} (h : Fl w F G f) (hT : TabZ w) (k : Int) : Calls Tryd.prog 37 #[.pointer (some ⟨F, 0, none⟩), .int .i64 k] w fun e w' => e = .returned (.int .u64 (nv (inF f k))) ∧ Below w.heap.size w w' := by
  have hA := below_alloc (Below.refl _ w) (.cells #[.int .i64 k] 3)
  have hn := World.alloc_heap_new w (.cells #[.int .i64 k] 3)
  have hlt := (Array.getElem?_eq_some_iff.1 hn).1
  have K := Lib.hid (where_any (h.below hA) (hT.below hA) 78 #[.pointer (some ⟨w.heap.size, 0, none⟩)] (fun n => n.1 == k) (enters_of Tryd.func78 (by kernel_rfl) rfl)
    (fun x W hW => in1_any x w.heap.size k W (cell_of_block (o := 0) ((hW.block _ hlt).trans hn) rfl)))
  have HA := Lib.hid hA
  clear hA hn hlt h
  unfold inF
  go_enter Tryd.func37, Tryd.ntmps37
  go_wp2_with fail
  refine K.out.mono ?_
  rintro e w' ⟨rfl, hb⟩
  have HB := Lib.hid (below_next HA.out hb)
  clear hb
  go_wp2_with fail
  go_ret
  exact ⟨rfl, HB.out⟩
theorem in_no {w : World} {v : Value} (h : NoFl w v) (hT : TabZ w) (k : Int) : Calls Tryd.prog 37 #[v, .int .i64 k] w fun e w' => e = .returned (.int .u64 0) ∧ Below w.heap.size w w' := by
  have hA := below_alloc (Below.refl _ w) (.cells #[.int .i64 k] 3)
  have K := Lib.hid (where_no (h.below hA) (hT.below hA) 78 #[.pointer (some ⟨w.heap.size, 0, none⟩)])
  have HA := Lib.hid hA
  clear hA h
  go_enter Tryd.func37, Tryd.ntmps37
  go_wp2_with fail
  refine K.out.mono ?_
  rintro e w' ⟨rfl, hb⟩
  have HB := Lib.hid (below_next HA.out hb)
  clear hb
  go_wp2_with fail
  go_ret
  exact ⟨rfl, HB.out⟩
theorem up_fl {w : World} {F G : Nat} {f : FV} (h : Fl w F G f) (hT : TabZ w) : Calls Tryd.prog 28 #[.pointer (some ⟨F, 0, none⟩)] w fun e w' => e = .returned (.int .u64 (nv (upF f))) ∧ Below w.heap.size w w' := by
  have K := Lib.hid (in_fl h hT 0)
  unfold upF
  clear h
  go_enter Tryd.func28, Tryd.ntmps28
  go_wp2_with fail
  refine K.out.mono ?_
  rintro e w' ⟨rfl, hb⟩
  have HB := Lib.hid hb
  clear hb
  go_wp2_with fail
  go_ret
  exact ⟨rfl, HB.out⟩
theorem up_no {w : World} {v : Value} (h : NoFl w v) (hT : TabZ w) : Calls Tryd.prog 28 #[v] w fun e w' => e = .returned (.int .u64 0) ∧ Below w.heap.size w w' := by
  have K := Lib.hid (in_no h hT 0)
  clear h
  go_enter Tryd.func28, Tryd.ntmps28
  go_wp2_with fail
  refine K.out.mono ?_
  rintro e w' ⟨rfl, hb⟩
  have HB := Lib.hid hb
  clear hb
  go_wp2_with fail
  go_ret
  exact ⟨rfl, HB.out⟩
abbrev ZN : Array Value := #[.int .i64 0, .int .i64 0, .int .i64 0]
theorem node_no {w : World} {v : Value} (h : NoFl w v) (k : Int) : Calls Tryd.prog 35 #[v, .int .i64 k] w fun e w' => e = .returned (.tuple #[.agg ZN, .int .i64 1]) ∧ Below w.heap.size w w' := by
  have hA := below_alloc (Below.refl _ w) (.cells ZN 78)
  have nR := World.alloc_heap_new w (.cells ZN 78)
  have K := Lib.hid (there_nofl (h.below hA))
  have r0 := cell_of_block (o := 0) nR rfl
  have r1 := cell_of_block (o := 1) nR rfl
  have r2 := cell_of_block (o := 2) nR rfl
  have HW := Lib.hid hA
  clear nR hA h
  go_enter Tryd.func35, Tryd.ntmps35
  go_wp2_with fail
  refine K.out.mono ?_
  rintro e w' ⟨rfl, rfl⟩
  go_wp2_with fail
  refine bodyPost_ret (v := .tuple #[.agg ZN, .int .i64 1]) (by simp [results, Tryd.results35, go_sem]; try go_simp) rfl ⟨rfl, HW.out⟩
theorem rules_no {w : World} {v : Value} (h : NoFl w v) : Calls Tryd.prog 23 #[v] w fun e w' => e = .returned (.agg ZN) ∧ Below w.heap.size w w' := by
  have hA := below_alloc (Below.refl _ w) (.cells ZN 45)
  have nR := World.alloc_heap_new w (.cells ZN 45)
  have K := Lib.hid (there_nofl (h.below hA))
  have r0 := cell_of_block (o := 0) nR rfl
  have r1 := cell_of_block (o := 1) nR rfl
  have r2 := cell_of_block (o := 2) nR rfl
  have HW := Lib.hid hA
  clear nR hA h
  go_enter Tryd.func23, Tryd.ntmps23
  go_wp2_with fail
  refine K.out.mono ?_
  rintro e w' ⟨rfl, rfl⟩
  go_wp2_with fail
  refine bodyPost_ret (v := .agg ZN) (by simp [results, Tryd.results23, go_sem]; try go_simp) rfl ⟨rfl, HW.out⟩
theorem clone_nofl {w : World} {v : Value} (h : NoFl w v) : Calls Tryd.prog 26 #[v] w fun e w' => e = .returned (.pointer none) ∧ w = w' := by
  have K := Lib.hid (there_nofl h)
  clear h
  go_enter Tryd.func26, Tryd.ntmps26
  go_wp2_with fail
  refine K.out.mono ?_
  rintro e w' ⟨rfl, rfl⟩
  go_wp2
  go_ret
  exact ⟨rfl, rfl⟩
theorem tell_no {w : World} {v : Value} (h : NoFl w v) (n k : Int) : Calls Tryd.prog 21 #[v, .int .i64 n, .int .i64 k] w fun e w' => e = .returned (.int .i64 1) ∧ w = w' := by
  have K := Lib.hid (there_nofl h)
  clear h
  go_enter Tryd.func21, Tryd.ntmps21
  go_wp2_with fail
  refine K.out.mono ?_
  rintro e w' ⟨rfl, rfl⟩
  go_wp2
  go_ret
  exact ⟨rfl, rfl⟩
theorem fput_no {w : World} {v : Value} (h : NoFl w v) : Calls Tryd.prog 27 #[v] w fun e w' => e = .returned (.slice none 0 0) ∧ w = w' := by
  have K := Lib.hid (there_nofl h)
  clear h
  go_enter Tryd.func27, Tryd.ntmps27
  go_wp2_with fail
  refine K.out.mono ?_
  rintro e w' ⟨rfl, rfl⟩
  go_wp2
  go_ret
  exact ⟨rfl, rfl⟩
end Go.Proofs.YtdpfbpmdpdfpdaaDoor
