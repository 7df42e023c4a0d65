/- DiskNobody walked. No condition. -/
import Derived.Test.YtbjljpommnhnjaaDisk
import Derived.RangeFuncRecord
namespace Go.Proofs.Ytbjljpommnhnjaa
set_option linter.unusedVariables false
open Go.ChangeShapes Go.WideShapes Go.ChangeAt Go.RowKit
attribute [local go_sem ↓] Go.wp_at_zero Go.wp_at_succ comesTo_value_eq comesTo_skip_eq comesTo_enter_eq

theorem cell_new (W : World) (cs : Array Value) (T : TypeId) (k : Nat) (v : Value) (h : cs[k]? = some v) : (W.alloc (.cells cs T)).cell? ⟨W.heap.size, k, none⟩ = some v := by
  have hb : (W.alloc (.cells cs T)).heap[W.heap.size]? = some (.cells cs T (0, 0)) := World.alloc_heap_new W _
  unfold World.cell?
  rw [show (⟨W.heap.size, k, none⟩ : Addr).block = W.heap.size from rfl, hb]
  exact h
set_option maxRecDepth 100000 in
set_option maxHeartbeats 4000000 in
theorem nobody_walk (c0 c1 c2 c3 c4 c5 c6 c7 : Value) (w : World) (KOne : ∀ W : World, Calls Try.prog 18 #[] W fun e w' => e = .returned (.bool true) ∧ Below W.heap.size W w') :
    Calls Try.prog 5 #[.agg #[c0, c1, c2, c3, c4, c5, c6, c7]] w fun e w' => e = .returned (.bool true) ∧ Below w.heap.size w w' := by
  have KO := Lib.hid KOne
  clear KOne
  have hA := below_alloc (Below.refl _ w) (.cells #[c0, c1, c2, c3, c4, c5, c6, c7] 32)
  have hcell : ∀ k v, (#[c0, c1, c2, c3, c4, c5, c6, c7] : Array Value)[k]? = some v → (w.alloc (.cells #[c0, c1, c2, c3, c4, c5, c6, c7] 32)).cell? ⟨w.heap.size, k, none⟩ = some v := fun k v h => cell_new w _ _ k v h
  have HC1 := hcell 1 c1 rfl
  have HC2 := hcell 2 c2 rfl
  have HC3 := hcell 3 c3 rfl
  have HC4 := hcell 4 c4 rfl
  have HC5 := hcell 5 c5 rfl
  have HC6 := hcell 6 c6 rfl
  have HC7 := hcell 7 c7 rfl
  have hlt : w.heap.size < (w.alloc (.cells #[c0, c1, c2, c3, c4, c5, c6, c7] 32)).heap.size := by simp
  clear hcell
  go_enter Try.func5, Try.ntmps5
  go_wp2
  generalize (w.alloc (.cells #[c0, c1, c2, c3, c4, c5, c6, c7] 32)) = wA at *
  go_loopw [3] (fun i wr => ∃ k : Nat, k ≤ 2 ∧ i = .int .i64 k ∧ Below wA.heap.size wA wr) (fun i _ => 2 - (intOf i).toNat)
  case atStart => exact ⟨0, by decide, rfl, Below.refl _ _⟩
  case round =>
    obtain ⟨k, hk, rfl, hB⟩ := hrel
    rcases (by omega : k = 0 ∨ k = 1 ∨ k = 2) with rfl | rfl | rfl
    · have hB1 := below_alloc hB (.cells #[.slice none 0 0, .int .i64 0, .slice none 0 0, .int .i64 0, .slice none 0 0, .int .i64 0, .slice none 0 0, .int .i64 0, .int .i64 0, .bool false, .bool false, .bool false] 52)
      have hz : (wr.alloc (.cells #[.slice none 0 0, .int .i64 0, .slice none 0 0, .int .i64 0, .slice none 0 0, .int .i64 0, .slice none 0 0, .int .i64 0, .int .i64 0, .bool false, .bool false, .bool false] 52)).cell? ⟨wr.heap.size, 11, none⟩ = some (.bool false) := cell_new wr _ _ 11 _ rfl
      have hN0 : NoDisk (wr.alloc (.cells #[.slice none 0 0, .int .i64 0, .slice none 0 0, .int .i64 0, .slice none 0 0, .int .i64 0, .slice none 0 0, .int .i64 0, .int .i64 0, .bool false, .bool false, .bool false] 52)) (.pointer (some ⟨wr.heap.size, 0, none⟩)) := .inr ⟨_, rfl, hz⟩
      have b1 := (hB1.cell (p := ⟨w.heap.size, 1, none⟩) hlt).trans HC1
      have b2 := (hB1.cell (p := ⟨w.heap.size, 2, none⟩) hlt).trans HC2
      have b4 := (hB1.cell (p := ⟨w.heap.size, 4, none⟩) hlt).trans HC4
      have b5 := (hB1.cell (p := ⟨w.heap.size, 5, none⟩) hlt).trans HC5
      have b6 := (hB1.cell (p := ⟨w.heap.size, 6, none⟩) hlt).trans HC6
      have b7 := (hB1.cell (p := ⟨w.heap.size, 7, none⟩) hlt).trans HC7
      go_wp2_with fail
      refine (arm_no hN0 c2).mono ?_
      rintro e w' ⟨⟨u, rfl⟩, rfl⟩
      go_wp2_with fail
      refine (fall_no hN0 c4 c5 c6 c7).mono ?_
      rintro e W2 ⟨⟨u2, rfl⟩, hF⟩
      have hB2 := below_next hB1 hF
      have hN := NoDisk.below hN0 hF
      have d1 := (hB2.cell (p := ⟨w.heap.size, 1, none⟩) hlt).trans HC1
      have d3 := (hB2.cell (p := ⟨w.heap.size, 3, none⟩) hlt).trans HC3
      clear b1 b2 b4 b5 b6 b7
      go_wp2_with fail
      refine (read_no hN c1).mono ?_
      rintro e w' ⟨rfl, rfl⟩
      go_wp2_with fail
      refine (safe_no hN c1).mono ?_
      rintro e w' ⟨rfl, rfl⟩
      go_wp2_with fail
      refine (append_no hN c1 c3).mono ?_
      rintro e w' ⟨rfl, rfl⟩
      go_wp2_with fail
      refine (sync_no hN c1).mono ?_
      rintro e w' ⟨rfl, rfl⟩
      go_wp2_with fail
      refine (reset_no hN c1).mono ?_
      rintro e w' ⟨rfl, rfl⟩
      go_wp2_with fail
      refine (down_no hN).mono ?_
      rintro e w' ⟨rfl, rfl⟩
      go_wp2_with fail
      refine (clone_no hN).mono ?_
      rintro e w' ⟨rfl, rfl⟩
      go_wp2_with fail
      go_roundw
      case rel => exact ⟨1, by decide, by go_num, hB2⟩
      case measure => simp [intOf]
    · have hB1 := below_alloc hB (.cells #[.slice none 0 0, .int .i64 0, .slice none 0 0, .int .i64 0, .slice none 0 0, .int .i64 0, .slice none 0 0, .int .i64 0, .int .i64 0, .bool false, .bool false, .bool false] 52)
      have hN0 : NoDisk (wr.alloc (.cells #[.slice none 0 0, .int .i64 0, .slice none 0 0, .int .i64 0, .slice none 0 0, .int .i64 0, .slice none 0 0, .int .i64 0, .int .i64 0, .bool false, .bool false, .bool false] 52)) (.pointer none) := .inl rfl
      have b1 := (hB1.cell (p := ⟨w.heap.size, 1, none⟩) hlt).trans HC1
      have b2 := (hB1.cell (p := ⟨w.heap.size, 2, none⟩) hlt).trans HC2
      have b4 := (hB1.cell (p := ⟨w.heap.size, 4, none⟩) hlt).trans HC4
      have b5 := (hB1.cell (p := ⟨w.heap.size, 5, none⟩) hlt).trans HC5
      have b6 := (hB1.cell (p := ⟨w.heap.size, 6, none⟩) hlt).trans HC6
      have b7 := (hB1.cell (p := ⟨w.heap.size, 7, none⟩) hlt).trans HC7
      go_wp2_with fail
      refine (arm_no hN0 c2).mono ?_
      rintro e w' ⟨⟨u, rfl⟩, rfl⟩
      go_wp2_with fail
      refine (fall_no hN0 c4 c5 c6 c7).mono ?_
      rintro e W2 ⟨⟨u2, rfl⟩, hF⟩
      have hB2 := below_next hB1 hF
      have hN := NoDisk.below hN0 hF
      have d1 := (hB2.cell (p := ⟨w.heap.size, 1, none⟩) hlt).trans HC1
      have d3 := (hB2.cell (p := ⟨w.heap.size, 3, none⟩) hlt).trans HC3
      clear b1 b2 b4 b5 b6 b7
      go_wp2_with fail
      refine (read_no hN c1).mono ?_
      rintro e w' ⟨rfl, rfl⟩
      go_wp2_with fail
      refine (safe_no hN c1).mono ?_
      rintro e w' ⟨rfl, rfl⟩
      go_wp2_with fail
      refine (append_no hN c1 c3).mono ?_
      rintro e w' ⟨rfl, rfl⟩
      go_wp2_with fail
      refine (sync_no hN c1).mono ?_
      rintro e w' ⟨rfl, rfl⟩
      go_wp2_with fail
      refine (reset_no hN c1).mono ?_
      rintro e w' ⟨rfl, rfl⟩
      go_wp2_with fail
      refine (down_no hN).mono ?_
      rintro e w' ⟨rfl, rfl⟩
      go_wp2_with fail
      refine (clone_no hN).mono ?_
      rintro e w' ⟨rfl, rfl⟩
      go_wp2_with fail
      go_roundw
      case rel => exact ⟨2, by decide, by go_num, hB2⟩
      case measure => simp [intOf]
    · go_wp2_with fail
      refine (KO.out _).mono ?_
      rintro e W9 ⟨rfl, h9⟩
      go_wp2_with fail
      go_ret
      exact ⟨rfl, below_next (hA.trans (hB.mono hA.size)) h9⟩
end Go.Proofs.Ytbjljpommnhnjaa
