/- Which fields of a command count, by its kind (layer 22). No condition. -/
import Derived.Test.YtlejicmpefdhpaaDoorCmdL
namespace Go.Proofs.YtlejicmpefdhpaaDoor
set_option linter.unusedVariables false
open Go.ChangeShapes Go.WideShapes Go.ChangeAt Go.RowKit
attribute [local go_sem ↓] Go.wp_at_zero Go.wp_at_succ comesTo_value_eq comesTo_skip_eq comesTo_enter_eq

/-- the places of the fields that count -/
def cntF (k : Nat) : List Int := [[], [2, 3, 4, 5, 6, 9, 11], [1], [1], [1], [1, 9], [3, 9, 10, 4], [3, 1], [3, 4], [3], [9], [3, 7, 8], [1]].getD k []
set_option maxRecDepth 100000 in
theorem counted_at (k : Nat) (h : 1 ≤ k ∧ k ≤ 12) (w : World) :
    Calls Tryd.prog 25 #[.int .i64 k] w fun e w' => e = .returned (.slice (some ⟨w.heap.size, 0, none⟩) (cntF k).length (cntF k).length) ∧ w'.heap[w.heap.size]? = some (.cells ((cntF k).map (.int .i64)).toArray 3 (0, 0)) ∧ Below w.heap.size w w' := by
  rcases (show k = 1 ∨ k = 2 ∨ k = 3 ∨ k = 4 ∨ k = 5 ∨ k = 6 ∨ k = 7 ∨ k = 8 ∨ k = 9 ∨ k = 10 ∨ k = 11 ∨ k = 12 by omega) with rfl | rfl | rfl | rfl | rfl | rfl | rfl | rfl | rfl | rfl | rfl | rfl
  all_goals
    clear h
    go_enter Tryd.func25, Tryd.ntmps25
    go_wp2
    go_ret
    exact ⟨rfl, World.alloc_heap_new w _, below_alloc (Below.refl _ w) _⟩
end Go.Proofs.YtlejicmpefdhpaaDoor
