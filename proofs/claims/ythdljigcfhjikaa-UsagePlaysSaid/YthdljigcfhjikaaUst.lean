/- Levels (layer 10): Play of no acts; UsageBack walked (under way). -/
import Derived.Test.YthdljigcfhjikaaUsr
import Derived.Test.YthdljigcfhjikaaUso
namespace Go.Proofs.Ythdljigcfhjikaa
set_option linter.unusedVariables false
open Go.ChangeShapes Go.WideShapes Go.ChangeAt Go.RowKit
attribute [local go_sem ↓] Go.wp_at_zero Go.wp_at_succ comesTo_value_eq comesTo_skip_eq comesTo_enter_eq

theorem flat_low (n : Int) (w : World) : Calls Try.prog 32 #[.int .i64 n] w fun e w' => ∃ S, e = .returned (.pointer (some ⟨S, 0, none⟩)) ∧ w.heap.size ≤ S ∧ S < w'.heap.size ∧ (∀ W', (∀ k, w.heap.size ≤ k → k < w'.heap.size → W'.heap[k]? = w'.heap[k]?) → w'.heap.size ≤ W'.heap.size → USt W' S [(0, boundU n)]) ∧ Below w.heap.size w w' := by
  have KB := Lib.hid (bound_any n w)
  generalize boundU n = b at *
  go_enter Try.func32, Try.ntmps32
  go_wp2_with (go_at_call 67; ((with_reducible refine KB.out.mono ?_)); rintro e w' ⟨rfl, rfl⟩)
  have hb1 := below_alloc (Below.refl _ w) (.cells #[.int .i64 0, .int .i64 b] 60)
  have hb2 := below_alloc (Below.refl _ (w.alloc (.cells #[.int .i64 0, .int .i64 b] 60))) (.cells #[.slice (some ⟨w.heap.size, 0, none⟩) 1 1] 63)
  have n1 := (hb2.block w.heap.size (by simp)).trans (World.alloc_heap_new w (.cells #[.int .i64 0, .int .i64 b] 60))
  have n2 := World.alloc_heap_new (w.alloc (.cells #[.int .i64 0, .int .i64 b] 60)) (.cells #[.slice (some ⟨w.heap.size, 0, none⟩) 1 1] 63)
  have hs1 : (w.alloc (.cells #[.int .i64 0, .int .i64 b] 60)).heap.size = w.heap.size + 1 := by simp
  rw [hs1] at n2
  go_ret
  have l1 := (Array.getElem?_eq_some_iff.1 n1).1
  have l2 := (Array.getElem?_eq_some_iff.1 n2).1
  refine ⟨w.heap.size + 1, rfl, by omega, l2, fun W' hW hsz => ⟨⟨w.heap.size, 1, by omega, (hW _ (by omega) l2).trans n2, by simp, Nat.lt_of_lt_of_le l1 hsz, fun k hk => ?_⟩, by simp, by simp⟩, below_next hb1 hb2⟩
  obtain rfl : k = 0 := by simpa using hk
  exact ⟨cell_of_block (o := 0) ((hW _ (Nat.le_refl _) l1).trans n1) rfl, cell_of_block (o := 1) ((hW _ (Nat.le_refl _) l1).trans n1) rfl⟩
set_option maxRecDepth 100000 in
set_option maxHeartbeats 2000000 in
theorem play_nil (w : World) : Calls Try.prog 12 #[.int .i64 0, .slice none 0 0, .int .i64 0] w fun e w' => ∃ S, e = .returned (.tuple #[.pointer (some ⟨S, 0, none⟩), .agg #[.int .i64 0, .slice none 0 0]]) ∧ w.heap.size ≤ S ∧ USt w' S [(0, 0)] ∧ Below w.heap.size w w' := by
  have hmx : Try.prog.follows .mixedOrders = true := by kernel_rfl
  have KF := Lib.hid (fun W => (show Calls Try.prog 32 #[.int .i64 0] W fun e w' => ∃ S, e = .returned (.pointer (some ⟨S, 0, none⟩)) ∧ W.heap.size ≤ S ∧ S < w'.heap.size ∧ (∀ W', (∀ k, W.heap.size ≤ k → k < w'.heap.size → W'.heap[k]? = w'.heap[k]?) → w'.heap.size ≤ W'.heap.size → USt W' S [(0, 0)]) ∧ Below W.heap.size W w' from flat_low 0 W))
  have hb0 := below_alloc (Below.refl _ w) (.cells #[.int .i64 0, .slice none 0 0] 29)
  have n0 := World.alloc_heap_new w (.cells #[.int .i64 0, .slice none 0 0] 29)
  go_enter Try.func12, Try.ntmps12
  go_upto_region 1 with fail
  generalize w.alloc (.cells #[.int .i64 0, .slice none 0 0] 29) = W0 at *
  go_wp2_with fail
  refine (KF.out _).mono ?_
  rintro e W1 ⟨S, rfl, hS, hSl, hu, hb1⟩
  have n1 := (hb1.block _ (Array.getElem?_eq_some_iff.1 n0).1).trans n0
  have hs1 := (Array.getElem?_eq_some_iff.1 n1).1
  have hb2 := below_alloc (Below.refl _ W1) (.cells #[.int .i64 0, .slice none 0 0] 29)
  have n2 := World.alloc_heap_new W1 (.cells #[.int .i64 0, .slice none 0 0] 29)
  have n1' := (hb2.block _ hs1).trans n1
  have hw0 := (Array.getElem?_eq_some_iff.1 n0).1
  have HU := Lib.hid (show ∀ W', (∀ k, W0.heap.size ≤ k → k < W1.heap.size → W'.heap[k]? = (W1.alloc (.cells #[.int .i64 0, .slice none 0 0] 29)).heap[k]?) → W1.heap.size ≤ W'.heap.size → USt W' S [(0, 0)] from fun W' h1 h2 => hu W' (fun k k1 k2 => (h1 k k1 k2).trans (hb2.block k k2)) h2)
  have hs2 : W1.heap.size < (W1.alloc (.cells #[.int .i64 0, .slice none 0 0] 29)).heap.size := by simp
  have HB := Lib.hid (below_next (below_next hb0 hb1) hb2)
  have hS0 := hb0.size
  clear hu hb0 hb1 hb2 n0 n1
  go_upto_region 3 with fail
  generalize W1.alloc (.cells #[.int .i64 0, .slice none 0 0] 29) = W2 at *
  go_wp2_with fail
  go_loopw [10] (fun i wr => i = .int .i64 0 ∧ wr = W2) (fun _ _ => 0)
  case atStart => exact ⟨rfl, rfl⟩
  case round =>
    obtain ⟨rfl, rfl⟩ := hrel
    go_upto_region 18 with fail
    have c0 := cell_of_block (o := 0) n2 rfl
    have c1 := cell_of_block (o := 1) n2 rfl
    have d0 := cell_of_block (o := 0) n1' rfl
    have d1 := cell_of_block (o := 1) n1' rfl
    have f0 := free_of_block 0 n1'
    have f1 := free_of_block 1 n1'
    have hw := ((wrote_refl n1').set 0 (.int .i64 0)).set 1 (.slice none 0 0)
    have hbw := (hw.below HB.out (Nat.le_refl _)).drew
    have HX := Lib.hid (show USt ((wr.setCell ⟨w.heap.size, 0, none⟩ (.int .i64 0)).setCell ⟨w.heap.size, 1, none⟩ (.slice none 0 0)).drew S [(0, 0)] ∧ Below w.heap.size w ((wr.setCell ⟨w.heap.size, 0, none⟩ (.int .i64 0)).setCell ⟨w.heap.size, 1, none⟩ (.slice none 0 0)).drew from ⟨HU.out _ (fun k k1 k2 => hw.rest k (by omega)) (by show _ ≤ ((wr.setCell ⟨w.heap.size, 0, none⟩ (.int .i64 0)).setCell ⟨w.heap.size, 1, none⟩ (.slice none 0 0)).heap.size; rw [hw.size]; exact Nat.le_of_lt hs2), hbw⟩)
    have HC := Lib.hid (show ((wr.setCell ⟨w.heap.size, 0, none⟩ (.int .i64 0)).setCell ⟨w.heap.size, 1, none⟩ (.slice none 0 0)).drew.heap[w.heap.size]? = _ from hw.there)
    clear hw hbw
    go_region
    generalize ((wr.setCell ⟨w.heap.size, 0, none⟩ (.int .i64 0)).setCell ⟨w.heap.size, 1, none⟩ (.slice none 0 0)).drew = V at *
    have e0 := cell_of_block (o := 0) HC.out rfl
    have e1 := cell_of_block (o := 1) HC.out rfl
    clear c0 c1 d0 d1 f0 f1
    go_wp2_with fail
    exact bodyPost_ret (v := .tuple #[.pointer (some ⟨S, 0, none⟩), .agg #[.int .i64 0, .slice none 0 0]]) (by simp [results, Try.results12, go_sem]; try go_simp) rfl ⟨S, rfl, by omega, HX.out.1, HX.out.2⟩
end Go.Proofs.Ythdljigcfhjikaa
