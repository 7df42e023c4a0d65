/- Books in memory (layer 14): a map of lines by users; nobody's; New, there, isUser. No condition. -/
import Derived.Test.YthflogeaielhlaaGreatDoorBkP
import Derived.Test.YthflogeaielhlaaGreatDoorMac
import Derived.Test.YthflogeaielhlaaGreatDoorMad
import Derived.Test.YthflogeaielhlaaGreatDoorMaa
import Derived.Carry
import Derived.RangeFuncRecord
namespace Go.Proofs.YthflogeaielhlaaGreatDoor
set_option linter.unusedVariables false
open Go.ChangeShapes Go.WideShapes Go.ChangeAt Go.RowKit Bk
attribute [local go_sem ↓] Go.wp_at_zero Go.wp_at_succ

theorem keyI : Maps.Keyed Tryz.prog 3 := Maps.int_keyed Tryz.underlying3
set_option maxRecDepth 100000 in
theorem keyOfI {u : Int} (h0 : -9223372036854775808 ≤ u) (h1 : u ≤ 9223372036854775807) : Go.keyOf Tryz.prog 3 (.int .i64 u) = some (.int .i64 u) :=
  Maps.keyOf_int_mk Tryz.underlying3 (by simp [Lit.wf, IntKind.min, IntKind.max, IntKind.signed, IntKind.bits]; omega)
theorem zeroL (w : World) : (zeroValue 46).run Tryz.prog w = .ok (.agg (vL zL).toArray) w := by kernel_rfl
theorem own_tight {w : World} {m n : Nat} {L : List LV} (h : w.ownsMap Tryz.prog 3 RL m n (bD L)) : w.ownsMap Tryz.prog 3 RL m L.length (bD L) := by
  obtain ⟨es, clock, hb, F, hs, hD⟩ := h
  refine ⟨es, clock, hb, F, ?_, hD⟩
  unfold bD at hD
  injection hD with hD
  have := congrArg List.length hD
  rw [length_sorted] at this
  simp at this
  omega
/-- books in memory -/
structure BkAt (w : World) (b m : Nat) (h : Int) (L : List LV) : Prop where
  blk : w.heap[b]? = some (.cells #[.int .i64 h, .map (some m)] 50 (0, 0))
  own : w.ownsMap Tryz.prog 3 RL m L.length (bD L)
  good : BG L
theorem BkAt.ne {w : World} {b m : Nat} {h : Int} {L : List LV} (H : BkAt w b m h L) : b ≠ m := by
  obtain ⟨es, clock, hb, _⟩ := H.own
  rintro rfl
  rw [H.blk] at hb
  cases hb
theorem BkAt.lt {w : World} {b m : Nat} {h : Int} {L : List LV} (H : BkAt w b m h L) : b < w.heap.size ∧ m < w.heap.size := ⟨(Array.getElem?_eq_some_iff.1 H.blk).1, H.own.lt⟩
theorem BkAt.keep {w w' : World} {b m : Nat} {h : Int} {L : List LV} (H : BkAt w b m h L) (h1 : w'.heap[b]? = w.heap[b]?) (h2 : w'.heap[m]? = w.heap[m]?) : BkAt w' b m h L := by
  refine ⟨h1.trans H.blk, ?_, H.good⟩
  obtain ⟨es, clock, hb, rest⟩ := H.own
  exact ⟨es, clock, h2.trans hb, rest⟩
theorem BkAt.below {w w' : World} {b m : Nat} {h : Int} {L : List LV} (H : BkAt w b m h L) (hb : Below w.heap.size w w') : BkAt w' b m h L :=
  H.keep (hb.block b H.lt.1) (hb.block m H.lt.2)
theorem BkAt.look {w : World} {b m : Nat} {h : Int} {L : List LV} (H : BkAt w b m h L) {u : Int} (h0 : -9223372036854775808 ≤ u) (h1 : u ≤ 9223372036854775807) :
    (Instr.lookup 48 (.map (some m)) (.int .i64 u) false).run Tryz.prog w = .ok (.agg (vL (lineB L u)).toArray) w := by
  obtain ⟨v, ps, hrun, hv⟩ := H.own.lookup keyI Tryz.underlying48 (zeroL w) (RL_mk zL) (keyOfI h0 h1)
  rw [bD_at] at hv
  rw [hrun, RL_inv hv]
theorem BkAt.lookOk {w : World} {b m : Nat} {h : Int} {L : List LV} (H : BkAt w b m h L) {u : Int} (h0 : -9223372036854775808 ≤ u) (h1 : u ≤ 9223372036854775807) :
    (Instr.lookup 48 (.map (some m)) (.int .i64 u) true).run Tryz.prog w = .ok (.tuple #[.agg (vL (lineB L u)).toArray, .bool (getB L u).isSome]) w := by
  obtain ⟨v, ps, hrun, hv⟩ := H.own.look_ok keyI Tryz.underlying48 (zeroL w) (RL_mk zL) (keyOfI h0 h1)
  rw [bD_at] at hv
  rw [hrun, RL_inv hv, bD_has]
/-- of the blocks that were there just the map's may have turned -/
def FrM (m : Nat) (w w' : World) : Prop := w.grownBy w' (some m)
theorem BkAt.upd {w : World} {b m : Nat} {h : Int} {L : List LV} (H : BkAt w b m h L) {x : LV} (hx : x.length = 9) (h0 : 1 ≤ usr x) (h1 : usr x ≤ 16) :
    ∃ w', (Instr.mapUpdate 48 (.map (some m)) (.int .i64 (usr x)) (.agg (vL x).toArray)).run Tryz.prog w = .ok () w' ∧ BkAt w' b m h (putB L x) ∧ w.grownBy w' (some m) := by
  have hl := H.good.len
  obtain ⟨w', e1, e2, e3⟩ := H.own.update keyI Tryz.underlying48 (by unfold maxLen; omega) (keyOfI (u := usr x) (by omega) (by omega)) (RL_mk x)
  rw [bD_put L x H.good.up] at e2
  exact ⟨w', e1, ⟨(e3.block b H.lt.1 (by have := H.ne; intro h; cases h; exact this rfl)).trans H.blk, own_tight e2, H.good.put hx h0 h1⟩, e3⟩
/-- books that nobody made -/
def NoBk (w : World) (v : Value) : Prop := v = .pointer none ∨ ∃ g, v = .pointer (some ⟨g, 0, none⟩) ∧ w.heap[g]? = some (.cells #[.int .i64 0, .map none] 50 (0, 0))
theorem NoBk.below {w w' : World} {v : Value} (h : NoBk w v) (hb : Below w.heap.size w w') : NoBk w' v := by
  rcases h with h | ⟨g, h1, h2⟩
  · exact .inl h
  · exact .inr ⟨g, h1, (hb.block g (Array.getElem?_eq_some_iff.1 h2).1).trans h2⟩
theorem map_some (m : Nat) (W : World) : (binOp .neq 48 (.map (some m)) (.map none)).run Tryz.prog W = .ok (.bool true) W := by kernel_rfl
theorem map_none (W : World) : (binOp .neq 48 (.map none) (.map none)).run Tryz.prog W = .ok (.bool false) W := by kernel_rfl
theorem there_bk {w : World} {b m : Nat} {h : Int} {L : List LV} (H : BkAt w b m h L) : Calls Tryz.prog 23 #[.pointer (some ⟨b, 0, none⟩)] w fun e w' => e = .returned (.bool true) ∧ w' = w := by
  have c1 : w.cell? ⟨b, 1, none⟩ = some (.map (some m)) := cell_of_block (o := 1) H.blk rfl
  have q := map_some m
  clear H
  go_enter Tryz.func23, Tryz.ntmps23
  go_wp2
  go_ret
  exact ⟨rfl, rfl⟩
theorem there_no {w : World} {v : Value} (h : NoBk w v) : Calls Tryz.prog 23 #[v] w fun e w' => e = .returned (.bool false) ∧ w' = w := by
  rcases h with rfl | ⟨g, rfl, h2⟩
  · go_enter Tryz.func23, Tryz.ntmps23
    go_wp2
    go_ret
    exact ⟨rfl, rfl⟩
  · have c1 : w.cell? ⟨g, 1, none⟩ = some (.map none) := cell_of_block (o := 1) h2 rfl
    have q := map_none
    clear h2
    go_enter Tryz.func23, Tryz.ntmps23
    go_wp2
    go_ret
    exact ⟨rfl, rfl⟩
theorem isUser_yes {u : Int} (h1 : 1 ≤ u) (h2 : u ≤ 16) (w : World) : Calls Tryz.prog 39 #[.int .i64 u] w fun e w' => e = .returned (.bool true) ∧ w' = w := by
  have d1 : decide (u ≥ 1) = true := decide_eq_true h1
  have d2 : decide (u ≤ 16) = true := decide_eq_true h2
  go_enter Tryz.func39, Tryz.ntmps39
  go_wp2
  go_ret
  exact ⟨rfl, rfl⟩
theorem isUser_no {u : Int} (h : ¬ (1 ≤ u ∧ u ≤ 16)) (w : World) : Calls Tryz.prog 39 #[.int .i64 u] w fun e w' => e = .returned (.bool false) ∧ w' = w := by
  by_cases h1 : 1 ≤ u
  · have d1 : decide (u ≥ 1) = true := decide_eq_true h1
    have d2 : decide (u ≤ 16) = false := decide_eq_false (fun h2 => h ⟨h1, h2⟩)
    clear h
    go_enter Tryz.func39, Tryz.ntmps39
    go_wp2
    go_ret
    exact ⟨rfl, rfl⟩
  · have d1 : decide (u ≥ 1) = false := decide_eq_false h1
    clear h
    go_enter Tryz.func39, Tryz.ntmps39
    go_wp2
    go_ret
    exact ⟨rfl, rfl⟩
theorem bnew_any (h : Int) (h0 : 1 ≤ h) (h1 : h ≤ 1099511627776) (w : World) : Calls Tryz.prog 10 #[.int .i64 h] w fun e w' => e = .returned (.tuple #[.pointer (some ⟨w.heap.size + 1, 0, none⟩), .int .i64 0]) ∧ BkAt w' (w.heap.size + 1) w.heap.size h [] ∧ Below w.heap.size w w' := by
  have d1 : decide (h < 1) = false := decide_eq_false (by omega)
  have d2 : decide (h > 1099511627776) = false := decide_eq_false (by omega)
  have d3 : decide (1099511627776 < h) = false := decide_eq_false (by omega)
  have hmm := @run_makeMap Tryz.prog
  go_enter Tryz.func10, Tryz.ntmps10
  go_wp2
  go_ret2
  refine ⟨by simp, ?_, ?_⟩
  · have hm := World.ownsMap_made w Tryz.prog 3 RL
    have hsz : (w.alloc (.map #[] 0)).heap.size = w.heap.size + 1 := by simp
    refine ⟨?_, ?_, BG.nil⟩
    · rw [← hsz]; exact World.alloc_heap_new _ _
    · exact hm.alloc _
  · exact ((Below.refl _ w).alloc (Nat.le_refl _) _).alloc (by simp) _
end Go.Proofs.YthflogeaielhlaaGreatDoor
