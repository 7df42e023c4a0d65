/- The iterator of a set's nodes (All): each, rising, till a round says 'no more'. Condition: math/bits' table of trailing zeros lies as its text lays it. -/
import Derived.RangeFuncNested
import Derived.RangeFuncBound
import Derived.RangeFuncCalls
import Derived.RangeFuncLeaves
import Derived.Shelf.Abstract
import Derived.Shelf.RegionOpen
import Derived.WalkKit
import Derived.OwnWalkIn
import Derived.TacticsInMore
import Derived.LoopNIn
import Derived.LoopIn
import Derived.Test.YtnofgffkfapodaaDoorMag
import Derived.Test.YtnofgffkfapodaaDoorMaa
namespace Go.Proofs.YtnofgffkfapodaaDoor
set_option linter.unusedVariables false
open Go.RowKit Go.Shelf
attribute [local go_sem] Oper.semAt_some

theorem TabZ.kept {w w' : World} {n₀ : Nat} (h : TabZ w) (hn : 0 < n₀) (hb : Below n₀ w w') : TabZ w' :=
  ⟨Nat.lt_of_lt_of_le h.1 hb.size, fun j hj => (hb.cell (p := ⟨_, j, none⟩) hn).trans (h.2 j hj)⟩
theorem all1_in (n : Nat) (hn : 1 ≤ n) (l Bn n₀ : Nat) (s : NSet) (hg : 0 < n₀) (J Jx : List Int → World → Prop)
    (hY : ∀ pre x W, J pre W → pre.length < card s → YieldAt Fence.wide (n - 1) Tryd.prog l #[.int .i64 x] W fun e W' =>
      (e = .returned (.bool true) ∧ J (pre ++ [x]) W' ∧ Below n₀ W W') ∨ (e = .returned (.bool false) ∧ Jx (pre ++ [x]) W'))
    (W : World) (hBn : W.cell? ⟨Bn, 0, none⟩ = some (.int .u64 (nv s))) (hT : TabZ W) (h0 : J [] W) :
    CallsIn Fence.wide n Tryd.prog 82 #[.func (.yield l) #[] #[], .pointer (some ⟨Bn, 0, none⟩)] W fun e W' => (∃ v, e = .returned v) ∧
      ((∃ ys, ys = nodes s ∧ J ys W') ∨ (∃ pre, pre <+: nodes s ∧ Jx pre W')) := by
  refine callsIn_of_wp Tryd.func82 rfl trivial ?_ rfl
  simp only [Tryd.ntmps82, List.size_toArray, List.length_cons, List.length_nil, Nat.reduceAdd, Nat.reduceSub, Array.replicate_succ, Array.replicate_zero, List.push_toArray, List.append_toArray, List.nil_append, List.cons_append]
  gi_wp2
  gi_loopw [3] (fun p wr => ∃ (pre : List Int) (r : NSet), p = .int .u64 (nv r) ∧ nodes s = pre ++ nodes r ∧ TabZ wr ∧ J pre wr)
    (fun p _ => (card (BitVec.ofInt 64 (intOf p))))
  case atStart => exact ⟨[], s, rfl, rfl, hT, h0⟩
  case round =>
    obtain ⟨pre, r, rfl, hx, hTr, hJs⟩ := hrel
    by_cases hr : r = 0#64
    · have hb : (nv r == 0) = true := by rw [nv_is0]; simpa using hr
      rw [hr, nodes_zero, List.append_nil] at hx
      gi_wp2
      go_end0
      exact ⟨⟨_, rfl⟩, .inl ⟨pre, hx.symm, hJs⟩⟩
    · have hb : (nv r == 0) = false := by rw [nv_is0]; simpa using hr
      have hlen : pre.length < card s := by
        have h1 := congrArg List.length hx
        rw [nodes_length _ s rfl, List.length_append, nodes_cons hr, List.length_cons] at h1
        omega
      obtain ⟨fn, tmps, assign, body, hy, hR⟩ := hY pre (lowI r) wr hJs hlen
      gi_wp2_with (refine ⟨trivial, ?_⟩; gi_at_call 63; refine (callsIn_wide.2 (lowest_any r _ hTr)).mono ?_; rintro e w' ⟨rfl, rfl⟩)
      refine hR.mono ?_
      rintro e W3 (⟨rfl, hJ3, hk3⟩ | ⟨rfl, hJx3⟩)
      · have hT3 := TabZ.kept hTr hg hk3
        gi_wp2_with (first | (refine ⟨trivial, ?_⟩; gi_at_call 63; refine (callsIn_wide.2 (lowest_any r _ hT3)).mono ?_; rintro e w' ⟨rfl, rfl⟩) | (refine ⟨trivial, ?_⟩; gi_at_call 65; refine (callsIn_wide.2 (without_any r (lowI r) _)).mono ?_; rintro e w' ⟨rfl, rfl⟩))
        go_roundw
        case rel => exact ⟨pre ++ [lowI r], restS r, rfl, by rw [hx, nodes_cons hr]; simp, hT3, hJ3⟩
        case measure =>
          have := card_rest hr
          simp only [intOf, nv, BitVec.ofInt_natCast, BitVec.ofNat_toNat, BitVec.setWidth_eq]
          unfold restS at this
          omega
      · gi_wp2
        refine bodyPost_ret (results_none rfl _ _ _) rfl ?_
        exact ⟨⟨_, rfl⟩, .inr ⟨pre ++ [lowI r], ⟨nodes (restS r), by rw [hx, nodes_cons hr]; simp⟩, hJx3⟩⟩
/-- the contract of the iterator, as the law of ranges asks it -/
theorem all1_stops (n : Nat) (hn : 1 ≤ n) (Bn n₀ : Nat) (s : NSet) (hg : 0 < n₀) (w : World) (hBn : w.cell? ⟨Bn, 0, none⟩ = some (.int .u64 (nv s))) (hT : TabZ w) :
    SeqStopsK Fence.wide n Tryd.prog 82 #[.pointer (some ⟨Bn, 0, none⟩)] (fun x : Int => #[.int .i64 x]) (Below n₀) (· = nodes s) (· <+: nodes s) (card s) w := by
  intro l J Jx W hW _ _ hY h0
  exact all1_in n hn l Bn n₀ s hg J Jx hY W ((hW.cell (p := ⟨Bn, 0, none⟩) (World.block_lt_of_cell? w _ hBn)).trans hBn) (hT.below hW) h0
theorem all_any (s : NSet) (w : World) : Calls Tryd.prog 76 #[.int .u64 (nv s)] w fun e w' => e = .returned (.func (.func 82) #[] #[.pointer (some ⟨w.heap.size, 0, none⟩)]) ∧ w' = w.alloc (.cells #[.int .u64 (nv s)] 53) := by
  go_enter Tryd.func76, Tryd.ntmps76
  go_wp2
  go_ret
  exact ⟨rfl, rfl⟩
end Go.Proofs.YtnofgffkfapodaaDoor
