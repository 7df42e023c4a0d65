/- Laws that belong together: Room (layer 11): the iterator of Starts, whatever is done with its spans (DRAFT: under way).; Room (layer 11): the iterator of Starts, told the function that a law gathers its spans with. Conditions: the steps are right; the bounds of times.; Room (layer 11): the spans that a law gathers of Starts. Conditions: the steps are right; fewer than 199 of them.; Room (layer 11): Earliest: the first span's beginning. Conditions: the steps are right; the bounds of their number.; Reservations (layer 18): New, Next, All, Clone, Find, at any list. Conditions: the lengths' bounds. -/
import Derived.Test.YtddoknkmmchkmaaDoorMak
import Derived.RangeFuncNested
import Derived.RangeFuncBound
import Derived.RangeFuncCalls
import Derived.RangeFuncLeaves
import Derived.Shelf.Abstract
import Derived.Shelf.RegionOpen
import Derived.WalkKit
import Derived.OwnWalkIn
import Derived.TacticsInMore
import Derived.LoopNIn
import Derived.LoopIn
import Derived.Test.YtddoknkmmchkmaaDoorMMarks
import Derived.Laws.OwnMore
import Derived.OwnWalk
import Derived.Test.YtddoknkmmchkmaaDoorMaf
namespace Go.Proofs.YtddoknkmmchkmaaDoor
set_option linter.unusedVariables false
open Go.RowKit Go.Shelf
def mxS (x y : Int) : Int := if y > x then y else x
theorem run_mxS {P : Program} (w : World) (ts : Array TypeId) (t : TypeId) (k k' : IntKind) (x y : Int) : (Builtin.max_ ts t #[.int k x, .int k' y]).run P w = .ok (.int k (mxS x y)) w := run_max_int2 w ts t k k' x y
attribute [local go_sem high] run_mxS
attribute [local go_sem] Oper.semAt_some
attribute [local go_sem ↓] comesTo_value_eq comesTo_skip_eq comesTo_enter_eq

/-- where the iterator stands: what is to come of the steps from k on, no stretch being open -/
def restS (L : List (Int × Int)) (F m W : Int) (k : Nat) : List (Int × Int) := startsGo F m W ((runsU L).drop k) none
/-- what lies from block n₁ on, ahead of n₀, is as it was -/
structure Mid (n₁ n₀ : Nat) (w w' : World) : Prop where
  size : w.heap.size ≤ w'.heap.size
  block : ∀ k, n₁ ≤ k → k < n₀ → w'.heap[k]? = w.heap[k]?
theorem Mid.refl (n₁ n₀ : Nat) (w : World) : Mid n₁ n₀ w w := ⟨Nat.le_refl _, fun _ _ _ => rfl⟩
theorem Mid.trans {n₁ n₀ : Nat} {a b c : World} (h : Mid n₁ n₀ a b) (k : Mid n₁ n₀ b c) : Mid n₁ n₀ a c := ⟨Nat.le_trans h.size k.size, fun i h1 h2 => (k.block i h1 h2).trans (h.block i h1 h2)⟩
theorem Mid.of {n₁ n₀ : Nat} {w w' : World} (h : Below n₀ w w') : Mid n₁ n₀ w w' := ⟨h.size, fun k _ h2 => h.block k h2⟩
theorem Mid.cell {n₁ n₀ : Nat} {w w' : World} (h : Mid n₁ n₀ w w') {p : Addr} (h1 : n₁ ≤ p.block ∧ p.block < n₀) : w'.cell? p = w.cell? p := World.cell?_of_block (h.block p.block h1.1 h1.2)
theorem mid_b {n₁ n₀ : Nat} {w : World} (hn : n₀ ≤ w.heap.size) (W : World) (l : Nat) (o o' : Obj) (hl : w.heap.size ≤ l) (h : W.heap[l]? = some o) (h1 : o.isCells = false) (h2 : o.isWalk = false) : Mid n₁ n₀ W (W.putObj l o') := Mid.of (belowK_b hn W l o o' hl h h1 h2)
theorem mxS_eq (x y : Int) : mxS x y = max x y := by unfold mxS; omega
theorem getD_of {L : List (Int × Int)} {k : Nat} (h : k < L.length) : L.getD k (0, 0) = L[k] := by rw [List.getD_eq_getElem?_getD, List.getElem?_eq_getElem h]; rfl
theorem rest_open {L : List (Int × Int)} {F m W : Int} {k : Nat} (h : k < L.length) (hW : W ≤ L[k].2) : restS L F m W k = startsGo F m W ((runsU L).drop (k + 1)) (some L[k].1) := by
  unfold restS
  rw [runsU_drop' h]
  conv => lhs; unfold startsGo
  simp only
  rw [getD_of h, if_pos hW]
theorem rest_low {L : List (Int × Int)} {F m W : Int} {k : Nat} (h : k < L.length) (hW : L[k].2 < W) : restS L F m W k = restS L F m W (k + 1) := by
  unfold restS
  rw [runsU_drop' h]
  conv => lhs; unfold startsGo
  simp only
  rw [getD_of h, if_neg (by omega)]
theorem go_on {L : List (Int × Int)} {F m W a : Int} {j : Nat} (h : j < L.length) (hW : W ≤ L[j].2) : startsGo F m W ((runsU L).drop j) (some a) = startsGo F m W ((runsU L).drop (j + 1)) (some a) := by
  rw [runsU_drop' h]
  conv => lhs; unfold startsGo
  simp only
  rw [getD_of h, if_pos hW]
theorem go_low {L : List (Int × Int)} {F m W a : Int} {j : Nat} (h : j < L.length) (hW : L[j].2 < W) : startsGo F m W ((runsU L).drop j) (some a) = (if L[j].1 - m + 1 ≤ mxS a F then [] else [(mxS a F, L[j].1 - m + 1)]) ++ restS L F m W (j + 1) := by
  rw [runsU_drop' h]
  conv => lhs; unfold startsGo
  simp only
  rw [getD_of h, if_neg (by omega), mxS_eq]
  rfl
theorem go_ends {L : List (Int × Int)} {F m W a : Int} : startsGo F m W ((runsU L).drop L.length) (some a) = (if mxS a F < 1099511627776 then [(mxS a F, 1099511627776)] else []) := by
  rw [runsU_end, mxS_eq]
  rfl
theorem rest_ends {L : List (Int × Int)} {F m W : Int} {k : Nat} (h : L.length ≤ k) : restS L F m W k = [] := by
  unfold restS
  rw [List.drop_eq_nil_of_le (by unfold runsU; simp; omega)]
  rfl
set_option maxRecDepth 100000 in
set_option maxHeartbeats 4000000 in
theorem starts1_in (n : Nat) (hn : 1 ≤ n) (l n₁ n₀ : Nat) (L : List (Int × Int)) (F m W : Int) (b0 b1 b2 b3 g c : Nat) (hlen : L.length ≤ 1099511627776) (hL : RightU L) (hm : 1 ≤ m ∧ m ≤ 1099511627776) (hF : 0 ≤ F ∧ F ≤ 1099511627776) (J Jx : List (Int × Int) → World → Prop)
    (hY : ∀ pre (x : Int × Int) V, J pre V → pre.length < L.length → YieldAt Fence.wide (n - 1) Tryd.prog l #[.agg #[.int .i64 x.1, .int .i64 x.2]] V fun e V' =>
      (e = .returned (.bool true) ∧ J (pre ++ [x]) V' ∧ Mid n₁ n₀ V V') ∨ (e = .returned (.bool false) ∧ Jx (pre ++ [x]) V'))
    (hJA : ∀ pre W1 W2, J pre W1 → Below W1.heap.size W1 W2 → J pre W2)
    (V : World) (hb : (n₁ ≤ b0 ∧ b0 < n₀) ∧ (n₁ ≤ b1 ∧ b1 < n₀) ∧ (n₁ ≤ b2 ∧ b2 < n₀) ∧ (n₁ ≤ b3 ∧ b3 < n₀) ∧ (n₁ ≤ g ∧ g < n₀)) (hn₀ : n₀ ≤ V.heap.size)
    (h0 : V.cell? ⟨b0, 0, none⟩ = some (.slice (some ⟨g, 0, none⟩) L.length c)) (h1 : V.cell? ⟨b1, 0, none⟩ = some (.int .i64 W)) (h2 : V.cell? ⟨b2, 0, none⟩ = some (.int .i64 F)) (h3 : V.cell? ⟨b3, 0, none⟩ = some (.int .i64 m)) (hr : URow V g L) (hJ : J [] V) :
    CallsIn Fence.wide n Tryd.prog 74 #[.func (.yield l) #[] #[], .pointer (some ⟨b0, 0, none⟩), .pointer (some ⟨b1, 0, none⟩), .pointer (some ⟨b2, 0, none⟩), .pointer (some ⟨b3, 0, none⟩)] V fun e V' => (∃ v, e = .returned v) ∧
      ((∃ ys, ys = startsU L F m W ∧ J ys V') ∨ (∃ pre, pre <+: startsU L F m W ∧ Jx pre V')) := by
  have hmx : Tryd.prog.follows .mixedOrders = true := by kernel_rfl
  refine callsIn_of_wp Tryd.func74 rfl trivial ?_ rfl
  simp only [Tryd.ntmps74, List.size_toArray, List.length_cons, List.length_nil, Nat.reduceAdd, Nat.reduceSub, Array.replicate_succ, Array.replicate_zero, List.push_toArray, List.append_toArray, List.nil_append, List.cons_append]
  gi_wp2
  refine wpIn_scope ?_
  gi_wp2
  refine wpIn_label ?_
  gi_wp2
  gi_loopw [6] (fun p wr => ∃ (k : Nat) (pre : List (Int × Int)), k ≤ L.length + 1 ∧ p = .int .i64 k ∧ pre ++ restS L F m W k = startsU L F m W ∧ pre.length ≤ k ∧ J pre wr ∧ Mid n₁ n₀ V wr) (fun p _ => L.length + 1 - (intOf p).toNat)
  case atStart => exact ⟨0, [], by omega, rfl, by simp [restS, startsU], by simp, hJ, Mid.refl _ _ _⟩
  case round =>
    obtain ⟨k, pre, hk, rfl, hpre, hpl, hJp, hB⟩ := hrel
    have c0 := (hB.cell (p := ⟨b0, 0, none⟩) hb.1).trans h0
    have c1 := (hB.cell (p := ⟨b1, 0, none⟩) hb.2.1).trans h1
    have c2 := (hB.cell (p := ⟨b2, 0, none⟩) hb.2.2.1).trans h2
    have c3 := (hB.cell (p := ⟨b3, 0, none⟩) hb.2.2.2.1).trans h3
    by_cases hlt : k < L.length
    case neg =>
      have hd : decide (k < L.length) = false := decide_eq_false hlt
      gi_wp2
      unfold Exit.noGoto
      go_end0
      have hnil := rest_ends (L := L) (F := F) (m := m) (W := W) (k := k) (by omega)
      rw [hnil, List.append_nil] at hpre
      exact ⟨⟨_, rfl⟩, .inl ⟨pre, hpre, hJp⟩⟩
    case pos =>
      have hd : decide (k < L.length) = true := decide_eq_true hlt
      have hix : (k : Int) < (L.length : Int) := by omega
      have q0 := (hB.cell (p := ⟨g, k * 2, none⟩) hb.2.2.2.2).trans (hr k hlt).1
      have q1 := (hB.cell (p := ⟨g, k * 2 + 1, none⟩) hb.2.2.2.2).trans (hr k hlt).2
      gi_wp2
      refine wpIn_region_grow WideF.wide (fun w' => w' = wr.drew) hmx (by kernel_rfl) (by kernel_rfl) rfl ?_
      iterate 7 (refine textS_run ?_ ?_ (fun W hS => ?_) ?_; rotate_left; (focus go_simp); (focus (subst hS; go_simp; all_goals (first | exact ⟨rfl, rfl⟩ | rfl | (refine ⟨?_, rfl⟩; rfl)))); (try go_simp))
      refine textS_nil ?_
      have hwk : IntKind.i64.wrap ((k : Int) + 1) = ((k + 1 : Nat) : Int) := by rw [IntKind.wrap_i64]; omega
      have hJd : J pre wr.drew := hJA pre _ _ hJp (Below.refl _ _).drew
      have hBd : Mid n₁ n₀ V wr.drew := hB.trans (Mid.of (Below.drew (Below.refl _ _)))
      by_cases hlow : L[k].2 < W
      case pos =>
        have hdl : decide (L[k].2 < W) = true := decide_eq_true hlow
        gi_wp2
        have hst := rest_low (F := F) (m := m) hlt hlow
        exact ⟨⟨k + 1, pre, by omega, rfl, by rw [← hst]; exact hpre, by omega, hJd, hBd⟩, by show L.length + 1 - ((k : Int) + 1).toNat < L.length + 1 - ((k : Int)).toNat; omega⟩
      case neg =>
        have hdl : decide (L[k].2 < W) = false := decide_eq_false hlow
        have d0 := (Below.cell (Below.drew (Below.refl wr.heap.size wr)) (p := ⟨b0, 0, none⟩) (show b0 < wr.heap.size by have := hB.size; omega)).trans c0
        have d2 := (Below.cell (Below.drew (Below.refl wr.heap.size wr)) (p := ⟨b2, 0, none⟩) (show b2 < wr.heap.size by have := hB.size; omega)).trans c2
        have e0 := (Below.cell (Below.drew (Below.refl wr.heap.size wr)) (p := ⟨g, k * 2, none⟩) (show g < wr.heap.size by have := hB.size; omega)).trans q0
        have f0 := ((below_alloc (Below.refl _ wr) (.cells #[.int .i64 0, .int .i64 0] 38)).cell (p := ⟨b0, 0, none⟩) (show b0 < wr.heap.size by have := hB.size; omega)).trans c0
        have f2 := ((below_alloc (Below.refl _ wr) (.cells #[.int .i64 0, .int .i64 0] 38)).cell (p := ⟨b2, 0, none⟩) (show b2 < wr.heap.size by have := hB.size; omega)).trans c2
        have f3 := ((below_alloc (Below.refl _ wr) (.cells #[.int .i64 0, .int .i64 0] 38)).cell (p := ⟨g, k * 2, none⟩) (show g < wr.heap.size by have := hB.size; omega)).trans q0
        gi_wp2
        refine wpIn_region_two WideF.wide 9 8 (fun p w' => w' = bif p then wr.drew.drew.alloc (.cells #[.int .i64 0, .int .i64 0] 38) else wr.drew.drew) hmx (by kernel_rfl) (by kernel_rfl) (by decide) rfl ?_
        simp only [List.take]
        iterate 8 (refine textT2_run ?_ (by decide) ?_ (fun p W hS => ?_) ?_; rotate_left; (focus go_simp); (focus (cases p <;> (simp only [cond_true, cond_false] at hS; subst hS; go_simp; all_goals (first | exact ⟨rfl, rfl⟩ | rfl | (refine ⟨?_, rfl⟩; rfl))))); (try go_simp))
        (refine textT2_call ?_ rfl ?_ (fun W hS => ?_) ?_; rotate_left; (focus go_simp); (focus (simp only [cond_true, cond_false] at hS; subst hS; go_simp; all_goals (first | exact ⟨rfl, rfl⟩ | rfl | (refine ⟨?_, rfl⟩; rfl)))); (try go_simp))
        refine textT2_nil ?_
        have z0 := cell_of_block (o := 0) (World.alloc_heap_new wr (.cells #[.int .i64 0, .int .i64 0] 38)) rfl
        have z1 := cell_of_block (o := 1) (World.alloc_heap_new wr (.cells #[.int .i64 0, .int .i64 0] 38)) rfl
        gi_wp2
        have hbW : Below wr.heap.size wr (wr.alloc (.cells #[.int .i64 (mxS L[k].1 F), .int .i64 1099511627776] 38)).drew.drew := ((below_alloc (Below.refl _ wr) _).drew).drew
        have hbk : (wr.alloc (.cells #[.int .i64 (mxS L[k].1 F), .int .i64 1099511627776] 38)).drew.drew.heap[wr.heap.size]? = some (.cells #[.int .i64 (mxS L[k].1 F), .int .i64 1099511627776] 38 (0, 0)) := World.alloc_heap_new wr _
        clear d0 d2 e0 f0 f2 f3 z0 z1 hBd hJd
        obtain ⟨wo, hwo⟩ : ∃ x, x = wr := ⟨_, rfl⟩
        subst hwo
        generalize (wo.alloc (.cells #[.int .i64 (mxS L[k].1 F), .int .i64 1099511627776] 38)).drew.drew = W0 at *
        gi_loopw [6] (fun p w' => ∃ j : Nat, k < j ∧ j ≤ L.length ∧ p = .int .i64 (j : Nat) ∧ startsGo F m W ((runsU L).drop (k + 1)) (some L[k].1) = startsGo F m W ((runsU L).drop j) (some L[k].1) ∧ Below wo.heap.size wo w' ∧ w'.heap[wo.heap.size]? = some (.cells #[.int .i64 (mxS L[k].1 F), .int .i64 1099511627776] 38 (0, 0))) (fun p _ => L.length - (intOf p).toNat)
        case atStart => exact ⟨k + 1, by omega, by omega, rfl, rfl, hbW, hbk⟩
        case round =>
          obtain ⟨j, hkj, hjl, rfl, hgo, hbj, hbr⟩ := hrel
          have hsz : n₀ ≤ wo.heap.size := Nat.le_trans hn₀ hB.size
          have d0 := (hbj.cell (p := ⟨b0, 0, none⟩) (show b0 < wo.heap.size by omega)).trans c0
          have d1 := (hbj.cell (p := ⟨b1, 0, none⟩) (show b1 < wo.heap.size by omega)).trans c1
          have d2 := (hbj.cell (p := ⟨b2, 0, none⟩) (show b2 < wo.heap.size by omega)).trans c2
          have d3 := (hbj.cell (p := ⟨b3, 0, none⟩) (show b3 < wo.heap.size by omega)).trans c3
          have hwj : IntKind.i64.wrap ((j : Int) + 1) = ((j + 1 : Nat) : Int) := by rw [IntKind.wrap_i64]; omega
          have hao : 0 ≤ L[k].1 ∧ L[k].1 ≤ 1099511627776 := by
            have := toU_le hL hlt
            rw [getD_of hlt] at this
            omega
          have hmx0 : 0 ≤ mxS L[k].1 F ∧ mxS L[k].1 F ≤ 1099511627776 := by rw [mxS_eq]; omega
          by_cases hlj : j < L.length
          case neg =>
            have hdj : decide (j < L.length) = false := decide_eq_false hlj
            have hje : j = L.length := by omega
            rw [rest_open hlt (by omega), hgo, hje, go_ends] at hpre
            clear hje
            by_cases hmn : mxS L[k].1 F < 1099511627776
            case pos =>
              have heq : (pre ++ [(mxS L[k].1 F, 1099511627776)]) ++ restS L F m W (j + 1) = startsU L F m W := by rw [rest_ends (by omega), List.append_nil, ← hpre, if_pos hmn]
              have r0 := cell_of_block (o := 0) hbr rfl
              have r1 := cell_of_block (o := 1) hbr rfl
              have hJX : J pre wr := hJA pre _ _ hJp hbj
              have hem : decide (clampI (1099511627776) ≤ clampI (mxS L[k].1 F)) = false := decide_eq_false (by unfold clampI; omega)
              gi_wp2_with (refine ⟨trivial, ?_⟩; gi_at_call 50; refine (callsIn_wide.2 (empty_any _ _ _)).mono ?_; rintro e W1 ⟨rfl, hbE⟩; rw [hem]; have hJ1 := hJA pre _ _ hJX hbE; have hBE := below_next (hbj) hbE; have y1 := (hbE.block _ (Array.getElem?_eq_some_iff.1 hbr).1).trans hbr; have s0 := cell_of_block (o := 0) y1 rfl; have s1 := cell_of_block (o := 1) y1 rfl; obtain ⟨fn, tmps, assign, body, hy, hR⟩ := hY pre (mxS L[k].1 F, 1099511627776) W1 hJ1 (by omega); dsimp only at hy)
              refine hR.mono ?_
              rintro e W3 (⟨rfl, hJ3, hk3⟩ | ⟨rfl, hJx3⟩)
              · gi_wp2
                exact ⟨⟨j + 1, _, by omega, rfl, heq, by rw [List.length_append, List.length_singleton]; omega, hJ3, (hB.trans (Mid.of (hBE.mono hsz))).trans hk3⟩, by show L.length + 1 - ((j : Int) + 1).toNat < L.length + 1 - ((k : Int)).toNat; omega⟩
              · gi_wp2
                unfold Exit.noGoto
                dsimp only
                refine bodyPost_ret (results_none rfl _ _ _) rfl ?_
                exact ⟨⟨_, rfl⟩, .inr ⟨_, ⟨_, heq⟩, hJx3⟩⟩
            case neg =>
              have heq : pre ++ restS L F m W (j + 1) = startsU L F m W := by rw [rest_ends (by omega), ← hpre, if_neg hmn]
              have r0 := cell_of_block (o := 0) hbr rfl
              have r1 := cell_of_block (o := 1) hbr rfl
              have hJX : J pre wr := hJA pre _ _ hJp hbj
              have hem : decide (clampI (1099511627776) ≤ clampI (mxS L[k].1 F)) = true := decide_eq_true (by unfold clampI; omega)
              gi_wp2_with (refine ⟨trivial, ?_⟩; gi_at_call 50; refine (callsIn_wide.2 (empty_any _ _ _)).mono ?_; rintro e W1 ⟨rfl, hbE⟩; rw [hem]; have hJ1 := hJA pre _ _ hJX hbE; have hBE := below_next (hbj) hbE)
              refine ⟨fun _ h => (by cases h), ?_⟩
              gi_wp2
              exact ⟨⟨j + 1, pre, by omega, rfl, heq, by omega, hJ1, hB.trans (Mid.of (hBE.mono hsz))⟩, by show L.length + 1 - ((j : Int) + 1).toNat < L.length + 1 - ((k : Int)).toNat; omega⟩
          case pos =>
            have hdj : decide (j < L.length) = true := decide_eq_true hlj
            have hij : (j : Int) < (L.length : Int) := by omega
            have p0 := (hbj.cell (p := ⟨g, j * 2, none⟩) (show g < wo.heap.size by omega)).trans ((hB.cell (p := ⟨g, j * 2, none⟩) hb.2.2.2.2).trans (hr j hlj).1)
            have p1 := (hbj.cell (p := ⟨g, j * 2 + 1, none⟩) (show g < wo.heap.size by omega)).trans ((hB.cell (p := ⟨g, j * 2 + 1, none⟩) hb.2.2.2.2).trans (hr j hlj).2)
            rw [getD_of hlj] at p0 p1
            gi_wp2
            refine wpIn_region_grow WideF.wide (fun w' => w' = wr.drew) hmx (by kernel_rfl) (by kernel_rfl) rfl ?_
            iterate 7 (refine textS_run ?_ ?_ (fun W hS => ?_) ?_; rotate_left; (focus go_simp); (focus (subst hS; go_simp; all_goals (first | exact ⟨rfl, rfl⟩ | rfl | (refine ⟨?_, rfl⟩; rfl)))); (try go_simp))
            refine textS_nil ?_
            by_cases hlw : L[j].2 < W
            case neg =>
              have hdl2 : decide (L[j].2 ≥ W) = true := decide_eq_true (by omega)
              gi_wp2
              exact ⟨⟨j + 1, by omega, by omega, rfl, by rw [hgo, go_on hlj (by omega)], hbj.drew, hbr⟩, by show L.length - ((j : Int) + 1).toNat < L.length - ((j : Int)).toNat; omega⟩
            case pos =>
              have hdl2 : decide (L[j].2 ≥ W) = false := decide_eq_false (by omega)
              gi_wp2
              have haj : 0 ≤ L[j].1 ∧ L[j].1 ≤ 1099511627776 := by
                have := toU_le hL hlj
                rw [getD_of hlj] at this
                omega
              have hbY : Below wo.heap.size wo wr.drew.drew := hbj.drew.drew
              have hbrY : wr.drew.drew.heap[wo.heap.size]? = some (.cells #[.int .i64 (mxS L[k].1 F), .int .i64 1099511627776] 38 (0, 0)) := hbr
              generalize wr.drew = X at *
              obtain ⟨To, hTo⟩ : ∃ T : Int, T = L[j].1 - m + 1 := ⟨_, rfl⟩
              have hw1 : IntKind.i64.wrap (L[j].1 - m) = L[j].1 - m := by rw [IntKind.wrap_i64]; omega
              have hw2 : IntKind.i64.wrap (L[j].1 - m + 1) = To := by rw [IntKind.wrap_i64]; omega
              have hTl : To ≤ 1099511627776 := by omega
              have k0 := (hbY.cell (p := ⟨b0, 0, none⟩) (show b0 < wo.heap.size by omega)).trans c0
              have k3 := (hbY.cell (p := ⟨b3, 0, none⟩) (show b3 < wo.heap.size by omega)).trans c3
              have kp := (hbY.cell (p := ⟨g, j * 2, none⟩) (show g < wo.heap.size by omega)).trans (((hbj.cell (p := ⟨g, j * 2, none⟩) (show g < wo.heap.size by omega)).symm).trans p0)
              have kz := cell_of_block (o := 1) hbrY rfl
              have kf := free_of_block 1 hbrY
              have hw9 := (wrote_refl hbrY).set 1 (.int .i64 To)
              have hb9 := hbY.setCell (p := ⟨wo.heap.size, 1, none⟩) (Nat.le_refl _) (.int .i64 To)
              obtain ⟨W9, hW9⟩ : ∃ W9, X.drew.setCell ⟨wo.heap.size, 1, none⟩ (.int .i64 To) = W9 := ⟨_, rfl⟩
              rw [hW9] at hw9 hb9
              have h9b := hw9.there
              have m0 := (hb9.cell (p := ⟨b0, 0, none⟩) (show b0 < wo.heap.size by omega)).trans c0
              have m3 := (hb9.cell (p := ⟨b3, 0, none⟩) (show b3 < wo.heap.size by omega)).trans c3
              have mp := (hb9.cell (p := ⟨g, j * 2, none⟩) (show g < wo.heap.size by omega)).trans (((hbj.cell (p := ⟨g, j * 2, none⟩) (show g < wo.heap.size by omega)).symm).trans p0)
              have HW9 := Lib.hid hW9
              have H9B := Lib.hid h9b
              have HB9 := Lib.hid hb9
              clear hW9 hw9 h9b hb9 d0 d1 d2 d3 p0 p1 hbrY
              refine wpIn_region_twoA WideF.wide 9 (fun b w' => w' = bif b then W9 else X.drew) hmx (by kernel_rfl) (by kernel_rfl) (by decide) rfl ?_
              iterate 9 (refine textT2_run ?_ (by decide) ?_ (fun p W hS => ?_) ?_; rotate_left; (focus go_simp); (focus (cases p <;> (simp only [cond_true, cond_false] at hS; subst hS; go_simp; all_goals (first | exact ⟨rfl, rfl⟩ | rfl | (refine ⟨?_, rfl⟩; rfl))))); (try go_simp))
              refine textT2_call undef rfl ?_ (fun W hS => ?_) ?_
              · go_simp
              · simp only [cond_false] at hS
                subst hS
                go_simp
                rw [← hTo]
                first | exact HW9.out | (rw [← HW9.out]; rfl) | (rw [← HW9.out]; simp)
              (try go_simp)
              refine textT2_nil ?_
              have r1 := cell_of_block (o := 1) H9B.out rfl
              have r0 := cell_of_block (o := 0) H9B.out rfl
              rw [rest_open hlt (by omega), hgo, go_low hlj hlw, ← hTo] at hpre
              clear hTo hw1 hw2
              by_cases hle : To ≤ mxS L[k].1 F
              case pos =>
                have hdt : decide (To ≤ mxS L[k].1 F) = true := decide_eq_true hle
                have heq : pre ++ restS L F m W (j + 1) = startsU L F m W := by rw [← hpre, if_pos hle, List.nil_append]
                gi_wp2
                exact ⟨⟨j + 1, pre, by omega, rfl, heq, by omega, hJA pre _ _ hJp HB9.out, hB.trans (Mid.of (HB9.out.mono hsz))⟩, by show L.length + 1 - ((j : Int) + 1).toNat < L.length + 1 - ((k : Int)).toNat; omega⟩
              case neg =>
                have hdt : decide (To ≤ mxS L[k].1 F) = false := decide_eq_false hle
                have heq : (pre ++ [(mxS L[k].1 F, To)]) ++ restS L F m W (j + 1) = startsU L F m W := by rw [← hpre, if_neg hle, List.append_assoc]
                have r0 := cell_of_block (o := 0) H9B.out rfl
                have r1 := cell_of_block (o := 1) H9B.out rfl
                have hJX : J pre W9 := hJA pre _ _ hJp HB9.out
                have hem : decide (clampI (To) ≤ clampI (mxS L[k].1 F)) = false := decide_eq_false (by unfold clampI; omega)
                gi_wp2_with (refine ⟨trivial, ?_⟩; gi_at_call 50; refine (callsIn_wide.2 (empty_any _ _ _)).mono ?_; rintro e W1 ⟨rfl, hbE⟩; rw [hem]; have hJ1 := hJA pre _ _ hJX hbE; have hBE := below_next (HB9.out) hbE; have y1 := (hbE.block _ (Array.getElem?_eq_some_iff.1 H9B.out).1).trans H9B.out; have s0 := cell_of_block (o := 0) y1 rfl; have s1 := cell_of_block (o := 1) y1 rfl; obtain ⟨fn, tmps, assign, body, hy, hR⟩ := hY pre (mxS L[k].1 F, To) W1 hJ1 (by omega); dsimp only at hy)
                refine hR.mono ?_
                rintro e W3 (⟨rfl, hJ3, hk3⟩ | ⟨rfl, hJx3⟩)
                · gi_wp2
                  exact ⟨⟨j + 1, _, by omega, rfl, heq, by rw [List.length_append, List.length_singleton]; omega, hJ3, (hB.trans (Mid.of (hBE.mono hsz))).trans hk3⟩, by show L.length + 1 - ((j : Int) + 1).toNat < L.length + 1 - ((k : Int)).toNat; omega⟩
                · gi_wp2
                  unfold Exit.noGoto
                  dsimp only
                  refine bodyPost_ret (results_none rfl _ _ _) rfl ?_
                  exact ⟨⟨_, rfl⟩, .inr ⟨_, ⟨_, heq⟩, hJx3⟩⟩
end Go.Proofs.YtddoknkmmchkmaaDoor
namespace Go.Proofs.YtddoknkmmchkmaaDoor
set_option linter.unusedVariables false
open Go.RowKit Go.Shelf
attribute [local go_sem high] run_mxS
attribute [local go_sem] Oper.semAt_some
attribute [local go_sem ↓] comesTo_value_eq comesTo_skip_eq comesTo_enter_eq

end Go.Proofs.YtddoknkmmchkmaaDoor
namespace Go.Proofs.YtddoknkmmchkmaaDoor
set_option linter.unusedVariables false
open Go.ChangeShapes Go.WideShapes Go.ChangeAt Go.RowKit
attribute [local go_sem ↓] Go.wp_at_zero Go.wp_at_succ comesTo_value_eq comesTo_skip_eq comesTo_enter_eq

theorem info_spanF : (Tryd.prog.info? 38).map (fun i => (i.zero, i.size, i.bytes)) = some (some (.agg #[.int .i64 0, .int .i64 0]), 2, 16) := by kernel_rfl
/-- spans as cells -/
def flatF : List (Int × Int) → List Value
  | [] => []
  | p :: r => .int .i64 p.1 :: .int .i64 p.2 :: flatF r
theorem flatF_length : ∀ l, (flatF l).length = l.length * 2
  | [] => rfl
  | p :: r => by simp [flatF, flatF_length r]; omega
theorem flatF_append : ∀ l m, flatF (l ++ m) = flatF l ++ flatF m
  | [], _ => rfl
  | p :: r, m => by simp [flatF, flatF_append r m]
theorem flatF_get0 : ∀ (l : List (Int × Int)) (k : Nat), k < l.length → (flatF l)[k * 2]? = some (.int .i64 (l.getD k (0, 0)).1)
  | p :: r, 0, _ => by simp [flatF]
  | p :: r, k + 1, h => by
    have := flatF_get0 r k (by simpa using h)
    rw [show (k + 1) * 2 = k * 2 + 1 + 1 by omega]
    simpa [flatF] using this
theorem flatF_get1 : ∀ (l : List (Int × Int)) (k : Nat), k < l.length → (flatF l)[k * 2 + 1]? = some (.int .i64 (l.getD k (0, 0)).2)
  | p :: r, 0, _ => by simp [flatF]
  | p :: r, k + 1, h => by
    have := flatF_get1 r k (by simpa using h)
    rw [show (k + 1) * 2 + 1 = k * 2 + 1 + 1 + 1 by omega]
    simpa [flatF] using this
/-- a row of spans of the call's own, from block B on -/
def OwnF (w : World) (B : Nat) (v : Value) (l : List (Int × Int)) : Prop := w.ownsRow B 38 2 v l.length (flatF l)
theorem OwnF.keep {w w' : World} {B : Nat} {v : Value} {l : List (Int × Int)} (h : OwnF w B v l) (hb : ∀ k, B ≤ k → k < w.heap.size → w'.heap[k]? = w.heap[k]?) : OwnF w' B v l := by
  refine ⟨h.1, ?_⟩
  rcases h.2 with hn | ⟨g, cap, cur, hv, hB, hg, rest⟩
  · exact .inl hn
  · refine .inr ⟨g, cap, cur, hv, hB, ?_, rest⟩
    rw [hb g hB (Array.getElem?_eq_some_iff.1 hg).1]; exact hg
theorem OwnF.below {w w' : World} {B : Nat} {v : Value} {l : List (Int × Int)} (h : OwnF w B v l) (hb : Below w.heap.size w w') : OwnF w' B v l := h.keep fun k _ hk => hb.block k hk
theorem OwnF.base {w : World} {B B' : Nat} {v : Value} {l : List (Int × Int)} (h : OwnF w B v l) (hB : B' ≤ B) : OwnF w B' v l := by
  refine ⟨h.1, ?_⟩
  rcases h.2 with hn | ⟨g, cap, cur, hv, h1, hg, rest⟩
  · exact .inl hn
  · exact .inr ⟨g, cap, cur, hv, by omega, hg, rest⟩
theorem OwnF.nil {w : World} {B : Nat} : OwnF w B (.slice none 0 0) [] := ⟨rfl, .inl ⟨rfl, rfl⟩⟩
theorem OwnF.form {w : World} {B : Nat} {v : Value} {l : List (Int × Int)} (h : OwnF w B v l) : (l = [] ∧ v = .slice none 0 0) ∨ ∃ g c, v = .slice (some ⟨g, 0, none⟩) l.length c ∧ B ≤ g ∧ ∀ k, k < l.length → w.cell? ⟨g, k * 2, none⟩ = some (.int .i64 (l.getD k (0, 0)).1) ∧ w.cell? ⟨g, k * 2 + 1, none⟩ = some (.int .i64 (l.getD k (0, 0)).2) := by
  rcases h.2 with ⟨e, hl⟩ | ⟨g, cap, cur, e, hg, hc, rest⟩
  · refine .inl ⟨?_, e⟩
    exact List.length_eq_zero_iff.1 hl
  · refine .inr ⟨g, cap, e, hg, fun k hk => ?_⟩
    have hcl := World.ownsRow.cells (g := g) h (by rw [e]; rfl)
    have e0 := hcl _ _ (flatF_get0 l k hk)
    have e1 := hcl _ _ (flatF_get1 l k hk)
    have hadd : ∀ j, (⟨g, 0, none⟩ : Addr).add j = ⟨g, j, none⟩ := fun j => by unfold Addr.add; split <;> simp_all
    rw [hadd] at e0 e1
    exact ⟨e0, e1⟩
section
variable {ops : Array Oper} {rest : List Oper} {o : Oper} {a : Act} {w : World} {Q : Exit → Act → World → Prop}
end
theorem clampI_le (t : Int) : 0 ≤ clampI t ∧ clampI t ≤ 1099511627776 := by unfold clampI; omega
theorem maxU_le (t : Int) : 1 ≤ maxU (clampI t) 1 ∧ maxU (clampI t) 1 ≤ 1099511627776 := by have := clampI_le t; unfold maxU; split <;> omega
end Go.Proofs.YtddoknkmmchkmaaDoor
namespace Go.Proofs.YtddoknkmmchkmaaDoor
set_option linter.unusedVariables false
open Go.RowKit Go.Shelf
attribute [local go_sem] Oper.semAt_some
attribute [local go_sem ↓] comesTo_value_eq comesTo_skip_eq comesTo_enter_eq

/-- the contract of the iterator, as the laws of ranges ask it -/
theorem starts1_seq (n : Nat) (hn : 1 ≤ n) (n₁ n₀ : Nat) (L : List (Int × Int)) (F m W : Int) (b0 b1 b2 b3 g c : Nat) (hlen : L.length ≤ 1099511627776) (hL : RightU L) (hm : 1 ≤ m ∧ m ≤ 1099511627776) (hF : 0 ≤ F ∧ F ≤ 1099511627776)
    (V : World) (hb : (n₁ ≤ b0 ∧ b0 < n₀) ∧ (n₁ ≤ b1 ∧ b1 < n₀) ∧ (n₁ ≤ b2 ∧ b2 < n₀) ∧ (n₁ ≤ b3 ∧ b3 < n₀) ∧ (n₁ ≤ g ∧ g < n₀)) (hn₀ : n₀ ≤ V.heap.size)
    (h0 : V.cell? ⟨b0, 0, none⟩ = some (.slice (some ⟨g, 0, none⟩) L.length c)) (h1 : V.cell? ⟨b1, 0, none⟩ = some (.int .i64 W)) (h2 : V.cell? ⟨b2, 0, none⟩ = some (.int .i64 F)) (h3 : V.cell? ⟨b3, 0, none⟩ = some (.int .i64 m)) (hr : URow V g L) :
    SeqStopsK Fence.wide n Tryd.prog 74 #[.pointer (some ⟨b0, 0, none⟩), .pointer (some ⟨b1, 0, none⟩), .pointer (some ⟨b2, 0, none⟩), .pointer (some ⟨b3, 0, none⟩)] (fun x : Int × Int => #[.agg #[.int .i64 x.1, .int .i64 x.2]]) (Mid n₁ n₀) (fun ys => ys = startsU L F m W) (fun pre => pre <+: startsU L F m W) L.length V := by
  intro l J Jx V' hV hJ hJx hY hJ0
  refine starts1_in n hn l n₁ n₀ L F m W b0 b1 b2 b3 g c hlen hL hm hF J Jx hY (fun pre A B hj hb => hJ pre A B none hj ⟨hb.os, hb.tape, hb.output, hb.size, fun k hk _ => hb.block k hk⟩ (fun r e => by cases e)) V' hb (Nat.le_trans hn₀ hV.size)
    ((hV.cell (p := ⟨b0, 0, none⟩) (World.block_lt_of_cell? V _ h0)).trans h0) ((hV.cell (p := ⟨b1, 0, none⟩) (World.block_lt_of_cell? V _ h1)).trans h1) ((hV.cell (p := ⟨b2, 0, none⟩) (World.block_lt_of_cell? V _ h2)).trans h2) ((hV.cell (p := ⟨b3, 0, none⟩) (World.block_lt_of_cell? V _ h3)).trans h3) (hr.mono (hV.block g ?_)) hJ0
  have := hb.2.2.2.2.2
  omega
theorem cellsAt_own {β : Type} (b : Nat) (cs : Array Value) (T : TypeId) : ∀ (_ : β) (W W' : World) (row : Option Nat), W.heap[b]? = some (.cells cs T (0, 0)) → W.grownBy W' row → (∀ r, row = some r → ∃ o : Obj, W.heap[r]? = some o ∧ o.isCells = false) → W'.heap[b]? = some (.cells cs T (0, 0)) := by
  intro _ W W' row h hg hr
  refine (hg.block b (Array.getElem?_eq_some_iff.1 h).1 (fun e => ?_)).trans h
  obtain ⟨o, ho, hc⟩ := hr b e.symm
  rw [h] at ho
  cases ho
  cases hc
set_option maxRecDepth 100000 in
set_option maxHeartbeats 4000000 in
theorem earliest_any {w : World} {v : Value} {L : List (Int × Int)} (from_ many W : Int) (hR : RightU L) (hlen : L.length ≤ 1099511627776)
    (hL : ∀ X, Below w.heap.size w X → Calls Tryd.prog 73 #[v] X fun e w' => ∃ g c, e = .returned (.slice (some ⟨g, 0, none⟩) L.length c) ∧ X.heap.size ≤ g ∧ g < w'.heap.size ∧ L.length ≤ c ∧ URow w' g L ∧ Below X.heap.size X w') :
    Calls Tryd.prog 44 #[v, .int .i64 from_, .int .i64 many, .int .i64 W] w fun e w' => e = .returned (.int .i64 (firstU (startsU L (clampI from_) (maxU (clampI many) 1) W))) ∧ Below w.heap.size w w' := by
  have hb1 := below_alloc (Below.refl _ w) (.cells #[.int .i64 0] 36)
  have KS := Lib.hid (starts_any (w := w.alloc (.cells #[.int .i64 0] 36)) (v := v) (L := L) from_ many W (fun X hb => hL X (below_next hb1 hb)))
  have bX := Boxed.new w 36 (.int .i64 0)
  have hF := clampI_le from_
  have hm := maxU_le many
  generalize clampI from_ = F at *
  generalize maxU (clampI many) 1 = m at *
  refine (callsIn_wide (n := 3)).1 ?_
  refine callsIn_of_wp_marks Tryd.func44 rfl trivial ?_ rfl
  simp only [Tryd.ntmps44, List.size_toArray, List.length_cons, List.length_nil, Nat.reduceAdd, Nat.reduceSub, Array.replicate_succ, Array.replicate_zero, List.push_toArray, List.append_toArray, List.nil_append, List.cons_append]
  have z1 : (w.alloc (.cells #[.int .i64 0] 36)).heap.size = w.heap.size + 1 := by simp
  generalize hW1 : w.alloc (.cells #[.int .i64 0] 36) = W1 at *
  gi_wp2
  refine ⟨trivial, (callsIn_wide.2 KS.out).mono ?_⟩
  rintro e W2 ⟨lb, rfl, hAt, hb2⟩
  obtain ⟨b0, b1, b2, b3, g, c, rfl, q0, q1, q2, q3, q4, hg, k0, k1, k2, k3, hrow, hcap⟩ := hAt.at_
  have l0 := (Array.getElem?_eq_some_iff.1 k0).1
  have l1 := (Array.getElem?_eq_some_iff.1 k1).1
  have l2 := (Array.getElem?_eq_some_iff.1 k2).1
  have l3 := (Array.getElem?_eq_some_iff.1 k3).1
  have hs2 := hb2.size
  have hB2 : Below w.heap.size w W2 := below_next hb1 hb2
  have bX2 : Boxed W2 w.heap.size 36 (.int .i64 0) := (hb2.block _ (by omega)).trans bX
  clear hAt KS
  gi_wp2
  refine wpIn_rangeFunc_ownH rfl (by omega) (gf := 74) (lb := #[.pointer (some ⟨b0, 0, none⟩), .pointer (some ⟨b1, 0, none⟩), .pointer (some ⟨b2, 0, none⟩), .pointer (some ⟨b3, 0, none⟩)]) rfl trivial (enters_of Tryd.func74 (by kernel_rfl) rfl)
    (starts1_seq _ (by omega) W1.heap.size W2.heap.size L F m W b0 b1 b2 b3 g c hlen hR hm hF W2 ⟨⟨q0, l0⟩, ⟨q1, l1⟩, ⟨q2, l2⟩, ⟨q3, l3⟩, ⟨q4, hg⟩⟩ (Nat.le_refl _) (cell_of_block (o := 0) k0 rfl) (cell_of_block (o := 0) k1 rfl) (cell_of_block (o := 0) k2 rfl) (cell_of_block (o := 0) k3 rfl) hrow)
    (fun h k => Mid.trans h k) (mid_b (Nat.le_refl _)) (Below.refl _ _) (fun _ => rfl)
    (fun (pre : List (Int × Int)) X => (pre = [] ∧ W2.heap.size ≤ X.heap.size ∧ Boxed X w.heap.size 36 (.int .i64 0)) ∧ Below w.heap.size w X)
    (fun cc (pre : List (Int × Int)) X => (cc = .ret ∧ ∃ x, pre = [x] ∧ Boxed X w.heap.size 36 (.int .i64 x.1)) ∧ Below w.heap.size w X)
    (OwnFrom.and (Own.from (fun s' X Y row hs' hg hr => ⟨hs'.1, Nat.le_trans hs'.2.1 hg.size, boxed_own w.heap.size 36 (fun _ : List (Int × Int) => .int .i64 0) s' X Y row hs'.2.2 hg hr⟩) _) (ownFrom_below (Nat.le_refl _) hB2.size))
    (fun cc => OwnFrom.and (Own.from (fun s' X Y row hs' hg hr => by
      obtain ⟨hc, x, hx, hbx⟩ := hs'
      exact ⟨hc, x, hx, boxed_own w.heap.size 36 (fun _ : List (Int × Int) => .int .i64 x.1) s' X Y row hbx hg hr⟩) _) (ownFrom_below (Nat.le_refl _) hB2.size))
    ⟨⟨rfl, Nat.le_refl _, bX2⟩, hB2⟩
    (fun x a' X => ∃ Bx, X.heap[Bx]? = some (.cells #[.int .i64 x.1, .int .i64 x.2] 38 (0, 0)) ∧ a' = { tmps := #[v, .int .i64 from_, .int .i64 many, .int .i64 W, undef, undef, undef, undef, .pointer (some ⟨w.heap.size, 0, none⟩), .pointer (some ⟨Bx, 0, none⟩), v, .int .i64 from_, .int .i64 many, .int .i64 W, .func (.func 74) #[] #[.pointer (some ⟨b0, 0, none⟩), .pointer (some ⟨b1, 0, none⟩), .pointer (some ⟨b2, 0, none⟩), .pointer (some ⟨b3, 0, none⟩)], .agg #[.int .i64 x.1, .int .i64 x.2], undef, undef], defers := [] })
    (fun x a' _ X Y row hs hg hr => by obtain ⟨Bx, h2, h3⟩ := hs; exact ⟨Bx, cellsAt_own Bx _ _ () X Y row h2 hg (fun r e => (hr r e).2), h3⟩)
    ?assign ?body ?done ?stop
  case assign =>
    rintro l pre x X K ⟨⟨rfl, hsX, hbX⟩, hBX⟩ hK
    gi_wp2
    exact hK _ _ ((KeepsOthers.alloc _ _).from _) (Mid.of ((Below.refl _ X).alloc hsX _)) ⟨⟨by first | rfl | trivial, by simp; omega, hbX.alloc _⟩, hBX.alloc hBX.size _⟩ ⟨X.heap.size, World.alloc_heap_new X _, rfl⟩
  case body =>
    rintro l pre x a' X hl _ ⟨⟨rfl, hsX, hbX⟩, hBX⟩ ⟨Bx, bX, rfl⟩ hltX
    have hcX := hbX.cell
    have hfX := hbX.frozen
    have x0 := cell_of_block (o := 0) bX rfl
    gi_wp2
    exact ⟨(KeepsOthers.setCell _ _ _).from _, ⟨rfl, x, rfl, hbX.set _⟩, hBX.setCell (p := ⟨w.heap.size, 0, none⟩) (Nat.le_refl _) _⟩
  case done =>
    rintro D ys X hD hys ⟨⟨rfl, hsX, hbX⟩, hBX⟩ hK
    have hcX := hbX.cell
    have hfX := hbX.frozen
    gi_wp2
    have hK' := (KeepsOthers.setCell X ⟨w.heap.size, 0, none⟩ (.int .i64 1099511627776)).same D _ hK rfl
    refine ⟨by simp, .inl ⟨_, _, rfl, run_takeDeferred hK', ?_⟩⟩
    have hc5 := cell_kept (hbX.set (.int .i64 1099511627776)).cell (grownBy_putObj' _ D (.deferred none)) (fun r e => by cases e; exact ⟨_, hK', rfl⟩)
    refine ⟨.int .i64 1099511627776, ?_, by rw [← hys]; rfl, (hBX.setCell (p := ⟨w.heap.size, 0, none⟩) (Nat.le_refl _) _).trans (belowK_b (w := w) (Nat.le_refl _) _ D _ _ (Nat.le_trans hB2.size hD) hK' rfl rfl)⟩
    simp [results, Tryd.f44, go_sem, hc5]
  case stop =>
    rintro D cc pre X hD hSp ⟨⟨rfl, x, rfl, hbX⟩, hBX⟩ hK
    gi_wp2
    refine ⟨by simp, .inl ⟨_, _, rfl, run_takeDeferred hK, ?_⟩⟩
    have hc5 := cell_kept hbX.cell (grownBy_putObj' _ D (.deferred none)) (fun r e => by cases e; exact ⟨_, hK, rfl⟩)
    obtain ⟨t, ht⟩ := hSp
    refine ⟨.int .i64 x.1, ?_, by rw [← ht]; rfl, hBX.trans (belowK_b (w := w) (Nat.le_refl _) X D _ _ (Nat.le_trans hB2.size hD) hK rfl rfl)⟩
    simp [results, Tryd.f44, go_sem, hc5]
end Go.Proofs.YtddoknkmmchkmaaDoor
namespace Go.Proofs.YtddoknkmmchkmaaDoor
set_option linter.unusedVariables false
open Go.ChangeShapes Go.WideShapes Go.ChangeAt Go.RowKit
attribute [local go_sem ↓] Go.wp_at_zero Go.wp_at_succ comesTo_value_eq comesTo_skip_eq comesTo_enter_eq

theorem new_rs (w : World) : Calls Tryd.prog 10 #[] w fun e w' => e = .returned (.pointer (some ⟨w.heap.size, 0, none⟩)) ∧ Rs w' w.heap.size w.heap.size [] 1 ∧ Below w.heap.size w w' := by
  have hb := below_alloc (Below.refl _ w) (.cells #[.slice none 0 0, .int .i64 1] 53)
  have hN := World.alloc_heap_new w (.cells #[.slice none 0 0, .int .i64 1] 53)
  have HR := Lib.hid (show Rs (w.alloc (.cells #[.slice none 0 0, .int .i64 1] 53)) w.heap.size w.heap.size [] 1 from ⟨⟨_, hN, OwnR.nil, fun e => by cases e⟩, by decide, by decide⟩)
  have HB := Lib.hid hb
  clear hb hN
  go_enter Tryd.func10, Tryd.ntmps10
  go_wp2_with fail
  go_ret
  exact ⟨rfl, HR.out, HB.out⟩
theorem next_rs {w : World} {B F : Nat} {l : List RV} {n : Int} (h : Rs w B F l n) : Calls Tryd.prog 16 #[.pointer (some ⟨F, 0, none⟩)] w fun e w' => e = .returned (.int .i64 n) ∧ w = w' := by
  have K := Lib.hid (there_rs h)
  obtain ⟨v, h1, _, _⟩ := h.at_
  have c1 : w.cell? ⟨F, 1, none⟩ = some (.int .i64 n) := cell_of_block (o := 1) h1 rfl
  clear h h1
  go_enter Tryd.func16, Tryd.ntmps16
  go_wp2_with fail
  refine K.out.mono ?_
  rintro e w' ⟨rfl, rfl⟩
  go_wp2_with fail
  go_ret
  exact ⟨rfl, rfl⟩
set_option maxRecDepth 100000 in
set_option maxHeartbeats 1000000 in
theorem cloneR_any {w : World} {v : Value} {l : List RV} (h : RdR w v l) (hl : l.length ≤ 8) :
    Calls Tryd.prog 41 #[v] w fun e w' => ∃ v', e = .returned v' ∧ OwnR w' w.heap.size v' l ∧ Below w.heap.size w w' := by
  obtain ⟨ad, c, hv, hc, hz, hr⟩ := id h
  have hn : (ad = none ∧ l = []) ∨ ∃ a, ad = some a := by
    cases ad with
    | none => exact .inl ⟨rfl, List.eq_nil_of_length_eq_zero (by have := hz rfl; omega)⟩
    | some a => exact .inr ⟨a, rfl⟩
  have hq : ∀ (W : World) (a : Option Addr) (n c : Nat), Sem.run Tryd.prog (binOp .eql 49 (.slice a n c) (.slice none 0 0)) W = .ok (.bool a.isNone) W := fun W a n c => Lib.run_eql_slice_nil W 49 64 a n c 0 0 Tryd.underlying49
  rcases hn with ⟨rfl, rfl⟩ | ⟨a, rfl⟩
  · obtain rfl : c = 0 := hz rfl
    subst hv
    clear h hr
    show Calls Tryd.prog 41 #[.slice none 0 0] w _
    go_enter Tryd.func41, Tryd.ntmps41
    go_wp2_with fail
    go_ret
    exact ⟨_, rfl, OwnR.nil, Below.refl _ _⟩
  · subst hv
    have H := Lib.hid h
    clear h hr hz hc
    have hq2 := fun W => hq W (some a) l.length c
    clear hq
    go_enter Tryd.func41, Tryd.ntmps41
    go_upto_region 3 with fail
    clear hq2
    refine wp_region_lit ?_
    refine wpList_yield (w' := w.alloc (.cells #[] 64)) (v := .slice (some ⟨w.heap.size, 0, none⟩) 0 0) rfl (by first | (go_simp; done) | (go_simp; rfl)) ?_
    have hb := below_alloc (Below.refl _ w) (.cells #[] 64)
    have hO := Ap.own_made w 64 (size := 4) (Nat.le_refl w.heap.size)
    have hr1 := (H.out.below hb).rdG
    obtain ⟨v', w', g0, g1, g2, g3⟩ := Ap.run_app eltR 49 w.heap.size _ 0 [] hO _ l.length (flatR l) hr1 (by unfold maxLen; omega) (by omega) hb.size
    rw [Nat.zero_add, List.nil_append] at g1
    have HO := Lib.hid (show OwnR w' w.heap.size v' l from g1)
    have HB := Lib.hid (hb.trans g3)
    refine wpList_yield (w' := w.alloc (.cells #[] 64)) (v := .slice (some a) l.length c) rfl (by first | (go_simp; done) | (go_simp; rfl)) ?_
    obtain ⟨a4, c4, hf4⟩ := HO.out.form
    subst hf4
    refine wpList_yield (w' := w') (v := .slice a4 l.length c4) rfl (Ap.exec_app rfl (by go_simp) (by go_simp) g0) ?_
    clear g0 g1 g2 g3 hb hO hr1
    go_wp2_with fail
    go_ret
    exact ⟨_, rfl, HO.out, HB.out⟩
theorem all_rs {w : World} {B F : Nat} {l : List RV} {n : Int} (h : Rs w B F l n) : Calls Tryd.prog 15 #[.pointer (some ⟨F, 0, none⟩)] w fun e w' => ∃ v', e = .returned v' ∧ OwnR w' w.heap.size v' l ∧ Below w.heap.size w w' := by
  have K := Lib.hid (there_rs h)
  have hl := h.len
  obtain ⟨v, h1, h2, _⟩ := h.at_
  have KC := Lib.hid (cloneR_any h2.rd hl)
  obtain ⟨ad, c, rfl⟩ := h2.form
  have c0 : w.cell? ⟨F, 0, none⟩ = some (.slice ad l.length c) := cell_of_block (o := 0) h1 rfl
  clear h h1 h2
  go_enter Tryd.func15, Tryd.ntmps15
  go_wp2_with fail
  refine K.out.mono ?_
  rintro e w' ⟨rfl, rfl⟩
  go_wp2_with fail
  refine KC.out.mono ?_
  rintro e w' ⟨v', rfl, ho, hb⟩
  have HO := Lib.hid ho
  have HB := Lib.hid hb
  obtain ⟨a4, c4, rfl⟩ := ho.form
  clear ho hb
  go_wp2_with fail
  go_ret
  exact ⟨_, rfl, HO.out, HB.out⟩
set_option maxRecDepth 100000 in
set_option maxHeartbeats 4000000 in
theorem clone_rs {w : World} {B F : Nat} {l : List RV} {n : Int} (h : Rs w B F l n) : Calls Tryd.prog 13 #[.pointer (some ⟨F, 0, none⟩)] w fun e w' => ∃ F', e = .returned (.pointer (some ⟨F', 0, none⟩)) ∧ w.heap.size ≤ F' ∧ Rs w' w.heap.size F' l n ∧ Below w.heap.size w w' := by
  have hmx : Tryd.prog.follows .mixedOrders = true := by kernel_rfl
  have K := Lib.hid (there_rs h)
  have HP := Lib.hid h.pos
  have HL := Lib.hid h.len
  obtain ⟨v, h1, h2, _⟩ := h.at_
  have KC := Lib.hid (fun X (hX : Below w.heap.size w X) => cloneR_any (h2.below hX).rd HL.out)
  obtain ⟨ad, c, rfl⟩ := h2.form
  have HF := Lib.hid h1
  clear h h1 h2
  go_enter Tryd.func13, Tryd.ntmps13
  go_wp2_with fail
  refine K.out.mono ?_
  rintro e w' ⟨rfl, rfl⟩
  go_upto_region 3 with fail
  refine wp_region_held (S := fun X => X.cell? ⟨F, 0, none⟩ = some (.slice ad l.length c) ∧ X.cell? ⟨F, 1, none⟩ = some (.int .i64 n)) hmx ?_
  have HB0 := Lib.hid (show Below w.heap.size w w.drew from (Below.refl _ _).drew)
  have HF0 := Lib.hid (show w.drew.heap[F]? = _ from HF.out)
  have hZ : w.drew.heap.size = w.heap.size := rfl
  have HZ := Lib.hid hZ
  change wpAnyH _ _ _ _ _ 12 _ _ w.drew
  generalize w.drew = W0 at *
  clear hZ
  have hS : W0.cell? ⟨F, 0, none⟩ = some (.slice ad l.length c) ∧ W0.cell? ⟨F, 1, none⟩ = some (.int .i64 n) := ⟨cell_of_block (o := 0) HF0.out rfl, cell_of_block (o := 1) HF0.out rfl⟩
  (refine wpAnyH_take (i := 0) (v := .pointer (some ⟨F, 0, none⟩)) rfl (by decide +kernel) (by decide +kernel) (by decide +kernel) (fun _ _ _ h => h) (.inl ⟨by first | rfl | (go_simp; done), fun X hX => by obtain ⟨hx0, hx1⟩ := hX; first | (go_simp; done) | (go_simp; rfl)⟩) hS ?_)
  (refine wpAnyH_take (i := 1) (v := .pointer (some ⟨F, 0, none⟩)) rfl (by decide +kernel) (by decide +kernel) (by decide +kernel) (fun _ _ _ h => h) (.inl ⟨by first | rfl | (go_simp; done), fun X hX => by obtain ⟨hx0, hx1⟩ := hX; first | (go_simp; done) | (go_simp; rfl)⟩) hS ?_)
  (refine wpAnyH_take (i := 2) (v := .pointer (some ⟨F, 0, none⟩)) rfl (by decide +kernel) (by decide +kernel) (by decide +kernel) (fun _ _ _ h => h) (.inl ⟨by first | rfl | (go_simp; done), fun X hX => by obtain ⟨hx0, hx1⟩ := hX; first | (go_simp; done) | (go_simp; rfl)⟩) hS ?_)
  (refine wpAnyH_take (i := 3) (v := .slice ad l.length c) rfl (by decide +kernel) (by decide +kernel) (by decide +kernel) (fun _ _ _ h => h) (.inl ⟨by first | rfl | (go_simp; done), fun X hX => by obtain ⟨hx0, hx1⟩ := hX; first | (go_simp; done) | (go_simp; rfl)⟩) hS ?_)
  (refine wpAnyH_take (i := 5) (v := .pointer (some ⟨F, 0, none⟩)) rfl (by decide +kernel) (by decide +kernel) (by decide +kernel) (fun _ _ _ h => h) (.inl ⟨by first | rfl | (go_simp; done), fun X hX => by obtain ⟨hx0, hx1⟩ := hX; first | (go_simp; done) | (go_simp; rfl)⟩) hS ?_)
  (refine wpAnyH_take (i := 6) (v := .pointer (some ⟨F, 0, none⟩)) rfl (by decide +kernel) (by decide +kernel) (by decide +kernel) (fun _ _ _ h => h) (.inl ⟨by first | rfl | (go_simp; done), fun X hX => by obtain ⟨hx0, hx1⟩ := hX; first | (go_simp; done) | (go_simp; rfl)⟩) hS ?_)
  (refine wpAnyH_take (i := 7) (v := .pointer (some ⟨F, 1, none⟩)) rfl (by decide +kernel) (by decide +kernel) (by decide +kernel) (fun _ _ _ h => h) (.inl ⟨by first | rfl | (go_simp; done), fun X hX => by obtain ⟨hx0, hx1⟩ := hX; first | (go_simp; done) | (go_simp; rfl)⟩) hS ?_)
  (refine wpAnyH_take (i := 8) (v := .int .i64 n) rfl (by decide +kernel) (by decide +kernel) (by decide +kernel) (fun _ _ _ h => h) (.inl ⟨by first | rfl | (go_simp; done), fun X hX => by obtain ⟨hx0, hx1⟩ := hX; first | (go_simp; done) | (go_simp; rfl)⟩) hS ?_)
  clear hS
  refine anyH_one (i := 4) (by decide +kernel) ?_
  refine opH_call (i := 4) rfl (by first | rfl | (go_simp; done)) (by go_simp) (KC.out W0 HB0.out) ?_
  rintro e W1 ⟨v', rfl, ho, hb⟩
  have HO := Lib.hid ho
  obtain ⟨a4, c4, rfl⟩ := ho.form
  have HF1 := Lib.hid ((hb.block _ (Array.getElem?_eq_some_iff.1 HF0.out).1).trans HF0.out)
  have HB1 := Lib.hid (below_next HB0.out hb)
  have HZ1 := Lib.hid hb.size
  clear ho hb
  have hS : W1.cell? ⟨F, 0, none⟩ = some (.slice ad l.length c) ∧ W1.cell? ⟨F, 1, none⟩ = some (.int .i64 n) := ⟨cell_of_block (o := 0) HF1.out rfl, cell_of_block (o := 1) HF1.out rfl⟩
  refine ⟨_, rfl, hS, ?_⟩
  (refine wpAnyH_take (i := 9) (v := .agg #[.slice a4 l.length c4, .int .i64 n]) rfl (by decide +kernel) (by decide +kernel) (by decide +kernel) (fun _ _ _ h => h) (.inl ⟨by first | rfl | (go_simp; done), fun X hX => by obtain ⟨hx0, hx1⟩ := hX; first | (go_simp; done) | (go_simp; rfl)⟩) hS ?_)
  clear hS
  refine anyH_one (i := 10) (by decide +kernel) ?_
  refine opH_val (i := 10) (v := .pointer (some ⟨W1.heap.size, 0, none⟩)) (w' := W1.alloc (.cells #[.slice a4 l.length c4, .int .i64 n] 53)) rfl (by first | rfl | (go_simp; done)) (by first | (go_simp; done) | (go_simp; rfl)) ?_
  have hb2 := below_alloc (Below.refl _ W1) (.cells #[.slice a4 l.length c4, .int .i64 n] 53)
  have HF2 := Lib.hid ((hb2.block _ (Array.getElem?_eq_some_iff.1 HF1.out).1).trans HF1.out)
  have HB2 := Lib.hid (below_next HB1.out hb2)
  have HRS := Lib.hid (show Rs (W1.alloc (.cells #[.slice a4 l.length c4, .int .i64 n] 53)) w.heap.size W1.heap.size l n from
    ⟨⟨_, World.alloc_heap_new W1 _, (HO.out.base (by rw [HZ.out]; exact Nat.le_refl _)).below hb2, fun e => by have := Ap.own_lt HO.out _ e; omega⟩, HP.out, HL.out⟩)
  have HGE := Lib.hid (show w.heap.size ≤ W1.heap.size from HB1.out.size)
  clear hb2
  generalize W1.alloc (.cells #[.slice a4 l.length c4, .int .i64 n] 53) = W2 at *
  have hS : W2.cell? ⟨F, 0, none⟩ = some (.slice ad l.length c) ∧ W2.cell? ⟨F, 1, none⟩ = some (.int .i64 n) := ⟨cell_of_block (o := 0) HF2.out rfl, cell_of_block (o := 1) HF2.out rfl⟩
  refine ⟨hS, ?_⟩
  (refine wpAnyH_take (i := 11) (v := .pointer (some ⟨W1.heap.size, 0, none⟩)) rfl (by decide +kernel) (by decide +kernel) (by decide +kernel) (fun _ _ _ h => h) (.inl ⟨by first | rfl | (go_simp; done), fun X hX => by obtain ⟨hx0, hx1⟩ := hX; first | (go_simp; done) | (go_simp; rfl)⟩) hS ?_)
  refine wpAnyH_done (by decide +kernel) ?_ _
  clear hS
  go_simp
  go_wp2_with fail
  go_ret
  exact ⟨_, rfl, HGE.out, HRS.out, HB2.out⟩
/-- what Find comes to -/
def findR (L : List (Int × Int)) (l : List RV) (f m W : Int) : Int × Int := if m < 1 ∨ ¬ (1 ≤ W ∧ W ≤ 64) then (0, 2) else (firstU (startsU (lowerU L l) (clampI f) (maxU (clampI m) 1) W), 0)
set_option maxRecDepth 100000 in
set_option maxHeartbeats 4000000 in
theorem find_rs {w : World} {B F S : Nat} {l : List RV} {n : Int} {L : List (Int × Int)} (h : Rs w B F l n) (hu : USt w S L) (hR : RightU L) (hL : L.length * 6561 ≤ 1099511627776) (f m W : Int) :
    Calls Tryd.prog 17 #[.pointer (some ⟨F, 0, none⟩), .pointer (some ⟨S, 0, none⟩), .int .i64 f, .int .i64 m, .int .i64 W] w fun e w' => e = .returned (.tuple #[.int .i64 (findR L l f m W).1, .int .i64 (findR L l f m W).2]) ∧ Below w.heap.size w w' := by
  have KT := Lib.hid (there_rs h)
  have KM := Lib.hid (made_u hu)
  have KW := Lib.hid (fun X => widthR W X)
  have HRS := Lib.hid h
  have HU := Lib.hid hu
  have HR := Lib.hid hR
  have HL := Lib.hid hL
  obtain ⟨res, hres⟩ : ∃ r, r = findR L l f m W := ⟨_, rfl⟩
  rw [← hres]
  have HRES := Lib.hid (show res = if m < 1 ∨ ¬ (1 ≤ W ∧ W ≤ 64) then (0, 2) else (firstU (startsU (lowerU L l) (clampI f) (maxU (clampI m) 1) W), 0) from hres)
  clear h hu hR hL hres
  obtain ⟨r1, r2⟩ := res
  dsimp only
  go_enter Tryd.func17, Tryd.ntmps17
  go_wp2_with fail
  refine KT.out.mono ?_
  rintro e w' ⟨rfl, rfl⟩
  go_wp2_with fail
  refine KM.out.mono ?_
  rintro e W1 ⟨rfl, hb⟩
  have HB1 := Lib.hid hb
  clear hb KT KM
  by_cases hm : m < 1
  case pos =>
    have d1 : decide (m < 1) = true := decide_eq_true hm
    have HE := Lib.hid (show (r1, r2) = (0, 2) by rw [HRES.out, if_pos (.inl hm)])
    go_wp2_with fail
    go_ret2
    have := HE.out
    injection this with e1 e2
    subst e1 e2
    exact ⟨rfl, HB1.out⟩
  case neg =>
  have d1 : decide (m < 1) = false := decide_eq_false hm
  have HM := Lib.hid hm
  clear hm
  go_wp2_with fail
  refine (KW.out _).mono ?_
  rintro e w' ⟨rfl, rfl⟩
  by_cases hw : 1 ≤ W ∧ W ≤ 64
  case neg =>
    have d2 : decide (1 ≤ W ∧ W ≤ 64) = false := decide_eq_false hw
    have HE := Lib.hid (show (r1, r2) = (0, 2) by rw [HRES.out, if_pos (.inr hw)])
    rw [d2]
    clear hw d2
    go_wp2_with fail
    go_ret2
    have := HE.out
    injection this with e1 e2
    subst e1 e2
    exact ⟨rfl, HB1.out⟩
  case pos =>
  have d2 : decide (1 ≤ W ∧ W ≤ 64) = true := decide_eq_true hw
  have HE := Lib.hid (show (r1, r2) = (firstU (startsU (lowerU L l) (clampI f) (maxU (clampI m) 1) W), 0) by rw [HRES.out, if_neg (by have := HM.out; intro h1; rcases h1 with h1 | h1; omega; exact h1 hw)])
  rw [d2]
  clear hw d2 HRES HM
  have KC := Lib.hid (clone_any (HU.out.below HB1.out))
  go_wp2_with fail
  refine KC.out.mono ?_
  rintro e W2 ⟨S', rfl, hS', hu', hb⟩
  have HB2 := Lib.hid (below_next HB1.out hb)
  have HS' := Lib.hid (Nat.le_trans HB1.out.size hS')
  have HU2 := Lib.hid hu'
  have HRS2 := Lib.hid (HRS.out.below HB2.out)
  clear hb hu' hS' KC d1
  obtain ⟨v, v1, v2, v3⟩ := HRS2.out.at_
  obtain ⟨ad, c, hv, _, _, hr⟩ := v2.rd
  subst hv
  have hSlt : S' < W2.heap.size := by obtain ⟨_, _, _, h2, _⟩ := HU2.out.at_; exact (Array.getElem?_eq_some_iff.1 h2).1
  have KL := Lib.hid (lower_any (c := c) HU2.out HR.out HL.out HRS2.out.len (fun k hk => by
    obtain ⟨g, h1, h2, h3⟩ := hr (by omega)
    have h4 : g < w.heap.size := by
      obtain ⟨v', u1, u2, _⟩ := HRS.out.at_
      rw [(HB2.out.block _ HRS.out.lt).trans u1] at v1
      simp only [Option.some.injEq, Obj.cells.injEq, Array.mk.injEq, List.cons.injEq, and_true, true_and] at v1
      obtain ⟨rfl, _⟩ := v1
      exact Ap.own_lt u2 g (by rw [h1]; rfl)
    exact ⟨g, h1, h2, by have := HS'.out; omega, h3⟩))
  have c0 : W2.cell? ⟨F, 0, none⟩ = some (.slice ad l.length c) := cell_of_block (o := 0) v1 rfl
  clear v1 v2 v3 hr hSlt
  go_wp2_with fail
  refine KL.out.mono ?_
  rintro e W3 ⟨rfl, hu3, hf3⟩
  have HU3 := Lib.hid hu3
  have HB3 := Lib.hid (show Below w.heap.size w W3 from HB2.out.trans (hf3.below (B := w.heap.size) HB2.out.size (fun j hj => by subst hj; exact HS'.out)))
  clear hu3 hf3 c0 KL
  have KE := Lib.hid (earliest_any (w := W3) (v := .pointer (some ⟨S', 0, none⟩)) f m W (lowerU_right HR.out l) (Nat.le_trans (lowerU_len L l) (len_bound HL.out HRS.out.len)) (fun X hX => levels_any (HU3.out.below hX)))
  generalize hfu : firstU (startsU (lowerU L l) (clampI f) (maxU (clampI m) 1) W) = fu at *
  go_wp2_with fail
  refine KE.out.mono ?_
  rintro e W4 ⟨rfl, hb⟩
  have HB4 := Lib.hid (below_next HB3.out hb)
  clear hb
  go_wp2_with fail
  go_ret2
  have := HE.out
  injection this with e1 e2
  subst e1 e2
  exact ⟨rfl, HB4.out⟩
end Go.Proofs.YtddoknkmmchkmaaDoor
