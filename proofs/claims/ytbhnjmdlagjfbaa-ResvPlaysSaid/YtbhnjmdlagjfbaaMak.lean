/- Laws that belong together: Room (layer 11): the iterator of Starts, whatever is done with its spans (DRAFT: under way).; Room (layer 11): the iterator of Starts, told the function that a law gathers its spans with. Conditions: the steps are right; the bounds of times.; Room (layer 11): the spans that a law gathers of Starts. Conditions: the steps are right; fewer than 199 of them.; Room (layer 11): Earliest: the first span's beginning. Conditions: the steps are right; the bounds of their number.; Reservations (layer 18): New, Next, All, Clone, Find, at any list. Conditions: the lengths' bounds.; Reservations (layer 18): what comes of Add, plainly; the law's one. Conditions: none.; Reservations (layer 18): Drop, Past; a list that nobody made. Conditions: the lengths' bounds.; The document's reservations (layer 18): may one be so, a list as the document has it, is it the document's. No condition but the rows'.; Reservations (layer 18): what they hold at a time, plainly; whoever was let in finds room. No condition. -/
import Derived.Test.YtbhnjmdlagjfbaaMai
import Derived.RangeFuncNested
import Derived.RangeFuncBound
import Derived.RangeFuncCalls
import Derived.RangeFuncLeaves
import Derived.Shelf.Abstract
import Derived.Shelf.RegionOpen
import Derived.WalkKit
import Derived.OwnWalkIn
import Derived.TacticsInMore
import Derived.LoopNIn
import Derived.LoopIn
import Derived.Test.YtbhnjmdlagjfbaaMMarks
import Derived.Laws.OwnMore
import Derived.OwnWalk
import Derived.Test.YtbhnjmdlagjfbaaMad
import Derived.Test.YtbhnjmdlagjfbaaMah
import Derived.Test.YtbhnjmdlagjfbaaMac
namespace Go.Proofs.Ytbhnjmdlagjfbaa
set_option linter.unusedVariables false
open Go.RowKit Go.Shelf
def mxS (x y : Int) : Int := if y > x then y else x
theorem run_mxS {P : Program} (w : World) (ts : Array TypeId) (t : TypeId) (k k' : IntKind) (x y : Int) : (Builtin.max_ ts t #[.int k x, .int k' y]).run P w = .ok (.int k (mxS x y)) w := run_max_int2 w ts t k k' x y
attribute [local go_sem high] run_mxS
attribute [local go_sem] Oper.semAt_some
attribute [local go_sem ↓] comesTo_value_eq comesTo_skip_eq comesTo_enter_eq

/-- where the iterator stands: what is to come of the steps from k on, no stretch being open -/
def restS (L : List (Int × Int)) (F m W : Int) (k : Nat) : List (Int × Int) := startsGo F m W ((runsU L).drop k) none
/-- what lies from block n₁ on, ahead of n₀, is as it was -/
structure Mid (n₁ n₀ : Nat) (w w' : World) : Prop where
  size : w.heap.size ≤ w'.heap.size
  block : ∀ k, n₁ ≤ k → k < n₀ → w'.heap[k]? = w.heap[k]?
theorem Mid.refl (n₁ n₀ : Nat) (w : World) : Mid n₁ n₀ w w := ⟨Nat.le_refl _, fun _ _ _ => rfl⟩
theorem Mid.trans {n₁ n₀ : Nat} {a b c : World} (h : Mid n₁ n₀ a b) (k : Mid n₁ n₀ b c) : Mid n₁ n₀ a c := ⟨Nat.le_trans h.size k.size, fun i h1 h2 => (k.block i h1 h2).trans (h.block i h1 h2)⟩
theorem Mid.of {n₁ n₀ : Nat} {w w' : World} (h : Below n₀ w w') : Mid n₁ n₀ w w' := ⟨h.size, fun k _ h2 => h.block k h2⟩
theorem Mid.cell {n₁ n₀ : Nat} {w w' : World} (h : Mid n₁ n₀ w w') {p : Addr} (h1 : n₁ ≤ p.block ∧ p.block < n₀) : w'.cell? p = w.cell? p := World.cell?_of_block (h.block p.block h1.1 h1.2)
theorem mid_b {n₁ n₀ : Nat} {w : World} (hn : n₀ ≤ w.heap.size) (W : World) (l : Nat) (o o' : Obj) (hl : w.heap.size ≤ l) (h : W.heap[l]? = some o) (h1 : o.isCells = false) (h2 : o.isWalk = false) : Mid n₁ n₀ W (W.putObj l o') := Mid.of (belowK_b hn W l o o' hl h h1 h2)
theorem mxS_eq (x y : Int) : mxS x y = max x y := by unfold mxS; omega
theorem getD_of {L : List (Int × Int)} {k : Nat} (h : k < L.length) : L.getD k (0, 0) = L[k] := by rw [List.getD_eq_getElem?_getD, List.getElem?_eq_getElem h]; rfl
theorem rest_open {L : List (Int × Int)} {F m W : Int} {k : Nat} (h : k < L.length) (hW : W ≤ L[k].2) : restS L F m W k = startsGo F m W ((runsU L).drop (k + 1)) (some L[k].1) := by
  unfold restS
  rw [runsU_drop' h]
  conv => lhs; unfold startsGo
  simp only
  rw [getD_of h, if_pos hW]
theorem rest_low {L : List (Int × Int)} {F m W : Int} {k : Nat} (h : k < L.length) (hW : L[k].2 < W) : restS L F m W k = restS L F m W (k + 1) := by
  unfold restS
  rw [runsU_drop' h]
  conv => lhs; unfold startsGo
  simp only
  rw [getD_of h, if_neg (by omega)]
theorem go_on {L : List (Int × Int)} {F m W a : Int} {j : Nat} (h : j < L.length) (hW : W ≤ L[j].2) : startsGo F m W ((runsU L).drop j) (some a) = startsGo F m W ((runsU L).drop (j + 1)) (some a) := by
  rw [runsU_drop' h]
  conv => lhs; unfold startsGo
  simp only
  rw [getD_of h, if_pos hW]
theorem go_low {L : List (Int × Int)} {F m W a : Int} {j : Nat} (h : j < L.length) (hW : L[j].2 < W) : startsGo F m W ((runsU L).drop j) (some a) = (if L[j].1 - m + 1 ≤ mxS a F then [] else [(mxS a F, L[j].1 - m + 1)]) ++ restS L F m W (j + 1) := by
  rw [runsU_drop' h]
  conv => lhs; unfold startsGo
  simp only
  rw [getD_of h, if_neg (by omega), mxS_eq]
  rfl
theorem go_ends {L : List (Int × Int)} {F m W a : Int} : startsGo F m W ((runsU L).drop L.length) (some a) = (if mxS a F < 1099511627776 then [(mxS a F, 1099511627776)] else []) := by
  rw [runsU_end, mxS_eq]
  rfl
theorem rest_ends {L : List (Int × Int)} {F m W : Int} {k : Nat} (h : L.length ≤ k) : restS L F m W k = [] := by
  unfold restS
  rw [List.drop_eq_nil_of_le (by unfold runsU; simp; omega)]
  rfl
set_option maxRecDepth 100000 in
set_option maxHeartbeats 4000000 in
theorem starts1_in (n : Nat) (hn : 1 ≤ n) (l n₁ n₀ : Nat) (L : List (Int × Int)) (F m W : Int) (b0 b1 b2 b3 g c : Nat) (hlen : L.length ≤ 1099511627776) (hL : RightU L) (hm : 1 ≤ m ∧ m ≤ 1099511627776) (hF : 0 ≤ F ∧ F ≤ 1099511627776) (J Jx : List (Int × Int) → World → Prop)
    (hY : ∀ pre (x : Int × Int) V, J pre V → pre.length < L.length → YieldAt Fence.wide (n - 1) Try.prog l #[.agg #[.int .i64 x.1, .int .i64 x.2]] V fun e V' =>
      (e = .returned (.bool true) ∧ J (pre ++ [x]) V' ∧ Mid n₁ n₀ V V') ∨ (e = .returned (.bool false) ∧ Jx (pre ++ [x]) V'))
    (hJA : ∀ pre W1 W2, J pre W1 → Below W1.heap.size W1 W2 → J pre W2)
    (V : World) (hb : (n₁ ≤ b0 ∧ b0 < n₀) ∧ (n₁ ≤ b1 ∧ b1 < n₀) ∧ (n₁ ≤ b2 ∧ b2 < n₀) ∧ (n₁ ≤ b3 ∧ b3 < n₀) ∧ (n₁ ≤ g ∧ g < n₀)) (hn₀ : n₀ ≤ V.heap.size)
    (h0 : V.cell? ⟨b0, 0, none⟩ = some (.slice (some ⟨g, 0, none⟩) L.length c)) (h1 : V.cell? ⟨b1, 0, none⟩ = some (.int .i64 W)) (h2 : V.cell? ⟨b2, 0, none⟩ = some (.int .i64 F)) (h3 : V.cell? ⟨b3, 0, none⟩ = some (.int .i64 m)) (hr : URow V g L) (hJ : J [] V) :
    CallsIn Fence.wide n Try.prog 155 #[.func (.yield l) #[] #[], .pointer (some ⟨b0, 0, none⟩), .pointer (some ⟨b1, 0, none⟩), .pointer (some ⟨b2, 0, none⟩), .pointer (some ⟨b3, 0, none⟩)] V fun e V' => (∃ v, e = .returned v) ∧
      ((∃ ys, ys = startsU L F m W ∧ J ys V') ∨ (∃ pre, pre <+: startsU L F m W ∧ Jx pre V')) := by
  have hmx : Try.prog.follows .mixedOrders = true := by kernel_rfl
  refine callsIn_of_wp Try.func155 rfl trivial ?_ rfl
  simp only [Try.ntmps155, List.size_toArray, List.length_cons, List.length_nil, Nat.reduceAdd, Nat.reduceSub, Array.replicate_succ, Array.replicate_zero, List.push_toArray, List.append_toArray, List.nil_append, List.cons_append]
  gi_wp2
  refine wpIn_scope ?_
  gi_wp2
  refine wpIn_label ?_
  gi_wp2
  gi_loopw [6] (fun p wr => ∃ (k : Nat) (pre : List (Int × Int)), k ≤ L.length + 1 ∧ p = .int .i64 k ∧ pre ++ restS L F m W k = startsU L F m W ∧ pre.length ≤ k ∧ J pre wr ∧ Mid n₁ n₀ V wr) (fun p _ => L.length + 1 - (intOf p).toNat)
  case atStart => exact ⟨0, [], by omega, rfl, by simp [restS, startsU], by simp, hJ, Mid.refl _ _ _⟩
  case round =>
    obtain ⟨k, pre, hk, rfl, hpre, hpl, hJp, hB⟩ := hrel
    have c0 := (hB.cell (p := ⟨b0, 0, none⟩) hb.1).trans h0
    have c1 := (hB.cell (p := ⟨b1, 0, none⟩) hb.2.1).trans h1
    have c2 := (hB.cell (p := ⟨b2, 0, none⟩) hb.2.2.1).trans h2
    have c3 := (hB.cell (p := ⟨b3, 0, none⟩) hb.2.2.2.1).trans h3
    by_cases hlt : k < L.length
    case neg =>
      have hd : decide (k < L.length) = false := decide_eq_false hlt
      gi_wp2
      unfold Exit.noGoto
      go_end0
      have hnil := rest_ends (L := L) (F := F) (m := m) (W := W) (k := k) (by omega)
      rw [hnil, List.append_nil] at hpre
      exact ⟨⟨_, rfl⟩, .inl ⟨pre, hpre, hJp⟩⟩
    case pos =>
      have hd : decide (k < L.length) = true := decide_eq_true hlt
      have hix : (k : Int) < (L.length : Int) := by omega
      have q0 := (hB.cell (p := ⟨g, k * 2, none⟩) hb.2.2.2.2).trans (hr k hlt).1
      have q1 := (hB.cell (p := ⟨g, k * 2 + 1, none⟩) hb.2.2.2.2).trans (hr k hlt).2
      gi_wp2
      refine wpIn_region_grow WideF.wide (fun w' => w' = wr.drew) hmx (by kernel_rfl) (by kernel_rfl) rfl ?_
      iterate 7 (refine textS_run ?_ ?_ (fun W hS => ?_) ?_; rotate_left; (focus go_simp); (focus (subst hS; go_simp; all_goals (first | exact ⟨rfl, rfl⟩ | rfl | (refine ⟨?_, rfl⟩; rfl)))); (try go_simp))
      refine textS_nil ?_
      have hwk : IntKind.i64.wrap ((k : Int) + 1) = ((k + 1 : Nat) : Int) := by rw [IntKind.wrap_i64]; omega
      have hJd : J pre wr.drew := hJA pre _ _ hJp (Below.refl _ _).drew
      have hBd : Mid n₁ n₀ V wr.drew := hB.trans (Mid.of (Below.drew (Below.refl _ _)))
      by_cases hlow : L[k].2 < W
      case pos =>
        have hdl : decide (L[k].2 < W) = true := decide_eq_true hlow
        gi_wp2
        have hst := rest_low (F := F) (m := m) hlt hlow
        exact ⟨⟨k + 1, pre, by omega, rfl, by rw [← hst]; exact hpre, by omega, hJd, hBd⟩, by show L.length + 1 - ((k : Int) + 1).toNat < L.length + 1 - ((k : Int)).toNat; omega⟩
      case neg =>
        have hdl : decide (L[k].2 < W) = false := decide_eq_false hlow
        have d0 := (Below.cell (Below.drew (Below.refl wr.heap.size wr)) (p := ⟨b0, 0, none⟩) (show b0 < wr.heap.size by have := hB.size; omega)).trans c0
        have d2 := (Below.cell (Below.drew (Below.refl wr.heap.size wr)) (p := ⟨b2, 0, none⟩) (show b2 < wr.heap.size by have := hB.size; omega)).trans c2
        have e0 := (Below.cell (Below.drew (Below.refl wr.heap.size wr)) (p := ⟨g, k * 2, none⟩) (show g < wr.heap.size by have := hB.size; omega)).trans q0
        have f0 := ((below_alloc (Below.refl _ wr) (.cells #[.int .i64 0, .int .i64 0] 39)).cell (p := ⟨b0, 0, none⟩) (show b0 < wr.heap.size by have := hB.size; omega)).trans c0
        have f2 := ((below_alloc (Below.refl _ wr) (.cells #[.int .i64 0, .int .i64 0] 39)).cell (p := ⟨b2, 0, none⟩) (show b2 < wr.heap.size by have := hB.size; omega)).trans c2
        have f3 := ((below_alloc (Below.refl _ wr) (.cells #[.int .i64 0, .int .i64 0] 39)).cell (p := ⟨g, k * 2, none⟩) (show g < wr.heap.size by have := hB.size; omega)).trans q0
        gi_wp2
        refine wpIn_region_two WideF.wide 9 8 (fun p w' => w' = bif p then wr.drew.drew.alloc (.cells #[.int .i64 0, .int .i64 0] 39) else wr.drew.drew) hmx (by kernel_rfl) (by kernel_rfl) (by decide) rfl ?_
        simp only [List.take]
        iterate 8 (refine textT2_run ?_ (by decide) ?_ (fun p W hS => ?_) ?_; rotate_left; (focus go_simp); (focus (cases p <;> (simp only [cond_true, cond_false] at hS; subst hS; go_simp; all_goals (first | exact ⟨rfl, rfl⟩ | rfl | (refine ⟨?_, rfl⟩; rfl))))); (try go_simp))
        (refine textT2_call ?_ rfl ?_ (fun W hS => ?_) ?_; rotate_left; (focus go_simp); (focus (simp only [cond_true, cond_false] at hS; subst hS; go_simp; all_goals (first | exact ⟨rfl, rfl⟩ | rfl | (refine ⟨?_, rfl⟩; rfl)))); (try go_simp))
        refine textT2_nil ?_
        have z0 := cell_of_block (o := 0) (World.alloc_heap_new wr (.cells #[.int .i64 0, .int .i64 0] 39)) rfl
        have z1 := cell_of_block (o := 1) (World.alloc_heap_new wr (.cells #[.int .i64 0, .int .i64 0] 39)) rfl
        gi_wp2
        have hbW : Below wr.heap.size wr (wr.alloc (.cells #[.int .i64 (mxS L[k].1 F), .int .i64 1099511627776] 39)).drew.drew := ((below_alloc (Below.refl _ wr) _).drew).drew
        have hbk : (wr.alloc (.cells #[.int .i64 (mxS L[k].1 F), .int .i64 1099511627776] 39)).drew.drew.heap[wr.heap.size]? = some (.cells #[.int .i64 (mxS L[k].1 F), .int .i64 1099511627776] 39 (0, 0)) := World.alloc_heap_new wr _
        clear d0 d2 e0 f0 f2 f3 z0 z1 hBd hJd
        obtain ⟨wo, hwo⟩ : ∃ x, x = wr := ⟨_, rfl⟩
        subst hwo
        generalize (wo.alloc (.cells #[.int .i64 (mxS L[k].1 F), .int .i64 1099511627776] 39)).drew.drew = W0 at *
        gi_loopw [6] (fun p w' => ∃ j : Nat, k < j ∧ j ≤ L.length ∧ p = .int .i64 (j : Nat) ∧ startsGo F m W ((runsU L).drop (k + 1)) (some L[k].1) = startsGo F m W ((runsU L).drop j) (some L[k].1) ∧ Below wo.heap.size wo w' ∧ w'.heap[wo.heap.size]? = some (.cells #[.int .i64 (mxS L[k].1 F), .int .i64 1099511627776] 39 (0, 0))) (fun p _ => L.length - (intOf p).toNat)
        case atStart => exact ⟨k + 1, by omega, by omega, rfl, rfl, hbW, hbk⟩
        case round =>
          obtain ⟨j, hkj, hjl, rfl, hgo, hbj, hbr⟩ := hrel
          have hsz : n₀ ≤ wo.heap.size := Nat.le_trans hn₀ hB.size
          have d0 := (hbj.cell (p := ⟨b0, 0, none⟩) (show b0 < wo.heap.size by omega)).trans c0
          have d1 := (hbj.cell (p := ⟨b1, 0, none⟩) (show b1 < wo.heap.size by omega)).trans c1
          have d2 := (hbj.cell (p := ⟨b2, 0, none⟩) (show b2 < wo.heap.size by omega)).trans c2
          have d3 := (hbj.cell (p := ⟨b3, 0, none⟩) (show b3 < wo.heap.size by omega)).trans c3
          have hwj : IntKind.i64.wrap ((j : Int) + 1) = ((j + 1 : Nat) : Int) := by rw [IntKind.wrap_i64]; omega
          have hao : 0 ≤ L[k].1 ∧ L[k].1 ≤ 1099511627776 := by
            have := toU_le hL hlt
            rw [getD_of hlt] at this
            omega
          have hmx0 : 0 ≤ mxS L[k].1 F ∧ mxS L[k].1 F ≤ 1099511627776 := by rw [mxS_eq]; omega
          by_cases hlj : j < L.length
          case neg =>
            have hdj : decide (j < L.length) = false := decide_eq_false hlj
            have hje : j = L.length := by omega
            rw [rest_open hlt (by omega), hgo, hje, go_ends] at hpre
            clear hje
            by_cases hmn : mxS L[k].1 F < 1099511627776
            case pos =>
              have heq : (pre ++ [(mxS L[k].1 F, 1099511627776)]) ++ restS L F m W (j + 1) = startsU L F m W := by rw [rest_ends (by omega), List.append_nil, ← hpre, if_pos hmn]
              have r0 := cell_of_block (o := 0) hbr rfl
              have r1 := cell_of_block (o := 1) hbr rfl
              have hJX : J pre wr := hJA pre _ _ hJp hbj
              have hem : decide (clampI (1099511627776) ≤ clampI (mxS L[k].1 F)) = false := decide_eq_false (by unfold clampI; omega)
              gi_wp2_with (refine ⟨trivial, ?_⟩; gi_at_call 120; refine (callsIn_wide.2 (empty_any _ _ _)).mono ?_; rintro e W1 ⟨rfl, hbE⟩; rw [hem]; have hJ1 := hJA pre _ _ hJX hbE; have hBE := below_next (hbj) hbE; have y1 := (hbE.block _ (Array.getElem?_eq_some_iff.1 hbr).1).trans hbr; have s0 := cell_of_block (o := 0) y1 rfl; have s1 := cell_of_block (o := 1) y1 rfl; obtain ⟨fn, tmps, assign, body, hy, hR⟩ := hY pre (mxS L[k].1 F, 1099511627776) W1 hJ1 (by omega); dsimp only at hy)
              refine hR.mono ?_
              rintro e W3 (⟨rfl, hJ3, hk3⟩ | ⟨rfl, hJx3⟩)
              · gi_wp2
                exact ⟨⟨j + 1, _, by omega, rfl, heq, by rw [List.length_append, List.length_singleton]; omega, hJ3, (hB.trans (Mid.of (hBE.mono hsz))).trans hk3⟩, by show L.length + 1 - ((j : Int) + 1).toNat < L.length + 1 - ((k : Int)).toNat; omega⟩
              · gi_wp2
                unfold Exit.noGoto
                dsimp only
                refine bodyPost_ret (results_none rfl _ _ _) rfl ?_
                exact ⟨⟨_, rfl⟩, .inr ⟨_, ⟨_, heq⟩, hJx3⟩⟩
            case neg =>
              have heq : pre ++ restS L F m W (j + 1) = startsU L F m W := by rw [rest_ends (by omega), ← hpre, if_neg hmn]
              have r0 := cell_of_block (o := 0) hbr rfl
              have r1 := cell_of_block (o := 1) hbr rfl
              have hJX : J pre wr := hJA pre _ _ hJp hbj
              have hem : decide (clampI (1099511627776) ≤ clampI (mxS L[k].1 F)) = true := decide_eq_true (by unfold clampI; omega)
              gi_wp2_with (refine ⟨trivial, ?_⟩; gi_at_call 120; refine (callsIn_wide.2 (empty_any _ _ _)).mono ?_; rintro e W1 ⟨rfl, hbE⟩; rw [hem]; have hJ1 := hJA pre _ _ hJX hbE; have hBE := below_next (hbj) hbE)
              refine ⟨fun _ h => (by cases h), ?_⟩
              gi_wp2
              exact ⟨⟨j + 1, pre, by omega, rfl, heq, by omega, hJ1, hB.trans (Mid.of (hBE.mono hsz))⟩, by show L.length + 1 - ((j : Int) + 1).toNat < L.length + 1 - ((k : Int)).toNat; omega⟩
          case pos =>
            have hdj : decide (j < L.length) = true := decide_eq_true hlj
            have hij : (j : Int) < (L.length : Int) := by omega
            have p0 := (hbj.cell (p := ⟨g, j * 2, none⟩) (show g < wo.heap.size by omega)).trans ((hB.cell (p := ⟨g, j * 2, none⟩) hb.2.2.2.2).trans (hr j hlj).1)
            have p1 := (hbj.cell (p := ⟨g, j * 2 + 1, none⟩) (show g < wo.heap.size by omega)).trans ((hB.cell (p := ⟨g, j * 2 + 1, none⟩) hb.2.2.2.2).trans (hr j hlj).2)
            rw [getD_of hlj] at p0 p1
            gi_wp2
            refine wpIn_region_grow WideF.wide (fun w' => w' = wr.drew) hmx (by kernel_rfl) (by kernel_rfl) rfl ?_
            iterate 7 (refine textS_run ?_ ?_ (fun W hS => ?_) ?_; rotate_left; (focus go_simp); (focus (subst hS; go_simp; all_goals (first | exact ⟨rfl, rfl⟩ | rfl | (refine ⟨?_, rfl⟩; rfl)))); (try go_simp))
            refine textS_nil ?_
            by_cases hlw : L[j].2 < W
            case neg =>
              have hdl2 : decide (L[j].2 ≥ W) = true := decide_eq_true (by omega)
              gi_wp2
              exact ⟨⟨j + 1, by omega, by omega, rfl, by rw [hgo, go_on hlj (by omega)], hbj.drew, hbr⟩, by show L.length - ((j : Int) + 1).toNat < L.length - ((j : Int)).toNat; omega⟩
            case pos =>
              have hdl2 : decide (L[j].2 ≥ W) = false := decide_eq_false (by omega)
              gi_wp2
              have haj : 0 ≤ L[j].1 ∧ L[j].1 ≤ 1099511627776 := by
                have := toU_le hL hlj
                rw [getD_of hlj] at this
                omega
              have hbY : Below wo.heap.size wo wr.drew.drew := hbj.drew.drew
              have hbrY : wr.drew.drew.heap[wo.heap.size]? = some (.cells #[.int .i64 (mxS L[k].1 F), .int .i64 1099511627776] 39 (0, 0)) := hbr
              generalize wr.drew = X at *
              obtain ⟨To, hTo⟩ : ∃ T : Int, T = L[j].1 - m + 1 := ⟨_, rfl⟩
              have hw1 : IntKind.i64.wrap (L[j].1 - m) = L[j].1 - m := by rw [IntKind.wrap_i64]; omega
              have hw2 : IntKind.i64.wrap (L[j].1 - m + 1) = To := by rw [IntKind.wrap_i64]; omega
              have hTl : To ≤ 1099511627776 := by omega
              have k0 := (hbY.cell (p := ⟨b0, 0, none⟩) (show b0 < wo.heap.size by omega)).trans c0
              have k3 := (hbY.cell (p := ⟨b3, 0, none⟩) (show b3 < wo.heap.size by omega)).trans c3
              have kp := (hbY.cell (p := ⟨g, j * 2, none⟩) (show g < wo.heap.size by omega)).trans (((hbj.cell (p := ⟨g, j * 2, none⟩) (show g < wo.heap.size by omega)).symm).trans p0)
              have kz := cell_of_block (o := 1) hbrY rfl
              have kf := free_of_block 1 hbrY
              have hw9 := (wrote_refl hbrY).set 1 (.int .i64 To)
              have hb9 := hbY.setCell (p := ⟨wo.heap.size, 1, none⟩) (Nat.le_refl _) (.int .i64 To)
              obtain ⟨W9, hW9⟩ : ∃ W9, X.drew.setCell ⟨wo.heap.size, 1, none⟩ (.int .i64 To) = W9 := ⟨_, rfl⟩
              rw [hW9] at hw9 hb9
              have h9b := hw9.there
              have m0 := (hb9.cell (p := ⟨b0, 0, none⟩) (show b0 < wo.heap.size by omega)).trans c0
              have m3 := (hb9.cell (p := ⟨b3, 0, none⟩) (show b3 < wo.heap.size by omega)).trans c3
              have mp := (hb9.cell (p := ⟨g, j * 2, none⟩) (show g < wo.heap.size by omega)).trans (((hbj.cell (p := ⟨g, j * 2, none⟩) (show g < wo.heap.size by omega)).symm).trans p0)
              have HW9 := Lib.hid hW9
              have H9B := Lib.hid h9b
              have HB9 := Lib.hid hb9
              clear hW9 hw9 h9b hb9 d0 d1 d2 d3 p0 p1 hbrY
              refine wpIn_region_twoA WideF.wide 9 (fun b w' => w' = bif b then W9 else X.drew) hmx (by kernel_rfl) (by kernel_rfl) (by decide) rfl ?_
              iterate 9 (refine textT2_run ?_ (by decide) ?_ (fun p W hS => ?_) ?_; rotate_left; (focus go_simp); (focus (cases p <;> (simp only [cond_true, cond_false] at hS; subst hS; go_simp; all_goals (first | exact ⟨rfl, rfl⟩ | rfl | (refine ⟨?_, rfl⟩; rfl))))); (try go_simp))
              refine textT2_call undef rfl ?_ (fun W hS => ?_) ?_
              · go_simp
              · simp only [cond_false] at hS
                subst hS
                go_simp
                rw [← hTo]
                first | exact HW9.out | (rw [← HW9.out]; rfl) | (rw [← HW9.out]; simp)
              (try go_simp)
              refine textT2_nil ?_
              have r1 := cell_of_block (o := 1) H9B.out rfl
              have r0 := cell_of_block (o := 0) H9B.out rfl
              rw [rest_open hlt (by omega), hgo, go_low hlj hlw, ← hTo] at hpre
              clear hTo hw1 hw2
              by_cases hle : To ≤ mxS L[k].1 F
              case pos =>
                have hdt : decide (To ≤ mxS L[k].1 F) = true := decide_eq_true hle
                have heq : pre ++ restS L F m W (j + 1) = startsU L F m W := by rw [← hpre, if_pos hle, List.nil_append]
                gi_wp2
                exact ⟨⟨j + 1, pre, by omega, rfl, heq, by omega, hJA pre _ _ hJp HB9.out, hB.trans (Mid.of (HB9.out.mono hsz))⟩, by show L.length + 1 - ((j : Int) + 1).toNat < L.length + 1 - ((k : Int)).toNat; omega⟩
              case neg =>
                have hdt : decide (To ≤ mxS L[k].1 F) = false := decide_eq_false hle
                have heq : (pre ++ [(mxS L[k].1 F, To)]) ++ restS L F m W (j + 1) = startsU L F m W := by rw [← hpre, if_neg hle, List.append_assoc]
                have r0 := cell_of_block (o := 0) H9B.out rfl
                have r1 := cell_of_block (o := 1) H9B.out rfl
                have hJX : J pre W9 := hJA pre _ _ hJp HB9.out
                have hem : decide (clampI (To) ≤ clampI (mxS L[k].1 F)) = false := decide_eq_false (by unfold clampI; omega)
                gi_wp2_with (refine ⟨trivial, ?_⟩; gi_at_call 120; refine (callsIn_wide.2 (empty_any _ _ _)).mono ?_; rintro e W1 ⟨rfl, hbE⟩; rw [hem]; have hJ1 := hJA pre _ _ hJX hbE; have hBE := below_next (HB9.out) hbE; have y1 := (hbE.block _ (Array.getElem?_eq_some_iff.1 H9B.out).1).trans H9B.out; have s0 := cell_of_block (o := 0) y1 rfl; have s1 := cell_of_block (o := 1) y1 rfl; obtain ⟨fn, tmps, assign, body, hy, hR⟩ := hY pre (mxS L[k].1 F, To) W1 hJ1 (by omega); dsimp only at hy)
                refine hR.mono ?_
                rintro e W3 (⟨rfl, hJ3, hk3⟩ | ⟨rfl, hJx3⟩)
                · gi_wp2
                  exact ⟨⟨j + 1, _, by omega, rfl, heq, by rw [List.length_append, List.length_singleton]; omega, hJ3, (hB.trans (Mid.of (hBE.mono hsz))).trans hk3⟩, by show L.length + 1 - ((j : Int) + 1).toNat < L.length + 1 - ((k : Int)).toNat; omega⟩
                · gi_wp2
                  unfold Exit.noGoto
                  dsimp only
                  refine bodyPost_ret (results_none rfl _ _ _) rfl ?_
                  exact ⟨⟨_, rfl⟩, .inr ⟨_, ⟨_, heq⟩, hJx3⟩⟩
end Go.Proofs.Ytbhnjmdlagjfbaa
namespace Go.Proofs.Ytbhnjmdlagjfbaa
set_option linter.unusedVariables false
open Go.RowKit Go.Shelf
attribute [local go_sem high] run_mxS
attribute [local go_sem] Oper.semAt_some
attribute [local go_sem ↓] comesTo_value_eq comesTo_skip_eq comesTo_enter_eq

end Go.Proofs.Ytbhnjmdlagjfbaa
namespace Go.Proofs.Ytbhnjmdlagjfbaa
set_option linter.unusedVariables false
open Go.ChangeShapes Go.WideShapes Go.ChangeAt Go.RowKit
attribute [local go_sem ↓] Go.wp_at_zero Go.wp_at_succ comesTo_value_eq comesTo_skip_eq comesTo_enter_eq

theorem info_spanF : (Try.prog.info? 39).map (fun i => (i.zero, i.size, i.bytes)) = some (some (.agg #[.int .i64 0, .int .i64 0]), 2, 16) := by kernel_rfl
/-- spans as cells -/
def flatF : List (Int × Int) → List Value
  | [] => []
  | p :: r => .int .i64 p.1 :: .int .i64 p.2 :: flatF r
theorem flatF_length : ∀ l, (flatF l).length = l.length * 2
  | [] => rfl
  | p :: r => by simp [flatF, flatF_length r]; omega
theorem flatF_append : ∀ l m, flatF (l ++ m) = flatF l ++ flatF m
  | [], _ => rfl
  | p :: r, m => by simp [flatF, flatF_append r m]
theorem flatF_get0 : ∀ (l : List (Int × Int)) (k : Nat), k < l.length → (flatF l)[k * 2]? = some (.int .i64 (l.getD k (0, 0)).1)
  | p :: r, 0, _ => by simp [flatF]
  | p :: r, k + 1, h => by
    have := flatF_get0 r k (by simpa using h)
    rw [show (k + 1) * 2 = k * 2 + 1 + 1 by omega]
    simpa [flatF] using this
theorem flatF_get1 : ∀ (l : List (Int × Int)) (k : Nat), k < l.length → (flatF l)[k * 2 + 1]? = some (.int .i64 (l.getD k (0, 0)).2)
  | p :: r, 0, _ => by simp [flatF]
  | p :: r, k + 1, h => by
    have := flatF_get1 r k (by simpa using h)
    rw [show (k + 1) * 2 + 1 = k * 2 + 1 + 1 + 1 by omega]
    simpa [flatF] using this
/-- a row of spans of the call's own, from block B on -/
def OwnF (w : World) (B : Nat) (v : Value) (l : List (Int × Int)) : Prop := w.ownsRow B 39 2 v l.length (flatF l)
theorem OwnF.keep {w w' : World} {B : Nat} {v : Value} {l : List (Int × Int)} (h : OwnF w B v l) (hb : ∀ k, B ≤ k → k < w.heap.size → w'.heap[k]? = w.heap[k]?) : OwnF w' B v l := by
  refine ⟨h.1, ?_⟩
  rcases h.2 with hn | ⟨g, cap, cur, hv, hB, hg, rest⟩
  · exact .inl hn
  · refine .inr ⟨g, cap, cur, hv, hB, ?_, rest⟩
    rw [hb g hB (Array.getElem?_eq_some_iff.1 hg).1]; exact hg
theorem OwnF.below {w w' : World} {B : Nat} {v : Value} {l : List (Int × Int)} (h : OwnF w B v l) (hb : Below w.heap.size w w') : OwnF w' B v l := h.keep fun k _ hk => hb.block k hk
theorem OwnF.base {w : World} {B B' : Nat} {v : Value} {l : List (Int × Int)} (h : OwnF w B v l) (hB : B' ≤ B) : OwnF w B' v l := by
  refine ⟨h.1, ?_⟩
  rcases h.2 with hn | ⟨g, cap, cur, hv, h1, hg, rest⟩
  · exact .inl hn
  · exact .inr ⟨g, cap, cur, hv, by omega, hg, rest⟩
theorem OwnF.nil {w : World} {B : Nat} : OwnF w B (.slice none 0 0) [] := ⟨rfl, .inl ⟨rfl, rfl⟩⟩
theorem OwnF.form {w : World} {B : Nat} {v : Value} {l : List (Int × Int)} (h : OwnF w B v l) : (l = [] ∧ v = .slice none 0 0) ∨ ∃ g c, v = .slice (some ⟨g, 0, none⟩) l.length c ∧ B ≤ g ∧ ∀ k, k < l.length → w.cell? ⟨g, k * 2, none⟩ = some (.int .i64 (l.getD k (0, 0)).1) ∧ w.cell? ⟨g, k * 2 + 1, none⟩ = some (.int .i64 (l.getD k (0, 0)).2) := by
  rcases h.2 with ⟨e, hl⟩ | ⟨g, cap, cur, e, hg, hc, rest⟩
  · refine .inl ⟨?_, e⟩
    exact List.length_eq_zero_iff.1 hl
  · refine .inr ⟨g, cap, e, hg, fun k hk => ?_⟩
    have hcl := World.ownsRow.cells (g := g) h (by rw [e]; rfl)
    have e0 := hcl _ _ (flatF_get0 l k hk)
    have e1 := hcl _ _ (flatF_get1 l k hk)
    have hadd : ∀ j, (⟨g, 0, none⟩ : Addr).add j = ⟨g, j, none⟩ := fun j => by unfold Addr.add; split <;> simp_all
    rw [hadd] at e0 e1
    exact ⟨e0, e1⟩
section
variable {ops : Array Oper} {rest : List Oper} {o : Oper} {a : Act} {w : World} {Q : Exit → Act → World → Prop}
/-- APPEND of one span -/
theorem wpList_append_spanF (hgd : o.guard = none) (s x : Operand)
    (ho : o.op = .call { callee := .builtin .append, args := #[s, x], argTypes := #[85, 85] })
    (B : Nat) (v : Value) (l : List (Int × Int)) (hs : a.eval s = v) (hown : OwnF w B v l) (g c : Nat) (p : Int × Int) (hx : a.eval x = .slice (some ⟨g, 0, none⟩) 1 c)
    (c0 : w.cell? ⟨g, 0, none⟩ = some (.int .i64 p.1)) (c1 : w.cell? ⟨g, 1, none⟩ = some (.int .i64 p.2)) (h63 : l.length + 1 ≤ 1099511627776) (hB : B ≤ w.heap.size)
    (h : ∀ (ad : Option Addr) (c : Nat) (w' : World), OwnF w' B (.slice ad (l.length + 1) c) (l ++ [p]) → Below B w w' → wpList Try.prog ops Q rest (a.put o.dst (.slice ad (l.length + 1) c)) w') : wpList Try.prog ops Q (o :: rest) a w := by
  obtain ⟨i0, hi, hz0, hz1, hz2⟩ := info_parts info_spanF
  have hblk : ∀ k, v.ownBlock = some k → B ≤ k := fun k hk => by
    rcases hown.2 with ⟨rfl, _⟩ | ⟨g, cap, cur, rfl, hg, _⟩
    · cases hk
    · simp only [Value.ownBlock, Option.some.injEq] at hk; omega
  refine wpList_append_own _ hgd s x 85 ho B 39 i0 (.agg #[.int .i64 0, .int .i64 0]) 2 16 Try.underlying85 hi hz0 hz1 hz2 rfl (by decide) v l.length (flatF l) hs hown
      ⟨g, 0, none⟩ 1 c (flatF [p]) hx rfl (fun j u hj => ?_) (fun u hu => ?_) (by unfold maxLen; omega) (by omega) hB (fun v' w' h1 h2 _ => ?_)
  · match j, hj with
    | 0, hj => simp [flatF] at hj; subst hj; simpa [Addr.add] using c0
    | 1, hj => simp [flatF] at hj; subst hj; simpa [Addr.add] using c1
    | j + 2, hj => simp [flatF] at hj
  · simp [flatF] at hu
    rcases hu with rfl | rfl <;> rfl
  · have hO : OwnF w' B v' (l ++ [p]) := by unfold OwnF; rw [List.length_append, flatF_append]; exact h1
    have hb : Below B w w' := Below.grown (Below.refl _ _) h2 hB hblk
    rcases hO.form with ⟨e, _⟩ | ⟨g, c, rfl, _⟩
    · simp at e
    · rw [List.length_append, List.length_singleton] at hO ⊢
      exact h _ c w' hO hb
end
/-- the box's row grows by one -/
def GrewF (bo n₀ : Nat) (l : List (Int × Int)) (w' : World) : Prop := ∃ v', w'.heap[bo]? = some (.cells #[v'] 85 (0, 0)) ∧ OwnF w' n₀ v' l
theorem clampI_le (t : Int) : 0 ≤ clampI t ∧ clampI t ≤ 1099511627776 := by unfold clampI; omega
theorem maxU_le (t : Int) : 1 ≤ maxU (clampI t) 1 ∧ maxU (clampI t) 1 ≤ 1099511627776 := by have := clampI_le t; unfold maxU; split <;> omega
end Go.Proofs.Ytbhnjmdlagjfbaa
namespace Go.Proofs.Ytbhnjmdlagjfbaa
set_option linter.unusedVariables false
open Go.RowKit Go.Shelf
attribute [local go_sem] Oper.semAt_some
attribute [local go_sem ↓] comesTo_value_eq comesTo_skip_eq comesTo_enter_eq

/-- the contract of the iterator, as the laws of ranges ask it -/
theorem starts1_seq (n : Nat) (hn : 1 ≤ n) (n₁ n₀ : Nat) (L : List (Int × Int)) (F m W : Int) (b0 b1 b2 b3 g c : Nat) (hlen : L.length ≤ 1099511627776) (hL : RightU L) (hm : 1 ≤ m ∧ m ≤ 1099511627776) (hF : 0 ≤ F ∧ F ≤ 1099511627776)
    (V : World) (hb : (n₁ ≤ b0 ∧ b0 < n₀) ∧ (n₁ ≤ b1 ∧ b1 < n₀) ∧ (n₁ ≤ b2 ∧ b2 < n₀) ∧ (n₁ ≤ b3 ∧ b3 < n₀) ∧ (n₁ ≤ g ∧ g < n₀)) (hn₀ : n₀ ≤ V.heap.size)
    (h0 : V.cell? ⟨b0, 0, none⟩ = some (.slice (some ⟨g, 0, none⟩) L.length c)) (h1 : V.cell? ⟨b1, 0, none⟩ = some (.int .i64 W)) (h2 : V.cell? ⟨b2, 0, none⟩ = some (.int .i64 F)) (h3 : V.cell? ⟨b3, 0, none⟩ = some (.int .i64 m)) (hr : URow V g L) :
    SeqStopsK Fence.wide n Try.prog 155 #[.pointer (some ⟨b0, 0, none⟩), .pointer (some ⟨b1, 0, none⟩), .pointer (some ⟨b2, 0, none⟩), .pointer (some ⟨b3, 0, none⟩)] (fun x : Int × Int => #[.agg #[.int .i64 x.1, .int .i64 x.2]]) (Mid n₁ n₀) (fun ys => ys = startsU L F m W) (fun pre => pre <+: startsU L F m W) L.length V := by
  intro l J Jx V' hV hJ hJx hY hJ0
  refine starts1_in n hn l n₁ n₀ L F m W b0 b1 b2 b3 g c hlen hL hm hF J Jx hY (fun pre A B hj hb => hJ pre A B none hj ⟨hb.os, hb.tape, hb.output, hb.size, fun k hk _ => hb.block k hk⟩ (fun r e => by cases e)) V' hb (Nat.le_trans hn₀ hV.size)
    ((hV.cell (p := ⟨b0, 0, none⟩) (World.block_lt_of_cell? V _ h0)).trans h0) ((hV.cell (p := ⟨b1, 0, none⟩) (World.block_lt_of_cell? V _ h1)).trans h1) ((hV.cell (p := ⟨b2, 0, none⟩) (World.block_lt_of_cell? V _ h2)).trans h2) ((hV.cell (p := ⟨b3, 0, none⟩) (World.block_lt_of_cell? V _ h3)).trans h3) (hr.mono (hV.block g ?_)) hJ0
  have := hb.2.2.2.2.2
  omega
theorem cellsAt_own {β : Type} (b : Nat) (cs : Array Value) (T : TypeId) : ∀ (_ : β) (W W' : World) (row : Option Nat), W.heap[b]? = some (.cells cs T (0, 0)) → W.grownBy W' row → (∀ r, row = some r → ∃ o : Obj, W.heap[r]? = some o ∧ o.isCells = false) → W'.heap[b]? = some (.cells cs T (0, 0)) := by
  intro _ W W' row h hg hr
  refine (hg.block b (Array.getElem?_eq_some_iff.1 h).1 (fun e => ?_)).trans h
  obtain ⟨o, ho, hc⟩ := hr b e.symm
  rw [h] at ho
  cases ho
  cases hc
set_option maxRecDepth 100000 in
set_option maxHeartbeats 4000000 in
theorem earliest_any {w : World} {v : Value} {L : List (Int × Int)} (from_ many W : Int) (hR : RightU L) (hlen : L.length ≤ 1099511627776)
    (hL : ∀ X, Below w.heap.size w X → Calls Try.prog 154 #[v] X fun e w' => ∃ g c, e = .returned (.slice (some ⟨g, 0, none⟩) L.length c) ∧ X.heap.size ≤ g ∧ g < w'.heap.size ∧ L.length ≤ c ∧ URow w' g L ∧ Below X.heap.size X w') :
    Calls Try.prog 72 #[v, .int .i64 from_, .int .i64 many, .int .i64 W] w fun e w' => e = .returned (.int .i64 (firstU (startsU L (clampI from_) (maxU (clampI many) 1) W))) ∧ Below w.heap.size w w' := by
  have hb1 := below_alloc (Below.refl _ w) (.cells #[.int .i64 0] 37)
  have KS := Lib.hid (starts_any (w := w.alloc (.cells #[.int .i64 0] 37)) (v := v) (L := L) from_ many W (fun X hb => hL X (below_next hb1 hb)))
  have bX := Boxed.new w 37 (.int .i64 0)
  have hF := clampI_le from_
  have hm := maxU_le many
  generalize clampI from_ = F at *
  generalize maxU (clampI many) 1 = m at *
  refine (callsIn_wide (n := 3)).1 ?_
  refine callsIn_of_wp_marks Try.func72 rfl trivial ?_ rfl
  simp only [Try.ntmps72, List.size_toArray, List.length_cons, List.length_nil, Nat.reduceAdd, Nat.reduceSub, Array.replicate_succ, Array.replicate_zero, List.push_toArray, List.append_toArray, List.nil_append, List.cons_append]
  have z1 : (w.alloc (.cells #[.int .i64 0] 37)).heap.size = w.heap.size + 1 := by simp
  generalize hW1 : w.alloc (.cells #[.int .i64 0] 37) = W1 at *
  gi_wp2
  refine ⟨trivial, (callsIn_wide.2 KS.out).mono ?_⟩
  rintro e W2 ⟨lb, rfl, hAt, hb2⟩
  obtain ⟨b0, b1, b2, b3, g, c, rfl, q0, q1, q2, q3, q4, hg, k0, k1, k2, k3, hrow, hcap⟩ := hAt.at_
  have l0 := (Array.getElem?_eq_some_iff.1 k0).1
  have l1 := (Array.getElem?_eq_some_iff.1 k1).1
  have l2 := (Array.getElem?_eq_some_iff.1 k2).1
  have l3 := (Array.getElem?_eq_some_iff.1 k3).1
  have hs2 := hb2.size
  have hB2 : Below w.heap.size w W2 := below_next hb1 hb2
  have bX2 : Boxed W2 w.heap.size 37 (.int .i64 0) := (hb2.block _ (by omega)).trans bX
  clear hAt KS
  gi_wp2
  refine wpIn_rangeFunc_ownH rfl (by omega) (gf := 155) (lb := #[.pointer (some ⟨b0, 0, none⟩), .pointer (some ⟨b1, 0, none⟩), .pointer (some ⟨b2, 0, none⟩), .pointer (some ⟨b3, 0, none⟩)]) rfl trivial (enters_of Try.func155 (by kernel_rfl) rfl)
    (starts1_seq _ (by omega) W1.heap.size W2.heap.size L F m W b0 b1 b2 b3 g c hlen hR hm hF W2 ⟨⟨q0, l0⟩, ⟨q1, l1⟩, ⟨q2, l2⟩, ⟨q3, l3⟩, ⟨q4, hg⟩⟩ (Nat.le_refl _) (cell_of_block (o := 0) k0 rfl) (cell_of_block (o := 0) k1 rfl) (cell_of_block (o := 0) k2 rfl) (cell_of_block (o := 0) k3 rfl) hrow)
    (fun h k => Mid.trans h k) (mid_b (Nat.le_refl _)) (Below.refl _ _) (fun _ => rfl)
    (fun (pre : List (Int × Int)) X => (pre = [] ∧ W2.heap.size ≤ X.heap.size ∧ Boxed X w.heap.size 37 (.int .i64 0)) ∧ Below w.heap.size w X)
    (fun cc (pre : List (Int × Int)) X => (cc = .ret ∧ ∃ x, pre = [x] ∧ Boxed X w.heap.size 37 (.int .i64 x.1)) ∧ Below w.heap.size w X)
    (OwnFrom.and (Own.from (fun s' X Y row hs' hg hr => ⟨hs'.1, Nat.le_trans hs'.2.1 hg.size, boxed_own w.heap.size 37 (fun _ : List (Int × Int) => .int .i64 0) s' X Y row hs'.2.2 hg hr⟩) _) (ownFrom_below (Nat.le_refl _) hB2.size))
    (fun cc => OwnFrom.and (Own.from (fun s' X Y row hs' hg hr => by
      obtain ⟨hc, x, hx, hbx⟩ := hs'
      exact ⟨hc, x, hx, boxed_own w.heap.size 37 (fun _ : List (Int × Int) => .int .i64 x.1) s' X Y row hbx hg hr⟩) _) (ownFrom_below (Nat.le_refl _) hB2.size))
    ⟨⟨rfl, Nat.le_refl _, bX2⟩, hB2⟩
    (fun x a' X => ∃ Bx, X.heap[Bx]? = some (.cells #[.int .i64 x.1, .int .i64 x.2] 39 (0, 0)) ∧ a' = { tmps := #[v, .int .i64 from_, .int .i64 many, .int .i64 W, undef, undef, undef, undef, .pointer (some ⟨w.heap.size, 0, none⟩), .pointer (some ⟨Bx, 0, none⟩), v, .int .i64 from_, .int .i64 many, .int .i64 W, .func (.func 155) #[] #[.pointer (some ⟨b0, 0, none⟩), .pointer (some ⟨b1, 0, none⟩), .pointer (some ⟨b2, 0, none⟩), .pointer (some ⟨b3, 0, none⟩)], .agg #[.int .i64 x.1, .int .i64 x.2], undef, undef], defers := [] })
    (fun x a' _ X Y row hs hg hr => by obtain ⟨Bx, h2, h3⟩ := hs; exact ⟨Bx, cellsAt_own Bx _ _ () X Y row h2 hg (fun r e => (hr r e).2), h3⟩)
    ?assign ?body ?done ?stop
  case assign =>
    rintro l pre x X K ⟨⟨rfl, hsX, hbX⟩, hBX⟩ hK
    gi_wp2
    exact hK _ _ ((KeepsOthers.alloc _ _).from _) (Mid.of ((Below.refl _ X).alloc hsX _)) ⟨⟨by first | rfl | trivial, by simp; omega, hbX.alloc _⟩, hBX.alloc hBX.size _⟩ ⟨X.heap.size, World.alloc_heap_new X _, rfl⟩
  case body =>
    rintro l pre x a' X hl _ ⟨⟨rfl, hsX, hbX⟩, hBX⟩ ⟨Bx, bX, rfl⟩ hltX
    have hcX := hbX.cell
    have hfX := hbX.frozen
    have x0 := cell_of_block (o := 0) bX rfl
    gi_wp2
    exact ⟨(KeepsOthers.setCell _ _ _).from _, ⟨rfl, x, rfl, hbX.set _⟩, hBX.setCell (p := ⟨w.heap.size, 0, none⟩) (Nat.le_refl _) _⟩
  case done =>
    rintro D ys X hD hys ⟨⟨rfl, hsX, hbX⟩, hBX⟩ hK
    have hcX := hbX.cell
    have hfX := hbX.frozen
    gi_wp2
    have hK' := (KeepsOthers.setCell X ⟨w.heap.size, 0, none⟩ (.int .i64 1099511627776)).same D _ hK rfl
    refine ⟨by simp, .inl ⟨_, _, rfl, run_takeDeferred hK', ?_⟩⟩
    have hc5 := cell_kept (hbX.set (.int .i64 1099511627776)).cell (grownBy_putObj' _ D (.deferred none)) (fun r e => by cases e; exact ⟨_, hK', rfl⟩)
    refine ⟨.int .i64 1099511627776, ?_, by rw [← hys]; rfl, (hBX.setCell (p := ⟨w.heap.size, 0, none⟩) (Nat.le_refl _) _).trans (belowK_b (w := w) (Nat.le_refl _) _ D _ _ (Nat.le_trans hB2.size hD) hK' rfl rfl)⟩
    simp [results, Try.f72, go_sem, hc5]
  case stop =>
    rintro D cc pre X hD hSp ⟨⟨rfl, x, rfl, hbX⟩, hBX⟩ hK
    gi_wp2
    refine ⟨by simp, .inl ⟨_, _, rfl, run_takeDeferred hK, ?_⟩⟩
    have hc5 := cell_kept hbX.cell (grownBy_putObj' _ D (.deferred none)) (fun r e => by cases e; exact ⟨_, hK, rfl⟩)
    obtain ⟨t, ht⟩ := hSp
    refine ⟨.int .i64 x.1, ?_, by rw [← ht]; rfl, hBX.trans (belowK_b (w := w) (Nat.le_refl _) X D _ _ (Nat.le_trans hB2.size hD) hK rfl rfl)⟩
    simp [results, Try.f72, go_sem, hc5]
end Go.Proofs.Ytbhnjmdlagjfbaa
namespace Go.Proofs.Ytbhnjmdlagjfbaa
set_option linter.unusedVariables false
open Go.ChangeShapes Go.WideShapes Go.ChangeAt Go.RowKit
attribute [local go_sem ↓] Go.wp_at_zero Go.wp_at_succ comesTo_value_eq comesTo_skip_eq comesTo_enter_eq

theorem new_rs (w : World) : Calls Try.prog 12 #[] w fun e w' => e = .returned (.pointer (some ⟨w.heap.size, 0, none⟩)) ∧ Rs w' w.heap.size w.heap.size [] 1 ∧ Below w.heap.size w w' := by
  have hb := below_alloc (Below.refl _ w) (.cells #[.slice none 0 0, .int .i64 1] 111)
  have hN := World.alloc_heap_new w (.cells #[.slice none 0 0, .int .i64 1] 111)
  have HR := Lib.hid (show Rs (w.alloc (.cells #[.slice none 0 0, .int .i64 1] 111)) w.heap.size w.heap.size [] 1 from ⟨⟨_, hN, OwnR.nil, fun e => by cases e⟩, by decide, by decide⟩)
  have HB := Lib.hid hb
  clear hb hN
  go_enter Try.func12, Try.ntmps12
  go_wp2_with fail
  go_ret
  exact ⟨rfl, HR.out, HB.out⟩
theorem next_rs {w : World} {B F : Nat} {l : List RV} {n : Int} (h : Rs w B F l n) : Calls Try.prog 75 #[.pointer (some ⟨F, 0, none⟩)] w fun e w' => e = .returned (.int .i64 n) ∧ w = w' := by
  have K := Lib.hid (there_rs h)
  obtain ⟨v, h1, _, _⟩ := h.at_
  have c1 : w.cell? ⟨F, 1, none⟩ = some (.int .i64 n) := cell_of_block (o := 1) h1 rfl
  clear h h1
  go_enter Try.func75, Try.ntmps75
  go_wp2_with fail
  refine K.out.mono ?_
  rintro e w' ⟨rfl, rfl⟩
  go_wp2_with fail
  go_ret
  exact ⟨rfl, rfl⟩
set_option maxRecDepth 100000 in
set_option maxHeartbeats 1000000 in
theorem cloneR_any {w : World} {v : Value} {l : List RV} (h : RdR w v l) (hl : l.length ≤ 8) :
    Calls Try.prog 127 #[v] w fun e w' => ∃ v', e = .returned v' ∧ OwnR w' w.heap.size v' l ∧ Below w.heap.size w w' := by
  obtain ⟨ad, c, hv, hc, hz, hr⟩ := id h
  have hn : (ad = none ∧ l = []) ∨ ∃ a, ad = some a := by
    cases ad with
    | none => exact .inl ⟨rfl, List.eq_nil_of_length_eq_zero (by have := hz rfl; omega)⟩
    | some a => exact .inr ⟨a, rfl⟩
  have hq : ∀ (W : World) (a : Option Addr) (n c : Nat), Sem.run Try.prog (binOp .eql 109 (.slice a n c) (.slice none 0 0)) W = .ok (.bool a.isNone) W := fun W a n c => Lib.run_eql_slice_nil W 109 125 a n c 0 0 Try.underlying109
  rcases hn with ⟨rfl, rfl⟩ | ⟨a, rfl⟩
  · obtain rfl : c = 0 := hz rfl
    subst hv
    clear h hr
    show Calls Try.prog 127 #[.slice none 0 0] w _
    go_enter Try.func127, Try.ntmps127
    go_wp2_with fail
    go_ret
    exact ⟨_, rfl, OwnR.nil, Below.refl _ _⟩
  · subst hv
    have H := Lib.hid h
    clear h hr hz hc
    have hq2 := fun W => hq W (some a) l.length c
    clear hq
    go_enter Try.func127, Try.ntmps127
    go_upto_region 3 with fail
    clear hq2
    refine wp_region_lit ?_
    refine wpList_yield (w' := w.alloc (.cells #[] 125)) (v := .slice (some ⟨w.heap.size, 0, none⟩) 0 0) rfl (by first | (go_simp; done) | (go_simp; rfl)) ?_
    have hb := below_alloc (Below.refl _ w) (.cells #[] 125)
    have hO := Ap.own_made w 125 (size := 4) (Nat.le_refl w.heap.size)
    have hr1 := (H.out.below hb).rdG
    obtain ⟨v', w', g0, g1, g2, g3⟩ := Ap.run_app eltR 109 w.heap.size _ 0 [] hO _ l.length (flatR l) hr1 (by unfold maxLen; omega) (by omega) hb.size
    rw [Nat.zero_add, List.nil_append] at g1
    have HO := Lib.hid (show OwnR w' w.heap.size v' l from g1)
    have HB := Lib.hid (hb.trans g3)
    refine wpList_yield (w' := w.alloc (.cells #[] 125)) (v := .slice (some a) l.length c) rfl (by first | (go_simp; done) | (go_simp; rfl)) ?_
    obtain ⟨a4, c4, hf4⟩ := HO.out.form
    subst hf4
    refine wpList_yield (w' := w') (v := .slice a4 l.length c4) rfl (Ap.exec_app rfl (by go_simp) (by go_simp) g0) ?_
    clear g0 g1 g2 g3 hb hO hr1
    go_wp2_with fail
    go_ret
    exact ⟨_, rfl, HO.out, HB.out⟩
theorem all_rs {w : World} {B F : Nat} {l : List RV} {n : Int} (h : Rs w B F l n) : Calls Try.prog 74 #[.pointer (some ⟨F, 0, none⟩)] w fun e w' => ∃ v', e = .returned v' ∧ OwnR w' w.heap.size v' l ∧ Below w.heap.size w w' := by
  have K := Lib.hid (there_rs h)
  have hl := h.len
  obtain ⟨v, h1, h2, _⟩ := h.at_
  have KC := Lib.hid (cloneR_any h2.rd hl)
  obtain ⟨ad, c, rfl⟩ := h2.form
  have c0 : w.cell? ⟨F, 0, none⟩ = some (.slice ad l.length c) := cell_of_block (o := 0) h1 rfl
  clear h h1 h2
  go_enter Try.func74, Try.ntmps74
  go_wp2_with fail
  refine K.out.mono ?_
  rintro e w' ⟨rfl, rfl⟩
  go_wp2_with fail
  refine KC.out.mono ?_
  rintro e w' ⟨v', rfl, ho, hb⟩
  have HO := Lib.hid ho
  have HB := Lib.hid hb
  obtain ⟨a4, c4, rfl⟩ := ho.form
  clear ho hb
  go_wp2_with fail
  go_ret
  exact ⟨_, rfl, HO.out, HB.out⟩
/-- what Find comes to -/
def findR (L : List (Int × Int)) (l : List RV) (f m W : Int) : Int × Int := if m < 1 ∨ ¬ (1 ≤ W ∧ W ≤ 64) then (0, 2) else (firstU (startsU (lowerU L l) (clampI f) (maxU (clampI m) 1) W), 0)
set_option maxRecDepth 100000 in
set_option maxHeartbeats 4000000 in
theorem find_rs {w : World} {B F S : Nat} {l : List RV} {n : Int} {L : List (Int × Int)} (h : Rs w B F l n) (hu : USt w S L) (hR : RightU L) (hL : L.length * 6561 ≤ 1099511627776) (f m W : Int) :
    Calls Try.prog 22 #[.pointer (some ⟨F, 0, none⟩), .pointer (some ⟨S, 0, none⟩), .int .i64 f, .int .i64 m, .int .i64 W] w fun e w' => e = .returned (.tuple #[.int .i64 (findR L l f m W).1, .int .i64 (findR L l f m W).2]) ∧ Below w.heap.size w w' := by
  have KT := Lib.hid (there_rs h)
  have KM := Lib.hid (made_u hu)
  have KW := Lib.hid (fun X => widthR W X)
  have HRS := Lib.hid h
  have HU := Lib.hid hu
  have HR := Lib.hid hR
  have HL := Lib.hid hL
  obtain ⟨res, hres⟩ : ∃ r, r = findR L l f m W := ⟨_, rfl⟩
  rw [← hres]
  have HRES := Lib.hid (show res = if m < 1 ∨ ¬ (1 ≤ W ∧ W ≤ 64) then (0, 2) else (firstU (startsU (lowerU L l) (clampI f) (maxU (clampI m) 1) W), 0) from hres)
  clear h hu hR hL hres
  obtain ⟨r1, r2⟩ := res
  dsimp only
  go_enter Try.func22, Try.ntmps22
  go_wp2_with fail
  refine KT.out.mono ?_
  rintro e w' ⟨rfl, rfl⟩
  go_wp2_with fail
  refine KM.out.mono ?_
  rintro e W1 ⟨rfl, hb⟩
  have HB1 := Lib.hid hb
  clear hb KT KM
  by_cases hm : m < 1
  case pos =>
    have d1 : decide (m < 1) = true := decide_eq_true hm
    have HE := Lib.hid (show (r1, r2) = (0, 2) by rw [HRES.out, if_pos (.inl hm)])
    go_wp2_with fail
    go_ret2
    have := HE.out
    injection this with e1 e2
    subst e1 e2
    exact ⟨rfl, HB1.out⟩
  case neg =>
  have d1 : decide (m < 1) = false := decide_eq_false hm
  have HM := Lib.hid hm
  clear hm
  go_wp2_with fail
  refine (KW.out _).mono ?_
  rintro e w' ⟨rfl, rfl⟩
  by_cases hw : 1 ≤ W ∧ W ≤ 64
  case neg =>
    have d2 : decide (1 ≤ W ∧ W ≤ 64) = false := decide_eq_false hw
    have HE := Lib.hid (show (r1, r2) = (0, 2) by rw [HRES.out, if_pos (.inr hw)])
    rw [d2]
    clear hw d2
    go_wp2_with fail
    go_ret2
    have := HE.out
    injection this with e1 e2
    subst e1 e2
    exact ⟨rfl, HB1.out⟩
  case pos =>
  have d2 : decide (1 ≤ W ∧ W ≤ 64) = true := decide_eq_true hw
  have HE := Lib.hid (show (r1, r2) = (firstU (startsU (lowerU L l) (clampI f) (maxU (clampI m) 1) W), 0) by rw [HRES.out, if_neg (by have := HM.out; intro h1; rcases h1 with h1 | h1; omega; exact h1 hw)])
  rw [d2]
  clear hw d2 HRES HM
  have KC := Lib.hid (clone_any (HU.out.below HB1.out))
  go_wp2_with fail
  refine KC.out.mono ?_
  rintro e W2 ⟨S', rfl, hS', hu', hb⟩
  have HB2 := Lib.hid (below_next HB1.out hb)
  have HS' := Lib.hid (Nat.le_trans HB1.out.size hS')
  have HU2 := Lib.hid hu'
  have HRS2 := Lib.hid (HRS.out.below HB2.out)
  clear hb hu' hS' KC d1
  obtain ⟨v, v1, v2, v3⟩ := HRS2.out.at_
  obtain ⟨ad, c, hv, _, _, hr⟩ := v2.rd
  subst hv
  have hSlt : S' < W2.heap.size := by obtain ⟨_, _, _, h2, _⟩ := HU2.out.at_; exact (Array.getElem?_eq_some_iff.1 h2).1
  have KL := Lib.hid (lower_any (c := c) HU2.out HR.out HL.out HRS2.out.len (fun k hk => by
    obtain ⟨g, h1, h2, h3⟩ := hr (by omega)
    have h4 : g < w.heap.size := by
      obtain ⟨v', u1, u2, _⟩ := HRS.out.at_
      rw [(HB2.out.block _ HRS.out.lt).trans u1] at v1
      simp only [Option.some.injEq, Obj.cells.injEq, Array.mk.injEq, List.cons.injEq, and_true, true_and] at v1
      obtain ⟨rfl, _⟩ := v1
      exact Ap.own_lt u2 g (by rw [h1]; rfl)
    exact ⟨g, h1, h2, by have := HS'.out; omega, h3⟩))
  have c0 : W2.cell? ⟨F, 0, none⟩ = some (.slice ad l.length c) := cell_of_block (o := 0) v1 rfl
  clear v1 v2 v3 hr hSlt
  go_wp2_with fail
  refine KL.out.mono ?_
  rintro e W3 ⟨rfl, hu3, hf3⟩
  have HU3 := Lib.hid hu3
  have HB3 := Lib.hid (show Below w.heap.size w W3 from HB2.out.trans (hf3.below (B := w.heap.size) HB2.out.size (fun j hj => by subst hj; exact HS'.out)))
  clear hu3 hf3 c0 KL
  have KE := Lib.hid (earliest_any (w := W3) (v := .pointer (some ⟨S', 0, none⟩)) f m W (lowerU_right HR.out l) (Nat.le_trans (lowerU_len L l) (len_bound HL.out HRS.out.len)) (fun X hX => levels_any (HU3.out.below hX)))
  generalize hfu : firstU (startsU (lowerU L l) (clampI f) (maxU (clampI m) 1) W) = fu at *
  go_wp2_with fail
  refine KE.out.mono ?_
  rintro e W4 ⟨rfl, hb⟩
  have HB4 := Lib.hid (below_next HB3.out hb)
  clear hb
  go_wp2_with fail
  go_ret2
  have := HE.out
  injection this with e1 e2
  subst e1 e2
  exact ⟨rfl, HB4.out⟩
end Go.Proofs.Ytbhnjmdlagjfbaa
namespace Go.Proofs.Ytbhnjmdlagjfbaa
set_option linter.unusedVariables false
open Go.ChangeShapes Go.WideShapes Go.ChangeAt Go.RowKit
attribute [local go_sem ↓] Go.wp_at_zero Go.wp_at_succ comesTo_value_eq comesTo_skip_eq comesTo_enter_eq

def i64R (x : Int) : Prop := -9223372036854775808 ≤ x ∧ x ≤ 9223372036854775807
theorem Rs.lt_le {w : World} {B F : Nat} {l : List RV} {n : Int} (h : Rs w B F l n) : F ≤ w.heap.size := Nat.le_of_lt h.lt
/-- a list that may be -/
structure RG (l : List RV) (n : Int) : Prop where
  may : ∀ r ∈ l, 1 ≤ r.1 ∧ r.1 < n ∧ mayR r.2.1 r.2.2.1 r.2.2.2 = true
  inc : l.Pairwise (fun a b => a.1 < b.1)
  pos : 1 ≤ n ∧ n ≤ 1073741825
  len : l.length ≤ 8
theorem RG.new : RG [] 1 := ⟨fun r hr => (by cases hr), List.Pairwise.nil, by decide, by decide⟩
theorem RG.add {l : List RV} {n : Int} (h : RG l n) (L : List (Int × Int)) (f t W : Int) : RG (addR L l n f t W).2.2.1 (addR L l n f t W).2.2.2 := by
  have hp := h.pos
  unfold addR
  split
  · exact h
  · rename_i h1
    split
    · exact h
    · rename_i h2
      split
      · exact h
      · have h1' : mayR f t W = true := by simpa using h1
        rw [not_or] at h2
        refine ⟨fun r hr => ?_, List.pairwise_append.2 ⟨h.inc, List.pairwise_singleton _ _, fun a ha b hb => ?_⟩, by dsimp only; omega, by dsimp only; rw [List.length_append]; simp only [List.length_cons, List.length_nil]; omega⟩
        · rcases List.mem_append.1 hr with hr | hr
          · have := h.may r hr
            exact ⟨this.1, by dsimp only; omega, this.2.2⟩
          · obtain rfl := List.mem_singleton.1 hr
            exact ⟨hp.1, by dsimp only; omega, h1'⟩
        · obtain rfl := List.mem_singleton.1 hb
          exact (h.may a ha).2.1
theorem rightF (n : Int) : RightU [(0, boundU n)] :=
  ⟨⟨_, _, rfl⟩, List.pairwise_singleton _ _, fun a b p q e => by
    have := congrArg List.length e
    simp at this
    omega, fun p hp => by obtain rfl := List.mem_singleton.1 hp; show (0 : Int) < 1099511627776; decide, fun p hp => by obtain rfl := List.mem_singleton.1 hp; exact boundU_in n⟩
theorem one_a : addR [(0, boundU 4)] [] 1 5 9 3 = (1, 0, [(1, 5, 9, 3)], 2) := by kernel_rfl
theorem one_b : addR [(0, boundU 4)] [(1, 5, 9, 3)] 2 8 10 2 = (0, 16, [(1, 5, 9, 3)], 2) := by kernel_rfl
theorem one_c : findR [(0, boundU 4)] [(1, 5, 9, 3)] 3 3 2 = (9, 0) := by kernel_rfl
set_option maxRecDepth 100000 in
set_option maxHeartbeats 4000000 in
theorem rone (w : World) : Calls Try.prog 27 #[] w fun e w' => e = .returned (.bool true) ∧ Below w.heap.size w w' := by
  have KN := Lib.hid (new_rs w)
  have KF := Lib.hid (fun X => flat_any 4 X)
  have KA := Lib.hid (fun X F S (h : Rs X F F [] 1) (hu : USt X S [(0, boundU 4)]) => (show Calls Try.prog 16 #[.pointer (some ⟨F, 0, none⟩), .pointer (some ⟨S, 0, none⟩), .agg #[.int .i64 5, .int .i64 9], .int .i64 3] X fun e w' => e = .returned (.tuple #[.int .i64 1, .int .i64 0]) ∧ Rs w' F F [(1, 5, 9, 3)] 2 ∧ FrL F X w' from by
    have := add_rs h hu (rightF 4) (by decide) (Nat.le_refl _) 5 9 3
    unfold AddREnd at this
    rw [one_a] at this
    exact this))
  have KB := Lib.hid (fun X F S (h : Rs X F F [(1, 5, 9, 3)] 2) (hu : USt X S [(0, boundU 4)]) => (show Calls Try.prog 16 #[.pointer (some ⟨F, 0, none⟩), .pointer (some ⟨S, 0, none⟩), .agg #[.int .i64 8, .int .i64 10], .int .i64 2] X fun e w' => e = .returned (.tuple #[.int .i64 0, .int .i64 16]) ∧ Rs w' F F [(1, 5, 9, 3)] 2 ∧ FrL F X w' from by
    have := add_rs h hu (rightF 4) (by decide) (Nat.le_refl _) 8 10 2
    unfold AddREnd at this
    rw [one_b] at this
    exact this))
  have KC := Lib.hid (fun X F S (h : Rs X F F [(1, 5, 9, 3)] 2) (hu : USt X S [(0, boundU 4)]) => (show Calls Try.prog 22 #[.pointer (some ⟨F, 0, none⟩), .pointer (some ⟨S, 0, none⟩), .int .i64 3, .int .i64 3, .int .i64 2] X fun e w' => e = .returned (.tuple #[.int .i64 9, .int .i64 0]) ∧ Below X.heap.size X w' from by
    have := find_rs h hu (rightF 4) (by decide) 3 3 2
    rw [one_c] at this
    exact this))
  go_enter Try.func27, Try.ntmps27
  go_wp2_with fail
  refine KN.out.mono ?_
  rintro e W1 ⟨rfl, hr, hb⟩
  have HR1 := Lib.hid hr
  have HB1 := Lib.hid hb
  obtain ⟨F, hF⟩ : ∃ F, F = w.heap.size := ⟨_, rfl⟩
  rw [← hF] at HR1 HB1 ⊢
  have HFE := Lib.hid hF
  clear hr hb KN hF
  go_wp2_with fail
  refine (KF.out _).mono ?_
  rintro e W2 ⟨S, rfl, _, hu, hb⟩
  have HR2 := Lib.hid (HR1.out.below hb)
  have HB2 := Lib.hid (HB1.out.trans (hb.mono HR1.out.lt_le))
  have HU2 := Lib.hid hu
  clear hu hb HR1
  go_wp2_with fail
  refine (KA.out _ _ _ HR2.out HU2.out).mono ?_
  rintro e W3 ⟨rfl, hr, hf⟩
  have HB3 := Lib.hid (HB2.out.trans (hf.below HR2.out (Nat.le_refl _)))
  have HR3 := Lib.hid hr
  clear hr hf HR2 HU2
  go_wp2_with fail
  refine (KF.out _).mono ?_
  rintro e W4 ⟨S2, rfl, _, hu, hb⟩
  have HR4 := Lib.hid (HR3.out.below hb)
  have HB4 := Lib.hid (HB3.out.trans (hb.mono HR3.out.lt_le))
  have HU4 := Lib.hid hu
  clear hu hb HR3
  go_wp2_with fail
  refine (KB.out _ _ _ HR4.out HU4.out).mono ?_
  rintro e W5 ⟨rfl, hr, hf⟩
  have HB5 := Lib.hid (HB4.out.trans (hf.below HR4.out (Nat.le_refl _)))
  have HR5 := Lib.hid hr
  clear hr hf HR4 HU4
  go_wp2_with fail
  refine (KF.out _).mono ?_
  rintro e W6 ⟨S3, rfl, _, hu, hb⟩
  have HR6 := Lib.hid (HR5.out.below hb)
  have HB6 := Lib.hid (HB5.out.trans (hb.mono HR5.out.lt_le))
  have HU6 := Lib.hid hu
  clear hu hb HR5
  go_wp2_with fail
  refine (KC.out _ _ _ HR6.out HU6.out).mono ?_
  rintro e W7 ⟨rfl, hb⟩
  have HB7 := Lib.hid (HB6.out.trans (hb.mono HR6.out.lt_le))
  clear hb
  go_wp2_with fail
  go_ret
  exact ⟨rfl, by have := HB7.out; rw [HFE.out] at this; exact this⟩
end Go.Proofs.Ytbhnjmdlagjfbaa
namespace Go.Proofs.Ytbhnjmdlagjfbaa
set_option linter.unusedVariables false
open Go.ChangeShapes Go.WideShapes Go.ChangeAt Go.RowKit
attribute [local go_sem ↓] Go.wp_at_zero Go.wp_at_succ comesTo_value_eq comesTo_skip_eq comesTo_enter_eq

/-- the list's row is another one, laid since -/
theorem relay {w w0 W W' : World} {B F : Nat} {l l' : List RV} {n : Int} {v : Value} (h : Rs w B F l n) (hB : B ≤ F) (hb : Below w.heap.size w W) (ho : OwnR W w0.heap.size v l') (h0 : w.heap.size ≤ w0.heap.size) (hl : l'.length ≤ 8) {a : Option Addr} {m c : Nat} (hv : v = .slice a m c)
    {x : Value} (hF : W.heap[F]? = some (.cells #[x, .int .i64 n] 111 (0, 0))) (hw : WroteTo F 111 #[v, .int .i64 n] W W') : Rs W' B F l' n ∧ FrL F w W' := by
  have hlt := h.lt
  have hne : ∀ k, v.ownBlock = some k → k ≠ F := fun k hk e => by have := Ap.own_blk ho k hk; omega
  refine ⟨⟨⟨v, hw.there, (ho.keep fun k hk => hw.rest k (hne k hk)).base (by omega), fun e => hne F e rfl⟩, h.pos, hl⟩, ⟨hw.os.trans hb.os, hw.tape.trans hb.tape, hw.output.trans hb.output, by rw [hw.size]; exact hb.size, fun b hlb hn hr => ⟨(hw.rest b hn).trans (hb.block b hlb), ?_⟩⟩⟩
  rintro ⟨m', c', x', hx⟩
  rw [hw.there] at hx
  simp only [Option.some.injEq, Obj.cells.injEq, Array.mk.injEq, List.cons.injEq, and_true, true_and] at hx
  obtain ⟨rfl, _⟩ := hx
  have := Ap.own_blk ho b rfl
  omega
def dropL (l : List RV) (i : Int) : List RV := l.filter fun r => r.1 != i
def dropR (l : List RV) (i : Int) : Int × List RV := if (dropL l i).length = l.length then (13, l) else (0, dropL l i)
set_option maxRecDepth 100000 in
set_option maxHeartbeats 4000000 in
theorem drop_rs {w : World} {B F : Nat} {l : List RV} {n : Int} (h : Rs w B F l n) (hB : B ≤ F) (i : Int) :
    Calls Try.prog 18 #[.pointer (some ⟨F, 0, none⟩), .int .i64 i] w fun e w' => e = .returned (.int .i64 (dropR l i).1) ∧ Rs w' B F (dropR l i).2 n ∧ FrL F w w' := by
  have hlt := h.lt
  have hA := below_alloc (Below.refl _ w) (.cells #[.int .i64 i] 3)
  have HN := Lib.hid (World.alloc_heap_new w (.cells #[.int .i64 i] 3))
  have HA := Lib.hid hA
  have HRS := Lib.hid h
  have HR1 := Lib.hid (h.below hA)
  have HLF := Lib.hid (And.intro hlt hB)
  have HLEN := Lib.hid h.len
  have KT := Lib.hid (there_rs (h.below hA))
  obtain ⟨v, h1, h2, _⟩ := h.at_
  obtain ⟨ad, c, rfl⟩ := h2.form
  have HF := Lib.hid ((hA.block _ hlt).trans h1)
  clear hA h1 h2 hlt hB
  have KTH := Lib.hid (those_pure HR1.out 68 #[.pointer (some ⟨w.heap.size, 0, none⟩)] (fun r => r.1 != i) (enters_of Try.func68 (by kernel_rfl) rfl) (fun r X hX => drop1 ((hX.block _ (by simp)).trans HN.out) r))
  clear h
  obtain ⟨res, hres⟩ : ∃ r, r = dropR l i := ⟨_, rfl⟩
  rw [← hres]
  have HRES := Lib.hid hres
  clear hres
  obtain ⟨dc, dl⟩ := res
  dsimp only
  go_enter Try.func18, Try.ntmps18
  go_upto_region 1 with fail
  have HSZ := Lib.hid (show w.heap.size ≤ (w.alloc (.cells #[.int .i64 i] 3)).heap.size from HA.out.size)
  generalize w.alloc (.cells #[.int .i64 i] 3) = W1 at *
  go_wp2_with fail
  refine KT.out.mono ?_
  rintro e w1 ⟨rfl, rfl⟩
  go_wp2_with fail
  refine KTH.out.mono ?_
  rintro e W2 ⟨v2, rfl, ho, hb⟩
  have HB2 := Lib.hid (below_next HA.out hb)
  have HO := Lib.hid (show OwnR W2 W1.heap.size v2 (dropL l i) from ho)
  have hF2 := (hb.block _ (Array.getElem?_eq_some_iff.1 HF.out).1).trans HF.out
  have HF2 := Lib.hid hF2
  obtain ⟨a2, c2, hv2⟩ := HO.out.form
  have HV := Lib.hid hv2
  have c0 : W2.cell? ⟨F, 0, none⟩ = some (.slice ad l.length c) := cell_of_block (o := 0) hF2 rfl
  have f0 := free_of_block 0 hF2
  have HW := Lib.hid ((wrote_refl hF2).set 0 v2)
  have HDL := Lib.hid (show (dropL l i).length ≤ 8 from Nat.le_trans (List.length_filter_le _ _) HLEN.out)
  subst hv2
  clear ho hb hF2 KT KTH
  obtain ⟨m, hm⟩ : ∃ m, m = (dropL l i).length := ⟨_, rfl⟩
  rw [← hm] at HW ⊢
  by_cases he : m = l.length
  · have HE := Lib.hid (show (dc, dl) = (13, l) by rw [HRES.out]; unfold dropR; rw [if_pos (by rw [← hm]; exact he)])
    have d1 : ((m : Int) == (l.length : Int)) = true := by rw [beq_iff_eq]; omega
    have d2 : (m == l.length) = true := by rw [beq_iff_eq]; exact he
    clear he hm
    go_wp2_with fail
    go_ret
    have := HE.out
    injection this with e1 e2
    subst e1 e2
    exact ⟨rfl, HRS.out.below HB2.out, FrL.of_below HLF.out.1 HB2.out⟩
  · have HE := Lib.hid (show (dc, dl) = (0, dropL l i) by rw [HRES.out]; unfold dropR; rw [if_neg (by rw [← hm]; exact he)])
    have d1 : ((m : Int) == (l.length : Int)) = false := by rw [beq_eq_false_iff_ne]; omega
    have d2 : (m == l.length) = false := by rw [beq_eq_false_iff_ne]; exact he
    have HRE := Lib.hid (relay HRS.out HLF.out.2 HB2.out HO.out HSZ.out HDL.out (by rw [← hm]) HF2.out (by rw [← hm]; exact HW.out))
    have HM := Lib.hid hm
    clear he hm
    go_wp2_with fail
    go_ret
    have := HE.out
    injection this with e1 e2
    subst e1 e2
    exact ⟨rfl, HRE.out.1, HRE.out.2⟩
/-- an own row of numbers -/
def OwnZ (w : World) (B : Nat) (v : Value) (l : List Int) : Prop := w.ownsRow B 3 1 v l.length (l.map (Value.int .i64))
theorem info_intZ : (Try.prog.info? 3).map (fun i => (i.zero, i.size, i.bytes)) = some (some (.int .i64 0), 1, 8) := by kernel_rfl
theorem eltZ : Ap.Elt Try.prog 53 3 1 8 :=
  ⟨Try.underlying53, by obtain ⟨i, h1, h2, h3, h4⟩ := info_parts3 info_intZ; exact ⟨i, _, h1, h2, h3, h4, rfl⟩, by decide⟩
theorem OwnZ.nil {w : World} {B : Nat} : OwnZ w B (.slice none 0 0) [] := ⟨rfl, .inl ⟨rfl, rfl⟩⟩
theorem OwnZ.form {w : World} {B : Nat} {v : Value} {l : List Int} (h : OwnZ w B v l) : ∃ a c, v = .slice a l.length c := by
  rcases h.2 with ⟨rfl, h1⟩ | ⟨g, cap, cur, hv, _⟩
  · exact ⟨none, 0, by rw [h1]⟩
  · exact ⟨_, _, hv⟩
theorem OwnZ.own {w : World} {B : Nat} {v : Value} {l : List Int} (h : OwnZ w B v l) {g : Nat} (hg : v.ownBlock = some g) : ∃ cs, w.heap[g]? = some (.cells cs 3 (0, 0)) := by
  rcases h.2 with ⟨rfl, _⟩ | ⟨g', cap, cur, rfl, _, hh, _⟩
  · cases hg
  · simp only [Value.ownBlock, Option.some.injEq] at hg
    subst hg
    exact ⟨_, hh⟩
/-- where Past stands: its time, what is gone so far -/
structure PastAt (w : World) (now : Int) (ids : List Int) (W : World) : Prop where
  z : W.heap[w.heap.size]? = some (.cells #[.int .i64 now] 37 (0, 0))
  g : ∃ v, W.heap[w.heap.size + 1]? = some (.cells #[v] 53 (0, 0)) ∧ OwnZ W (w.heap.size + 2) v ids
  bel : Below w.heap.size w W
theorem PastAt.same {w W W' : World} {now : Int} {ids : List Int} (h : PastAt w now ids W) (hs : W.heap.size ≤ W'.heap.size) (h1 : W'.os = W.os ∧ W'.tape = W.tape ∧ W'.output = W.output) (hb : ∀ j, j < W.heap.size → j < w.heap.size + 2 ∨ (∃ cs, W.heap[j]? = some (.cells cs 3 (0, 0))) → W'.heap[j]? = W.heap[j]?) : PastAt w now ids W' := by
  obtain ⟨v, g1, g2⟩ := h.g
  have hl := (Array.getElem?_eq_some_iff.1 g1).1
  refine ⟨(hb _ (by omega) (.inl (by omega))).trans h.z, ⟨v, (hb _ hl (.inl (by omega))).trans g1, Ap.own_keep g2 fun k hk => hb k (Ap.own_lt g2 k hk) (.inr (g2.own hk))⟩, ⟨h1.1.trans h.bel.os, h1.2.1.trans h.bel.tape, h1.2.2.trans h.bel.output, Nat.le_trans h.bel.size hs, fun j hj => (hb j (by omega) (.inl (by omega))).trans (h.bel.block j hj)⟩⟩
theorem PastAt.kp {w W W' : World} {now : Int} {ids : List Int} {B0 : Nat} (h : PastAt w now ids W) (hk : KpR B0 W W') (hB : w.heap.size + 2 ≤ B0) : PastAt w now ids W' :=
  h.same hk.size ⟨hk.os, hk.tape, hk.output⟩ fun j hj hor => by
    rcases hk.block j hj with h1 | ⟨h1, cs, m, h2⟩
    · exact h1
    · rcases hor with h3 | ⟨cs', h3⟩
      · omega
      · rw [h3] at h2
        simp only [Option.some.injEq, Obj.cells.injEq] at h2
        exact absurd h2.2.1 (by decide)
theorem PastAt.below {w W W' : World} {now : Int} {ids : List Int} (h : PastAt w now ids W) (hb : Below W.heap.size W W') : PastAt w now ids W' := h.same hb.size ⟨hb.os, hb.tape, hb.output⟩ fun j hj _ => hb.block j hj
def goneR (now : Int) (l : List RV) : List Int := (l.filter fun r => decide (r.2.2.1 ≤ now)).map (·.1)
theorem goneR_take (now : Int) (l : List RV) {k : Nat} (hk : k < l.length) : goneR now (l.take (k + 1)) = goneR now (l.take k) ++ (if (l.getD k zR).2.2.1 ≤ now then [(l.getD k zR).1] else []) := by
  unfold goneR
  rw [List.take_succ_eq_append_getElem hk, List.filter_append, List.map_append, show l.getD k zR = l[k] by simp [List.getD, List.getElem?_eq_getElem hk]]
  congr 1
  by_cases h : l[k].2.2.1 ≤ now
  · simp [h]
  · simp [h]
set_option maxRecDepth 100000 in
set_option maxHeartbeats 4000000 in
theorem past1 {w W : World} {now : Int} {ids : List Int} (h : PastAt w now ids W) (hl : ids.length ≤ 8) (r : RV) :
    Calls Try.prog 69 #[.agg #[.int .i64 r.1, .int .i64 r.2.1, .int .i64 r.2.2.1, .int .i64 r.2.2.2], .pointer (some ⟨w.heap.size, 0, none⟩), .pointer (some ⟨w.heap.size + 1, 0, none⟩)] W fun e w' => e = .returned (.bool (decide (now < r.2.2.1))) ∧ PastAt w now (ids ++ (if r.2.2.1 ≤ now then [r.1] else [])) w' ∧ StR W w' := by
  obtain ⟨r1, r2, r3, r4⟩ := r
  dsimp only
  have hb := below_alloc (Below.refl _ W) (.cells #[.int .i64 r1, .int .i64 r2, .int .i64 r3, .int .i64 r4] 125)
  have hN := Lib.hid (World.alloc_heap_new W (.cells #[.int .i64 r1, .int .i64 r2, .int .i64 r3, .int .i64 r4] 125))
  have HP := Lib.hid (h.below hb)
  have HST := Lib.hid (StR.of_below hb)
  have HL := Lib.hid hl
  have HLT := Lib.hid (show w.heap.size + 1 < W.heap.size from by obtain ⟨_, g1, _⟩ := h.g; exact (Array.getElem?_eq_some_iff.1 g1).1)
  obtain ⟨rb, hrb⟩ : ∃ b, b = decide (now < r3) := ⟨_, rfl⟩
  obtain ⟨ri, hri⟩ : ∃ x, x = ids ++ (if r3 ≤ now then [r1] else []) := ⟨_, rfl⟩
  rw [← hrb, ← hri]
  have HRB := Lib.hid hrb
  have HRI := Lib.hid hri
  clear h hb hl hrb hri
  go_enter Try.func69, Try.ntmps69
  go_upto_region 1 with fail
  generalize W.alloc (.cells #[.int .i64 r1, .int .i64 r2, .int .i64 r3, .int .i64 r4] 125) = W1 at *
  have hqne := HLT.out
  generalize W.heap.size = q at *
  have y0 : W1.cell? ⟨q, 0, none⟩ = some (.int .i64 r1) := cell_of_block (o := 0) hN.out rfl
  have y2 : W1.cell? ⟨q, 2, none⟩ = some (.int .i64 r3) := cell_of_block (o := 2) hN.out rfl
  have z0 : W1.cell? ⟨w.heap.size, 0, none⟩ = some (.int .i64 now) := cell_of_block (o := 0) HP.out.z rfl
  by_cases ht : r3 ≤ now
  · have d1 : decide (r3 ≤ now) = true := decide_eq_true ht
    have d2 : decide (r3 > now) = false := decide_eq_false (by omega)
    have d3 : decide (now < r3) = false := decide_eq_false (by omega)
    have HIF := Lib.hid (show ri = ids ++ [r1] ∧ rb = false from ⟨by rw [HRI.out, if_pos ht], by rw [HRB.out]; exact d3⟩)
    obtain ⟨v, g1, g2⟩ := HP.out.g
    obtain ⟨a, c, hv⟩ := g2.form
    subst hv
    have HG1 := Lib.hid g1
    have HG2 := Lib.hid g2
    clear ht
    go_upto_region 2 with fail
    have x0 : W1.cell? ⟨w.heap.size + 1, 0, none⟩ = some (.slice a ids.length c) := cell_of_block (o := 0) g1 rfl
    clear g1 g2
    refine wp_region_lit ?_
    refine wpList_yield (w' := W1) (v := .slice a ids.length c) rfl (by go_simp) ?_
    refine wpList_yield (w' := W1) (v := .pointer (some ⟨q, 0, none⟩)) rfl (by go_simp) ?_
    refine wpList_yield (w' := W1) (v := .int .i64 r1) rfl (by go_simp) ?_
    refine wpList_yield (w' := W1.alloc (.cells #[.int .i64 r1] 3)) (v := .slice (some ⟨W1.heap.size, 0, none⟩) 1 1) rfl (by go_simp) ?_
    obtain ⟨v4, w4, e0, e1, e2, e3, e4, e5⟩ := Ao.app_one eltZ 53 HG2.out [.int .i64 r1] rfl (by intro u hu; simp at hu; subst hu; rfl) (by have := HL.out; omega) (by decide) (show w.heap.size + 2 ≤ W1.heap.size from by have := (Array.getElem?_eq_some_iff.1 HG1.out).1; omega)
    have ho4 : OwnZ w4 (w.heap.size + 2) v4 (ids ++ [r1]) := by
      unfold OwnZ
      rw [List.length_append, List.map_append]
      exact e1
    obtain ⟨a4, c4, hf4⟩ := ho4.form
    have hf5 : v4 = .slice a4 (ids.length + 1) c4 := by rw [hf4, List.length_append]; rfl
    subst hf5
    refine wpList_yield (w' := w4) (v := .slice a4 (ids.length + 1) c4) rfl (Ap.exec_app rfl (by go_simp) (by go_simp) e0) ?_
    have hne : (Value.slice a ids.length c).ownBlock ≠ some (w.heap.size + 1) := fun e => by have := Ap.own_blk HG2.out _ e; omega
    have hg4 := (e2 _ (Array.getElem?_eq_some_iff.1 HG1.out).1 hne).trans HG1.out
    have hw := (wrote_refl hg4).set 0 (.slice a4 (ids.length + 1) c4)
    have hsame : ∀ j, j < W1.heap.size → j ≠ w.heap.size + 1 → (Value.slice a ids.length c).ownBlock ≠ some j → (w4.setCell ⟨w.heap.size + 1, 0, none⟩ (.slice a4 (ids.length + 1) c4)).heap[j]? = W1.heap[j]? := fun j j1 j2 j3 => (hw.rest j j2).trans (e2 j j1 j3)
    have HP5 := Lib.hid (show PastAt w now (ids ++ [r1]) (w4.setCell ⟨w.heap.size + 1, 0, none⟩ (.slice a4 (ids.length + 1) c4)) from
      ⟨(hsame _ (Array.getElem?_eq_some_iff.1 HP.out.z).1 (by omega) (fun e => by have := Ap.own_blk HG2.out _ e; omega)).trans HP.out.z, ⟨_, hw.there, Ap.own_keep ho4 fun k hk => hw.rest k (by have := Ap.own_blk ho4 k hk; omega)⟩, hw.below (HP.out.bel.trans (e5.mono (by omega))) (by omega)⟩)
    have HST5 := Lib.hid (show StR W (w4.setCell ⟨w.heap.size + 1, 0, none⟩ (.slice a4 (ids.length + 1) c4)) from HST.out.trans ⟨by rw [hw.size]; exact e3, fun j cs m hj => hsame j (Array.getElem?_eq_some_iff.1 hj).1 (fun e => by
        subst e
        rw [HG1.out] at hj
        simp only [Option.some.injEq, Obj.cells.injEq] at hj
        exact absurd hj.2.1 (by decide)) (fun e => by
        obtain ⟨cs', h5⟩ := HG2.out.own e
        rw [h5] at hj
        simp only [Option.some.injEq, Obj.cells.injEq] at hj
        exact absurd hj.2.1 (by decide))⟩)
    have hN5 := (HST5.out.block q #[.int .i64 r1, .int .i64 r2, .int .i64 r3, .int .i64 r4] (0, 0))
    have x4 := cell_of_block (o := 0) hg4 rfl
    have f4 := free_of_block 0 hg4
    have hq5 : (w4.setCell ⟨w.heap.size + 1, 0, none⟩ (.slice a4 (ids.length + 1) c4)).heap[q]? = some (.cells #[.int .i64 r1, .int .i64 r2, .int .i64 r3, .int .i64 r4] 125 (0, 0)) := by
      refine (hsame q (Array.getElem?_eq_some_iff.1 hN.out).1 (by omega) (fun e => ?_)).trans hN.out
      obtain ⟨cs', h5⟩ := HG2.out.own e
      rw [hN.out] at h5
      simp only [Option.some.injEq, Obj.cells.injEq] at h5
      exact absurd h5.2.1 (by decide)
    have HQ5 := Lib.hid hq5
    clear e0 e1 e2 e3 e4 e5 ho4 hg4 hw hsame hN5 y0 y2 z0 x0 hq5 hf4 hne
    go_upto_region 3 with fail
    clear x4 f4
    generalize w4.setCell ⟨w.heap.size + 1, 0, none⟩ (.slice a4 (ids.length + 1) c4) = W5 at *
    have y2 : W5.cell? ⟨q, 2, none⟩ = some (.int .i64 r3) := cell_of_block (o := 2) HQ5.out rfl
    have z0 : W5.cell? ⟨w.heap.size, 0, none⟩ = some (.int .i64 now) := cell_of_block (o := 0) HP5.out.z rfl
    go_wp2_with fail
    go_ret
    exact ⟨by rw [HIF.out.2]; rfl, by rw [HIF.out.1]; exact HP5.out, HST5.out⟩
  · have d1 : decide (r3 ≤ now) = false := decide_eq_false ht
    have d2 : decide (r3 > now) = true := decide_eq_true (by omega)
    have d3 : decide (now < r3) = true := decide_eq_true (by omega)
    have HIF := Lib.hid (show ri = ids ∧ rb = true from ⟨by rw [HRI.out, if_neg ht, List.append_nil], by rw [HRB.out]; exact d3⟩)
    clear ht
    go_wp2_with fail
    go_ret
    exact ⟨by rw [HIF.out.2]; rfl, by rw [HIF.out.1]; exact HP.out, HST.out⟩
def pastL (now : Int) (l : List RV) : List RV := l.filter fun r => decide (now < r.2.2.1)
set_option maxRecDepth 100000 in
set_option maxHeartbeats 4000000 in
theorem past_rs {w : World} {B F : Nat} {l : List RV} {n : Int} (h : Rs w B F l n) (hB : B ≤ F) (now : Int) :
    Calls Try.prog 20 #[.pointer (some ⟨F, 0, none⟩), .int .i64 now] w fun e w' => ∃ v, e = .returned v ∧ OwnZ w' w.heap.size v (goneR now l) ∧ Rs w' B F (pastL now l) n ∧ FrL F w w' := by
  have hlt := h.lt
  have b1 := below_alloc (Below.refl _ w) (.cells #[.int .i64 now] 37)
  have b2 := below_alloc (Below.refl _ (w.alloc (.cells #[.int .i64 now] 37))) (.cells #[.slice none 0 0] 53)
  have n1 := World.alloc_heap_new w (.cells #[.int .i64 now] 37)
  have n2 := World.alloc_heap_new (w.alloc (.cells #[.int .i64 now] 37)) (.cells #[.slice none 0 0] 53)
  rw [World.size_alloc] at n2
  have KT := Lib.hid (there_rs (h.below b1))
  have HPA := Lib.hid (show PastAt w now (goneR now (l.take 0)) ((w.alloc (.cells #[.int .i64 now] 37)).alloc (.cells #[.slice none 0 0] 53)) from
    ⟨(b2.block _ (by simp)).trans n1, ⟨_, n2, OwnZ.nil⟩, below_next b1 b2⟩)
  have HRS := Lib.hid h
  have HR2 := Lib.hid ((h.below b1).below b2)
  have HLF := Lib.hid (And.intro hlt hB)
  have HLEN := Lib.hid h.len
  obtain ⟨v, h1, h2, _⟩ := h.at_
  have HF := Lib.hid ((b2.block _ (Nat.lt_of_lt_of_le hlt b1.size)).trans ((b1.block _ hlt).trans h1))
  have HV := Lib.hid (fun X (hX : Below w.heap.size w X) => h2.rd.below hX)
  have HSZ := Lib.hid (show ((w.alloc (.cells #[.int .i64 now] 37)).alloc (.cells #[.slice none 0 0] 53)).heap.size = w.heap.size + 2 from by simp)
  clear b1 b2 n1 n2 h1 h2 hlt hB h
  go_enter Try.func20, Try.ntmps20
  go_wp2_with fail
  refine KT.out.mono ?_
  rintro e w1 ⟨rfl, rfl⟩
  go_upto_region 4 with fail
  generalize (w.alloc (.cells #[.int .i64 now] 37)).alloc (.cells #[.slice none 0 0] 53) = W2 at *
  have KTH := Lib.hid (those_any HR2.out 69 #[.pointer (some ⟨w.heap.size, 0, none⟩), .pointer (some ⟨w.heap.size + 1, 0, none⟩)] (fun r => decide (now < r.2.2.1)) (fun k W => PastAt w now (goneR now (l.take k)) W)
    (enters_of Try.func69 (by kernel_rfl) rfl) HPA.out
    (fun k W v' hi _ hF' _ => by
      rw [HF.out] at hF'
      simp only [Option.some.injEq, Obj.cells.injEq, Array.mk.injEq, List.cons.injEq, and_true, true_and] at hF'
      subst hF'
      exact HV.out W hi.bel)
    (fun k W W' hi hk => hi.kp hk (by rw [HSZ.out]; exact Nat.le_refl _))
    (fun k W hk hi => (past1 hi (by
        unfold goneR
        rw [List.length_map]
        refine Nat.le_trans (List.length_filter_le _ _) ?_
        rw [List.length_take]
        have := HLEN.out
        omega) (l.getD k zR)).mono (fun e w' ⟨h1, h2, h3⟩ => ⟨h1, by rw [goneR_take now l hk]; exact h2, h3⟩)))
  go_wp2_with fail
  refine KTH.out.mono ?_
  rintro e W3 ⟨v2, rfl, ho, hpa, _⟩
  rw [List.take_length] at hpa
  have HPA3 := Lib.hid hpa
  have hF3 := (hpa.bel.block F HLF.out.1).trans (show w.heap[F]? = some (.cells #[v, .int .i64 n] 111 (0, 0)) from by
    obtain ⟨v', u1, _, _⟩ := HRS.out.at_
    have u2 := (HPA.out.bel.block F HLF.out.1).trans u1
    rw [HF.out] at u2
    rw [u1]
    exact u2.symm)
  obtain ⟨a2, c2, hv2⟩ := ho.form
  have HW := Lib.hid ((wrote_refl hF3).set 0 v2)
  have HRE := Lib.hid (relay HRS.out HLF.out.2 hpa.bel ho (by rw [HSZ.out]; omega) (Nat.le_trans (List.length_filter_le _ _) HLEN.out) hv2 hF3 HW.out)
  have c0 : W3.cell? ⟨F, 0, none⟩ = some v := cell_of_block (o := 0) hF3 rfl
  have f0 := free_of_block 0 hF3
  have HG := Lib.hid (show ∃ vg, (W3.setCell ⟨F, 0, none⟩ v2).heap[w.heap.size + 1]? = some (.cells #[vg] 53 (0, 0)) ∧ OwnZ (W3.setCell ⟨F, 0, none⟩ v2) (w.heap.size + 2) vg (goneR now l) from by
    obtain ⟨vg, g1, g2⟩ := hpa.g
    have hF := HLF.out.1
    exact ⟨vg, (HW.out.rest _ (by omega)).trans g1, Ap.own_keep g2 fun k hk => HW.out.rest k (by have := Ap.own_blk g2 k hk; omega)⟩)
  subst hv2
  have HBS := Lib.hid (show w.heap.size + 2 ≤ (W3.setCell ⟨F, 0, none⟩ (.slice a2 (l.filter fun r => decide (now < r.2.2.1)).length c2)).heap.size from by
    rw [HW.out.size]
    have := (Array.getElem?_eq_some_iff.1 hpa.z).1
    obtain ⟨_, g1, _⟩ := hpa.g
    exact (Array.getElem?_eq_some_iff.1 g1).1)
  clear hpa hF3 ho HW KTH
  generalize (l.filter fun r => decide (now < r.2.2.1)).length = m at *
  go_upto_region 5 with fail
  clear c0 f0
  generalize W3.setCell ⟨F, 0, none⟩ (.slice a2 m c2) = W4 at *
  obtain ⟨vg, g1, g2⟩ := HG.out
  obtain ⟨ag, cg, hvg⟩ := g2.form
  have HO := Lib.hid (show OwnZ W4 w.heap.size vg (goneR now l) from by
    refine ⟨g2.1, ?_⟩
    rcases g2.2 with hn | ⟨g, cap, cur, hv, h1, rest⟩
    · exact .inl hn
    · exact .inr ⟨g, cap, cur, hv, by omega, rest⟩)
  have x0 : W4.cell? ⟨w.heap.size + 1, 0, none⟩ = some vg := cell_of_block (o := 0) g1 rfl
  subst hvg
  clear g1 g2
  go_wp2_with fail
  go_ret
  exact ⟨_, rfl, HO.out, HRE.out.1, HRE.out.2⟩
end Go.Proofs.Ytbhnjmdlagjfbaa
namespace Go.Proofs.Ytbhnjmdlagjfbaa
set_option linter.unusedVariables false
open Go.ChangeShapes Go.WideShapes Go.ChangeAt Go.RowKit
attribute [local go_sem ↓] Go.wp_at_zero Go.wp_at_succ comesTo_value_eq comesTo_skip_eq comesTo_enter_eq

set_option maxRecDepth 100000 in
set_option maxHeartbeats 2000000 in
theorem rmay_any (f t W : Int) (w : World) : Calls Try.prog 56 #[.agg #[.int .i64 f, .int .i64 t], .int .i64 W] w fun e w' => e = .returned (.bool (mayR f t W)) ∧ Below w.heap.size w w' := by
  have hA := below_alloc (Below.refl _ w) (.cells #[.int .i64 f, .int .i64 t] 43)
  have hN := World.alloc_heap_new w (.cells #[.int .i64 f, .int .i64 t] 43)
  have HA := Lib.hid hA
  have HN := Lib.hid hN
  clear hA hN
  unfold mayR
  go_enter Try.func56, Try.ntmps56
  go_upto_region 1 with fail
  generalize w.alloc (.cells #[.int .i64 f, .int .i64 t] 43) = W0 at *
  have c0 : W0.cell? ⟨w.heap.size, 0, none⟩ = some (.int .i64 f) := cell_of_block (o := 0) HN.out rfl
  have c1 : W0.cell? ⟨w.heap.size, 1, none⟩ = some (.int .i64 t) := cell_of_block (o := 1) HN.out rfl
  go_wp2
  all_goals go_ret
  all_goals exact ⟨ret_bool (by rw [Bool.eq_iff_iff]; simp; omega), HA.out⟩
set_option maxRecDepth 100000 in
theorem own01_any (f t : Int) (w : World) :
    Calls Try.prog 14 #[.agg #[.int .i64 f, .int .i64 t]] w fun e w' => e = .returned (.agg #[.int .i64 f, .int .i64 t]) ∧ Below w.heap.size w w' := by
  go_enter Try.func14, Try.ntmps14
  go_wp2
  exact bodyPost_ret (v := .agg #[.int .i64 f, .int .i64 t]) (by simp [results, Try.results14, go_sem]) rfl ⟨rfl, (by repeat (first | exact Below.refl _ _ | assumption | refine below_drewN ?_ _ | refine Below.drew ?_ | refine below_alloc ?_ _ | refine Below.alloc ?_ (by first | omega | (simp; done) | (simp; omega)) _ | refine Below.setCell ?_ (Below.size (by assumption)) _ | refine Below.setCell ?_ (by first | omega | (simp; done) | (simp; omega)) _ | (refine Below.trans ?_ (Below.mono (by assumption) (by first | omega | (simp; done) | (simp; omega)))) | refine below_next ?_ (by assumption)))⟩
theorem info_rv18 : (Try.prog.info? 118).map (fun i => (i.zero, i.size, i.bytes)) = some (some (.agg #[.int .i64 0, .int .i64 0, .int .i64 0, .int .i64 0]), 4, 32) := by kernel_rfl
theorem eltR18 : Ap.Elt Try.prog 33 118 4 32 :=
  ⟨Try.underlying33, by obtain ⟨i, h1, h2, h3, h4⟩ := info_parts3 info_rv18; exact ⟨i, _, h1, h2, h3, h4, rfl⟩, by decide⟩
theorem own_rdR {w : World} {B : Nat} {T : TypeId} {v : Value} {l : List RV} {k : Nat} (hk : l.length = k) (h : w.ownsRow B T 4 v k (flatR l)) : RdR w v l := by
  subst hk
  rcases h.2 with ⟨rfl, h1⟩ | ⟨g, cap, cur, hv, hB, hg, hc, _, hcs, ht⟩
  · exact ⟨none, 0, by rw [h1], by omega, fun _ => rfl, fun hp => by omega⟩
  · refine ⟨some ⟨g, 0, none⟩, cap, hv, hc, (fun e => by cases e), fun _ => ⟨g, rfl, (Array.getElem?_eq_some_iff.1 hg).1, fun k hk => ?_⟩⟩
    have hx : ∀ (j : Nat) (u : Value), (flatR l)[j]? = some u → w.cell? ⟨g, j, none⟩ = some u := fun j u hj => by
      have hjl : j < l.length * 4 := by
        rw [← flatR_len l]
        rcases Nat.lt_or_ge j (flatR l).length with h1 | h1
        · exact h1
        · rw [List.getElem?_eq_none h1] at hj; cases hj
      refine cell_of_block hg ?_
      rw [← ht, List.getElem?_take, if_pos hjl] at hj
      simpa using hj
    obtain ⟨a, b, c, d⟩ := flatR_get l k hk
    exact ⟨hx _ _ a, hx _ _ b, hx _ _ c, hx _ _ d⟩

theorem own_formR {W : World} {B : Nat} {e : TypeId} {size n : Nat} {v : Value} {xs : List Value} (h : W.ownsRow B e size v n xs) : ∃ a c, v = .slice a n c := by
  rcases h.2 with ⟨rfl, h0⟩ | ⟨g, cap, cur, hv, _⟩
  · exact ⟨none, 0, by rw [h0]⟩
  · exact ⟨_, _, hv⟩
set_option maxRecDepth 100000 in
set_option maxHeartbeats 4000000 in
theorem own18_pos {w : World} {g n c : Nat} {l : List RV} (hn : l.length = n) (hr : RowR w g l) (hg : g < w.heap.size) (hl : n ≤ 8) :
    Calls Try.prog 73 #[.slice (some ⟨g, 0, none⟩) n c] w fun e w' => ∃ v', e = .returned v' ∧ w'.ownsRow w.heap.size 118 4 v' n (flatR l) ∧ Below w.heap.size w w' := by
  have hmx : Try.prog.follows .mixedOrders = true := by kernel_rfl
  have HR := Lib.hid (fun (X : World) (hX : X.heap[g]? = w.heap[g]?) => hr.mono hX)
  have HG := Lib.hid hg
  have HL := Lib.hid hl
  have HN := Lib.hid hn
  clear hr hg hl hn
  go_enter Try.func73, Try.ntmps73
  go_wp2_with fail
  go_loopw [3, 4] (fun s i wr => ∃ k : Nat, k ≤ n ∧ i = .int .i64 k ∧ wr.ownsRow w.heap.size 118 4 s k (flatR (l.take k)) ∧ Below w.heap.size w wr) (fun _ i _ => n - (intOf i).toNat)
  case atStart => exact ⟨0, Nat.zero_le _, rfl, World.ownsRow_nil _ _ _ _, Below.refl _ _⟩
  case round =>
    obtain ⟨k, hk, rfl, ho, hb⟩ := hrel
    obtain ⟨aS, cS, rfl⟩ := own_formR ho
    by_cases hlt : k < n
    case pos =>
      have hd : decide (k < n) = true := decide_eq_true hlt
      have hd2 : decide ((k : Int) < (n : Int)) = true := decide_eq_true (by omega)
      have hkl : (k : Int) < (n : Int) := by omega
      have hw1 : IntKind.i64.wrap ((k : Int) + 1) = (k : Int) + 1 := by have := HL.out; rw [IntKind.wrap_i64]; omega
      have HK := Lib.hid hlt
      have hkl' : k < l.length := by rw [HN.out]; exact hlt
      obtain ⟨x0, x1, x2, x3⟩ := HR.out wr (hb.block g HG.out) k hkl'
      have HTK := Lib.hid (show l.take (k + 1) = l.take k ++ [l.getD k zR] by
        rw [List.take_succ_eq_append_getElem hkl']
        simp [List.getD, List.getElem?_eq_getElem hkl'])
      have HCE := Lib.hid (fun (X : World) (hX : X.heap[g]? = w.heap[g]?) => HR.out X hX k hkl')
      have HO := Lib.hid ho
      have HB := Lib.hid hb
      clear ho hb hkl' hk
      generalize l.getD k zR = r at *
      obtain ⟨r1, r2, r3, r4⟩ := r
      dsimp only at x0 x1 x2 x3 HCE
      have KO := Lib.hid (fun X => own01_any r2 r3 X)
      go_upto_region 5 with fail
      clear x0 x1 x2 x3
      refine wp_region_held (S := fun X => X.cell? ⟨g, k * 4, none⟩ = some (.int .i64 r1) ∧ X.cell? ⟨g, k * 4 + 1, none⟩ = some (.int .i64 r2) ∧ X.cell? ⟨g, k * 4 + 2, none⟩ = some (.int .i64 r3) ∧ X.cell? ⟨g, k * 4 + 3, none⟩ = some (.int .i64 r4)) hmx ?_
      have HBd := Lib.hid (show Below w.heap.size w wr.drew from HB.out.drew)
      have HOd := Lib.hid (Ap.own_below HO.out (show Below wr.heap.size wr wr.drew from (Below.refl _ _).drew))
      clear HB HO
      change wpAnyH _ _ _ _ _ 21 _ _ wr.drew
      generalize wr.drew = W0 at *
      have hS := HCE.out W0 (HBd.out.block g HG.out)
      (refine wpAnyH_take (i := 0) (v := .slice aS k cS) rfl (by decide +kernel) (by decide +kernel) (by decide +kernel) (fun _ _ _ h => h) (.inl ⟨by first | rfl | (go_simp; done), fun X hX => by obtain ⟨hx0, hx1, hx2, hx3⟩ := hX; first | (go_simp; done) | (go_simp; rfl)⟩) hS ?_)
      (refine wpAnyH_take (i := 1) (v := .slice (some ⟨g, 0, none⟩) n c) rfl (by decide +kernel) (by decide +kernel) (by decide +kernel) (fun _ _ _ h => h) (.inl ⟨by first | rfl | (go_simp; done), fun X hX => by obtain ⟨hx0, hx1, hx2, hx3⟩ := hX; first | (go_simp; done) | (go_simp; rfl)⟩) hS ?_)
      (refine wpAnyH_take (i := 2) (v := .int .i64 k) rfl (by decide +kernel) (by decide +kernel) (by decide +kernel) (fun _ _ _ h => h) (.inl ⟨by first | rfl | (go_simp; done), fun X hX => by obtain ⟨hx0, hx1, hx2, hx3⟩ := hX; first | (go_simp; done) | (go_simp; rfl)⟩) hS ?_)
      (refine wpAnyH_take (i := 3) (v := .pointer (some ⟨g, k * 4, none⟩)) rfl (by decide +kernel) (by decide +kernel) (by decide +kernel) (fun _ _ _ h => h) (.inl ⟨by first | rfl | (go_simp; done), fun X hX => by obtain ⟨hx0, hx1, hx2, hx3⟩ := hX; first | (go_simp; done) | (go_simp; rfl)⟩) hS ?_)
      (refine wpAnyH_take (i := 4) (v := .pointer (some ⟨g, k * 4, none⟩)) rfl (by decide +kernel) (by decide +kernel) (by decide +kernel) (fun _ _ _ h => h) (.inl ⟨by first | rfl | (go_simp; done), fun X hX => by obtain ⟨hx0, hx1, hx2, hx3⟩ := hX; first | (go_simp; done) | (go_simp; rfl)⟩) hS ?_)
      (refine wpAnyH_take (i := 5) (v := .int .i64 r1) rfl (by decide +kernel) (by decide +kernel) (by decide +kernel) (fun _ _ _ h => h) (.inl ⟨by first | rfl | (go_simp; done), fun X hX => by obtain ⟨hx0, hx1, hx2, hx3⟩ := hX; first | (go_simp; done) | (go_simp; rfl)⟩) hS ?_)
      (refine wpAnyH_take (i := 6) (v := .slice (some ⟨g, 0, none⟩) n c) rfl (by decide +kernel) (by decide +kernel) (by decide +kernel) (fun _ _ _ h => h) (.inl ⟨by first | rfl | (go_simp; done), fun X hX => by obtain ⟨hx0, hx1, hx2, hx3⟩ := hX; first | (go_simp; done) | (go_simp; rfl)⟩) hS ?_)
      (refine wpAnyH_take (i := 7) (v := .int .i64 k) rfl (by decide +kernel) (by decide +kernel) (by decide +kernel) (fun _ _ _ h => h) (.inl ⟨by first | rfl | (go_simp; done), fun X hX => by obtain ⟨hx0, hx1, hx2, hx3⟩ := hX; first | (go_simp; done) | (go_simp; rfl)⟩) hS ?_)
      (refine wpAnyH_take (i := 8) (v := .pointer (some ⟨g, k * 4, none⟩)) rfl (by decide +kernel) (by decide +kernel) (by decide +kernel) (fun _ _ _ h => h) (.inl ⟨by first | rfl | (go_simp; done), fun X hX => by obtain ⟨hx0, hx1, hx2, hx3⟩ := hX; first | (go_simp; done) | (go_simp; rfl)⟩) hS ?_)
      (refine wpAnyH_take (i := 9) (v := .pointer (some ⟨g, k * 4 + 1, none⟩)) rfl (by decide +kernel) (by decide +kernel) (by decide +kernel) (fun _ _ _ h => h) (.inl ⟨by first | rfl | (go_simp; done), fun X hX => by obtain ⟨hx0, hx1, hx2, hx3⟩ := hX; first | (go_simp; done) | (go_simp; rfl)⟩) hS ?_)
      (refine wpAnyH_take (i := 10) (v := .agg #[.int .i64 r2, .int .i64 r3]) rfl (by decide +kernel) (by decide +kernel) (by decide +kernel) (fun _ _ _ h => h) (.inl ⟨by first | rfl | (go_simp; done), fun X hX => by obtain ⟨hx0, hx1, hx2, hx3⟩ := hX; first | (go_simp; done) | (go_simp; rfl)⟩) hS ?_)
      (refine wpAnyH_take (i := 12) (v := .slice (some ⟨g, 0, none⟩) n c) rfl (by decide +kernel) (by decide +kernel) (by decide +kernel) (fun _ _ _ h => h) (.inl ⟨by first | rfl | (go_simp; done), fun X hX => by obtain ⟨hx0, hx1, hx2, hx3⟩ := hX; first | (go_simp; done) | (go_simp; rfl)⟩) hS ?_)
      (refine wpAnyH_take (i := 13) (v := .int .i64 k) rfl (by decide +kernel) (by decide +kernel) (by decide +kernel) (fun _ _ _ h => h) (.inl ⟨by first | rfl | (go_simp; done), fun X hX => by obtain ⟨hx0, hx1, hx2, hx3⟩ := hX; first | (go_simp; done) | (go_simp; rfl)⟩) hS ?_)
      (refine wpAnyH_take (i := 14) (v := .pointer (some ⟨g, k * 4, none⟩)) rfl (by decide +kernel) (by decide +kernel) (by decide +kernel) (fun _ _ _ h => h) (.inl ⟨by first | rfl | (go_simp; done), fun X hX => by obtain ⟨hx0, hx1, hx2, hx3⟩ := hX; first | (go_simp; done) | (go_simp; rfl)⟩) hS ?_)
      (refine wpAnyH_take (i := 15) (v := .pointer (some ⟨g, k * 4 + 3, none⟩)) rfl (by decide +kernel) (by decide +kernel) (by decide +kernel) (fun _ _ _ h => h) (.inl ⟨by first | rfl | (go_simp; done), fun X hX => by obtain ⟨hx0, hx1, hx2, hx3⟩ := hX; first | (go_simp; done) | (go_simp; rfl)⟩) hS ?_)
      (refine wpAnyH_take (i := 16) (v := .int .i64 r4) rfl (by decide +kernel) (by decide +kernel) (by decide +kernel) (fun _ _ _ h => h) (.inl ⟨by first | rfl | (go_simp; done), fun X hX => by obtain ⟨hx0, hx1, hx2, hx3⟩ := hX; first | (go_simp; done) | (go_simp; rfl)⟩) hS ?_)
      clear hS
      refine anyH_call (i := 11) (by decide +kernel) rfl (by first | rfl | (go_simp; done)) (by go_simp) (KO.out W0) ?_
      rintro e W1 ⟨rfl, hb1⟩
      have HB1 := Lib.hid (below_next HBd.out hb1)
      have HO1 := Lib.hid (Ap.own_below HOd.out hb1)
      clear hb1 HBd HOd
      have hS := HCE.out W1 (HB1.out.block g HG.out)
      refine ⟨_, rfl, hS, ?_⟩
      (refine wpAnyH_take (i := 17) (v := .agg #[.int .i64 r1, .int .i64 r2, .int .i64 r3, .int .i64 r4]) rfl (by decide +kernel) (by decide +kernel) (by decide +kernel) (fun _ _ _ h => h) (.inl ⟨by first | rfl | (go_simp; done), fun X hX => by obtain ⟨hx0, hx1, hx2, hx3⟩ := hX; first | (go_simp; done) | (go_simp; rfl)⟩) hS ?_)
      clear hS
      refine anyH_one (i := 18) (by decide +kernel) ?_
      refine opH_val (i := 18) (v := .slice (some ⟨W1.heap.size, 0, none⟩) 1 1) (w' := W1.alloc (.cells #[.int .i64 r1, .int .i64 r2, .int .i64 r3, .int .i64 r4] 118)) rfl (by first | rfl | (go_simp; done)) (by first | (go_simp; done) | (go_simp; rfl)) ?_
      obtain ⟨v4, w4, g0, g1, g2, g3, g4, g5⟩ := Ao.app_one eltR18 33 HO1.out (cellR (r1, r2, r3, r4)) rfl (cellR_one _) (by have := HL.out; have := HK.out; omega) (by decide) (HB1.out.size)
      have hform : ∃ a c, v4 = .slice a (k + 1) c := by
        rcases g1.2 with ⟨_, h0⟩ | ⟨g, cap, cur, hv, _⟩
        · omega
        · exact ⟨_, _, hv⟩
      obtain ⟨a4, c4, rfl⟩ := hform
      refine ⟨HCE.out _ ((below_alloc HB1.out _).block g HG.out), ?_⟩
      refine anyH_one (i := 19) (by decide +kernel) ?_
      refine opH_val (i := 19) (v := .slice a4 (k + 1) c4) (w' := w4) rfl (by first | rfl | (go_simp; done)) (Ap.exec_app rfl (by go_simp) (by go_simp) g0) ?_
      have HB4 := Lib.hid (show Below w.heap.size w w4 from HB1.out.trans g5)
      have HO4 := Lib.hid (show w4.ownsRow w.heap.size 118 4 (.slice a4 (k + 1) c4) (k + 1) (flatR (l.take (k + 1))) from by
        rw [HTK.out, flatR_snoc]
        exact g1)
      clear g0 g1 g2 g3 g4 g5 HB1 HO1
      have hS := HCE.out w4 (HB4.out.block g HG.out)
      refine ⟨hS, ?_⟩
      (refine wpAnyH_take (i := 20) (v := .slice a4 (k + 1) c4) rfl (by decide +kernel) (by decide +kernel) (by decide +kernel) (fun _ _ _ h => h) (.inl ⟨by first | rfl | (go_simp; done), fun X hX => by obtain ⟨hx0, hx1, hx2, hx3⟩ := hX; first | (go_simp; done) | (go_simp; rfl)⟩) hS ?_)
      clear hS
      refine wpAnyH_done (by decide +kernel) ?_ _
      go_simp
      go_wp2_with fail
      go_roundw
      case rel => exact ⟨k + 1, by have := HK.out; omega, by go_num, HO4.out, HB4.out⟩
      case measure => have := HK.out; simp [intOf]; omega
    case neg =>
      obtain rfl : k = n := by omega
      have hd : decide (k < k) = false := decide_eq_false (by omega)
      have hd2 : decide ((k : Int) < (k : Int)) = false := decide_eq_false (by omega)
      have HO := Lib.hid (show wr.ownsRow w.heap.size 118 4 (.slice aS k cS) k (flatR l) from by
        rw [List.take_of_length_le (by rw [HN.out]; exact Nat.le_refl _)] at ho
        exact ho)
      have HB := Lib.hid hb
      clear ho hb hlt hk
      go_wp2_with fail
      go_ret
      exact ⟨_, rfl, HO.out, HB.out⟩
theorem own18_any {w : World} {v : Value} {l : List RV} (h : RdR w v l) (hl : l.length ≤ 8) :
    Calls Try.prog 73 #[v] w fun e w' => ∃ v', e = .returned v' ∧ w'.ownsRow w.heap.size 118 4 v' l.length (flatR l) ∧ Below w.heap.size w w' := by
  obtain ⟨ad, c, rfl, h2, h3, h4⟩ := h
  by_cases h0 : 0 < l.length
  · obtain ⟨g, rfl, h6, h7⟩ := h4 h0
    exact own18_pos rfl h7 h6 hl
  · obtain rfl : l = [] := List.eq_nil_of_length_eq_zero (by omega)
    clear h2 h3 h4 h0 hl
    show Calls Try.prog 73 #[.slice ad 0 c] w _
    go_enter Try.func73, Try.ntmps73
    go_wp2_with fail
    go_loopw [3, 4] (fun s i wr => s = .slice none 0 0 ∧ i = .int .i64 0 ∧ wr = w) (fun _ _ _ => 0)
    case atStart => exact ⟨rfl, rfl, rfl⟩
    case round =>
      obtain ⟨rfl, rfl, rfl⟩ := hrel
      go_wp2_with fail
      go_ret
      exact ⟨_, rfl, World.ownsRow_nil _ _ _ _, Below.refl _ _⟩
theorem eqin75 (f t : Int) (d : Nat) (w : World) : (Op.equalIn (d + 2) 43 (.agg #[.int .i64 f, .int .i64 t]) (.agg #[.int .i64 f, .int .i64 t])).run Try.prog w = .ok true w := by
  have hS : Try.prog.underlying 43 = some (.struct (Try.prog.fieldsOf 43)) := by kernel_rfl
  have hp : Try.prog.stoodInHeld 43 = false := by kernel_rfl
  have hm : (Try.prog.fieldsOf 43).toList.map (fun f => (f.name != "_", f.offset, f.type)) = [(true, 0, 2), (true, 1, 2)] := by kernel_rfl
  refine (run_equalIn_struct w (d + 1) _ _ _ hS hp).trans ?_
  rw [run_eqFields_all w (fun _ => true)]
  · simp
  · intro x hf
    have h1 : (x.name != "_", x.offset, x.type) ∈ (Try.prog.fieldsOf 43).toList.map (fun f => (f.name != "_", f.offset, f.type)) := List.mem_map.2 ⟨x, hf, rfl⟩
    rw [hm] at h1
    simp only [List.mem_cons, List.not_mem_nil, or_false, Prod.mk.injEq] at h1
    rcases h1 with ⟨h1, h2, h3⟩ | ⟨h1, h2, h3⟩
    · refine ⟨by simpa using h1, .int .i64 f, .int .i64 f, ?_, ?_, ?_⟩
      · rw [h2, h3]; simp [part, isAgg, run_underlying Try.underlying2]
      · rw [h2, h3]; simp [part, isAgg, run_underlying Try.underlying2]
      · rw [h3]; refine (run_equalIn_int w d _ _ .i64 f f Try.underlying2).trans ?_; simp
    · refine ⟨by simpa using h1, .int .i64 t, .int .i64 t, ?_, ?_, ?_⟩
      · rw [h2, h3]; simp [part, isAgg, run_underlying Try.underlying2]
      · rw [h2, h3]; simp [part, isAgg, run_underlying Try.underlying2]
      · rw [h3]; refine (run_equalIn_int w d _ _ .i64 t t Try.underlying2).trans ?_; simp
/-- a reservation is as it is -/
theorem eqin18 (a f t W : Int) (w : World) : (Op.equalIn 10000 118 (.agg #[.int .i64 a, .int .i64 f, .int .i64 t, .int .i64 W]) (.agg #[.int .i64 a, .int .i64 f, .int .i64 t, .int .i64 W])).run Try.prog w = .ok true w := by
  have hS : Try.prog.underlying 118 = some (.struct (Try.prog.fieldsOf 118)) := by kernel_rfl
  have hp : Try.prog.stoodInHeld 118 = false := by kernel_rfl
  have hm : (Try.prog.fieldsOf 118).toList.map (fun f => (f.name != "_", f.offset, f.type)) = [(true, 0, 3), (true, 1, 43), (true, 3, 3)] := by kernel_rfl
  refine (run_equalIn_struct w 9999 _ _ _ hS hp).trans ?_
  rw [run_eqFields_all w (fun _ => true)]
  · simp
  · intro x hf
    have h1 : (x.name != "_", x.offset, x.type) ∈ (Try.prog.fieldsOf 118).toList.map (fun f => (f.name != "_", f.offset, f.type)) := List.mem_map.2 ⟨x, hf, rfl⟩
    rw [hm] at h1
    simp only [List.mem_cons, List.not_mem_nil, or_false, Prod.mk.injEq] at h1
    rcases h1 with ⟨h1, h2, h3⟩ | ⟨h1, h2, h3⟩ | ⟨h1, h2, h3⟩
    · refine ⟨by simpa using h1, .int .i64 a, .int .i64 a, ?_, ?_, ?_⟩
      · rw [h2, h3]; simp [part, isAgg, run_underlying Try.underlying3]
      · rw [h2, h3]; simp [part, isAgg, run_underlying Try.underlying3]
      · rw [h3]; refine (run_equalIn_int w 9998 _ _ .i64 a a Try.underlying3).trans ?_; simp
    · refine ⟨by simpa using h1, .agg #[.int .i64 f, .int .i64 t], .agg #[.int .i64 f, .int .i64 t], ?_, ?_, ?_⟩
      · rw [h2, h3]; go_simp; try rfl
      · rw [h2, h3]; go_simp; try rfl
      · rw [h3]; exact eqin75 f t 9997 w
    · refine ⟨by simpa using h1, .int .i64 W, .int .i64 W, ?_, ?_, ?_⟩
      · rw [h2, h3]; simp [part, isAgg, run_underlying Try.underlying3]
      · rw [h2, h3]; simp [part, isAgg, run_underlying Try.underlying3]
      · rw [h3]; refine (run_equalIn_int w 9998 _ _ .i64 W W Try.underlying3).trans ?_; simp
theorem comesToR_load4 {o : Oper} {a : Act} {W : World} {S : Rl.Rel} (x : Operand) (ho : o.op = .load 118 x) {b off : Nat} (hx : a.eval x = .pointer (some ⟨b, off, none⟩)) {r1 r2 r3 r4 : Int}
    (x0 : W.cell? ⟨b, off, none⟩ = some (.int .i64 r1)) (x1 : W.cell? ⟨b, off + 1, none⟩ = some (.int .i64 r2)) (x2 : W.cell? ⟨b, off + 2, none⟩ = some (.int .i64 r3)) (x3 : W.cell? ⟨b, off + 3, none⟩ = some (.int .i64 r4))
    (h : S (.agg #[.int .i64 r1, .int .i64 r2, .int .i64 r3, .int .i64 r4]) W) : Rl.comesToR Try.prog S ((execOp a.eval o).run Try.prog W) := by
  refine Rl.comesToR_ok (v := .agg #[.int .i64 r1, .int .i64 r2, .int .i64 r3, .int .i64 r4]) ?_ h
  unfold execOp
  simp only [ho, hx]
  go_simp
end Go.Proofs.Ytbhnjmdlagjfbaa
namespace Go.Proofs.Ytbhnjmdlagjfbaa
set_option linter.unusedVariables false
open Go Go.RowKit

/-- what the reservations hold at a time -/
def useR : List RV → Int → Int
  | [], _ => 0
  | r :: l, x => (if r.2.1 ≤ x ∧ x < r.2.2.1 then r.2.2.2 else 0) + useR l x
theorem useR_cons (r : RV) (l : List RV) (x : Int) : useR (r :: l) x = (if r.2.1 ≤ x ∧ x < r.2.2.1 then r.2.2.2 else 0) + useR l x := rfl
def okW (l : List RV) : Prop := ∀ r ∈ l, mayR r.2.1 r.2.2.1 r.2.2.2 = true
theorem okW.tail {r : RV} {l : List RV} (h : okW (r :: l)) : okW l := fun x hx => h x (List.mem_cons_of_mem _ hx)
theorem okW.filter {l : List RV} (h : okW l) (p : RV → Bool) : okW (l.filter p) := fun x hx => h x (List.mem_filter.1 hx).1
theorem may_is {f t W : Int} (h : mayR f t W = true) : 0 ≤ f ∧ f < t ∧ t < 1099511627776 ∧ 1 ≤ W ∧ W ≤ 64 := by
  unfold mayR at h
  rwa [decide_eq_true_eq] at h
theorem useR_app (l m : List RV) (x : Int) : useR (l ++ m) x = useR l x + useR m x := by
  induction l with
  | nil => simp [useR]
  | cons r l ih => rw [List.cons_append, useR_cons, useR_cons, ih]; omega
theorem useR_lo {l : List RV} (h : okW l) (x : Int) : 0 ≤ useR l x ∧ useR l x ≤ 64 * l.length := by
  induction l with
  | nil => simp [useR]
  | cons r l ih =>
    have h1 := may_is (h r List.mem_cons_self)
    have h2 := ih h.tail
    rw [useR_cons, List.length_cons]
    split <;> omega
theorem useR_filter {l : List RV} (h : okW l) (p : RV → Bool) (x : Int) : useR (l.filter p) x ≤ useR l x := by
  induction l with
  | nil => exact Int.le_refl _
  | cons r l ih =>
    have h1 := may_is (h r List.mem_cons_self)
    have h2 := ih h.tail
    rw [List.filter_cons]
    split
    · rw [useR_cons, useR_cons]; omega
    · rw [useR_cons]
      split <;> omega
theorem useR_same {l : List RV} {p : RV → Bool} {x : Int} (hp : ∀ r ∈ l, r.2.1 ≤ x → x < r.2.2.1 → p r = true) : useR (l.filter p) x = useR l x := by
  induction l with
  | nil => rfl
  | cons r l ih =>
    have h2 := ih fun r' hr' => hp r' (List.mem_cons_of_mem _ hr')
    have h1 := hp r List.mem_cons_self
    rw [List.filter_cons]
    split
    · rw [useR_cons, useR_cons]; omega
    · rename_i hn
      rw [useR_cons, if_neg (fun hh => hn (h1 hh.1 hh.2))]
      omega
theorem clampI_of' {x : Int} (h0 : 0 ≤ x) (h1 : x ≤ 1099511627776) : clampI x = x := clampI_id h0 h1
theorem lower_lvl : ∀ (l : List RV) (L : List (Int × Int)), RightU L → okW l → (∀ x, 0 ≤ x → x < 1099511627776 → -900000 + 64 * (l.length : Int) ≤ lvl 0 L x ∧ lvl 0 L x ≤ 1000) → ∀ x, 0 ≤ x → x < 1099511627776 → lvl 0 (lowerU L l) x = lvl 0 L x - useR l x
  | [], L, _, _, _, x, _, _ => by show lvl 0 L x = lvl 0 L x - 0; omega
  | r :: l, L, hL, hw, hb, x, h0, h1 => by
    have hm := may_is (hw r List.mem_cons_self)
    have h2 := change_right hL (addF_inR (byU (lowW r.2.2.2))) r.2.1 r.2.2.1
    have hone : ∀ y, 0 ≤ y → y < 1099511627776 → lvl 0 (lower1 L r) y = lvl 0 L y - (if r.2.1 ≤ y ∧ y < r.2.2.1 then r.2.2.2 else 0) := by
      intro y y0 y1
      have hy := hb y y0 y1
      have e := h2.2 y y0 y1
      unfold lower1
      rw [e, clampI_of' hm.1 (by omega), clampI_of' (x := r.2.2.1) (by omega) (by omega)]
      rw [List.length_cons] at hy
      have hlw : byU (lowW r.2.2.2) = -r.2.2.2 := by
        unfold lowW byU
        rw [if_neg (by omega), if_neg (by omega), if_neg (by omega), if_neg (by omega)]
      by_cases hin : r.2.1 ≤ y ∧ y < r.2.2.1
      · rw [if_pos ⟨hm.2.1, hin⟩, if_pos hin]
        unfold addF
        rw [hlw, IntKind.wrap_i64]
        rw [boundU_id (by omega)]
        omega
      · rw [if_neg (fun hh => hin hh.2), if_neg hin]
        omega
    have hb' : ∀ y, 0 ≤ y → y < 1099511627776 → -900000 + 64 * (l.length : Int) ≤ lvl 0 (lower1 L r) y ∧ lvl 0 (lower1 L r) y ≤ 1000 := by
      intro y y0 y1
      have hy := hb y y0 y1
      rw [hone y y0 y1]
      rw [List.length_cons] at hy
      split <;> omega
    have ih := lower_lvl l (lower1 L r) (lower1_right hL r) hw.tail hb' x h0 h1
    show lvl 0 (lowerU (lower1 L r) l) x = _
    rw [ih, hone x h0 h1]
    rw [useR_cons]
    omega
def flatL (first : Int) : List (Int × Int) := [(0, boundU first)]
theorem flat_lvl {first x : Int} (hf : 0 ≤ first ∧ first ≤ 63) (h0 : 0 ≤ x) : lvl 0 (flatL first) x = first := by
  unfold flatL
  rw [lvl_last _ _ _ (fun p hp => by obtain rfl := List.mem_singleton.1 hp; exact h0)]
  simp
  exact boundU_id (by omega)
theorem low_at {first : Int} (hf : 0 ≤ first ∧ first ≤ 63) {l : List RV} (hw : okW l) (hl : l.length ≤ 8) {x : Int} (h0 : 0 ≤ x) (h1 : x < 1099511627776) : lvl 0 (lowerU (flatL first) l) x = first - useR l x := by
  rw [lower_lvl l (flatL first) (rightF first) hw (fun y y0 y1 => by rw [flat_lvl hf y0]; omega) x h0 h1, flat_lvl hf h0]
/-- whoever was let in finds room -/
structure RoomR (first : Int) (l : List RV) : Prop where
  ok : okW l
  len : l.length ≤ 8
  use : ∀ x, 0 ≤ x → x < 1099511627776 → useR l x ≤ first
theorem RoomR.new {first : Int} (hf : 0 ≤ first ∧ first ≤ 63) : RoomR first [] := ⟨fun r hr => (by cases hr), by decide, fun x _ _ => hf.1⟩
theorem fits_ge {first : Int} (hf : 0 ≤ first ∧ first ≤ 63) {l : List RV} (hw : okW l) (hl : l.length ≤ 8) {f t W : Int} (hm : mayR f t W = true) (h : fitsU (lowerU (flatL first) l) f t W = true) {x : Int} (h0 : f ≤ x) (h1 : x < t) : useR l x + W ≤ first := by
  have hm' := may_is hm
  have hR := lowerU_right (rightF first) l
  unfold fitsU at h
  have hc : clampI f < clampI t := by rw [clampI_of' hm'.1 (by omega), clampI_of' (x := t) (by omega) (by omega)]; exact hm'.2.1
  rw [decide_eq_false (by omega), Bool.false_or, decide_eq_true_eq] at h
  have h2 := (least_spec hR hc).2 x (by omega) (by omega) (by rw [clampI_of' hm'.1 (by omega)]; exact h0) (by rw [clampI_of' (x := t) (by omega) (by omega)]; exact h1)
  have h3 := low_at hf hw hl (x := x) (by omega) (by omega)
  unfold flatL at h h3
  omega
theorem meets_of {f t : Int} {r : RV} (hr : mayR r.2.1 r.2.2.1 r.2.2.2 = true) (h0 : 0 ≤ f) (ht : t < 1099511627776) {x : Int} (a : r.2.1 ≤ x) (b : x < r.2.2.1) (c : f ≤ x) (d : x < t) : meetsU (r.2.1, r.2.2.1) (f, t) = true := by
  have hm := may_is hr
  unfold meetsU bothT bothF
  dsimp only
  rw [clampI_of' hm.1 (by omega), clampI_of' (x := r.2.2.1) (by omega) (by omega), clampI_of' h0 (by omega), clampI_of' (x := t) (by omega) (by omega)]
  rw [decide_eq_false (by omega)]
  rfl
theorem RoomR.add {first : Int} (hf : 0 ≤ first ∧ first ≤ 63) {l : List RV} (h : RoomR first l) (n f t W : Int) : RoomR first (addR (flatL first) l n f t W).2.2.1 ∧ ((addR (flatL first) l n f t W).2.2.2 = n ∨ (addR (flatL first) l n f t W).2.2.2 = n + 1) := by
  unfold addR
  split
  · exact ⟨h, .inl rfl⟩
  · rename_i h1
    split
    · exact ⟨h, .inl rfl⟩
    · rename_i h2
      split
      · exact ⟨h, .inl rfl⟩
      · rename_i h3
        refine ⟨?_, .inr rfl⟩
        have hm : mayR f t W = true := by simpa using h1
        have hm' := may_is hm
        have h3' : fitsU (lowerU (flatL first) (l.filter fun r => meetsU (r.2.1, r.2.2.1) (f, t))) f t W = true := by simpa using h3
        refine ⟨fun r hr => ?_, ?_, fun x x0 x1 => ?_⟩
        · rcases List.mem_append.1 hr with hr | hr
          · exact h.ok r hr
          · obtain rfl := List.mem_singleton.1 hr
            exact hm
        · rw [List.length_append]
          show l.length + 1 ≤ 8
          omega
        · rw [useR_app]
          show useR l x + ((if f ≤ x ∧ x < t then W else 0) + 0) ≤ first
          by_cases hin : f ≤ x ∧ x < t
          · rw [if_pos hin]
            have h4 := fits_ge hf (h.ok.filter _) (Nat.le_trans (List.length_filter_le _ _) h.len) hm h3' hin.1 hin.2
            rw [useR_same (fun r hr a b => meets_of (h.ok r hr) hm'.1 hm'.2.2.1 a b hin.1 hin.2)] at h4
            omega
          · rw [if_neg hin]
            have := h.use x x0 x1
            omega
theorem RoomR.drop {first : Int} {l : List RV} (h : RoomR first l) (i : Int) : RoomR first (dropR l i).2 := by
  unfold dropR
  split
  · exact h
  · exact ⟨h.ok.filter _, Nat.le_trans (List.length_filter_le _ _) h.len, fun x x0 x1 => Int.le_trans (useR_filter h.ok _ x) (h.use x x0 x1)⟩
/-- no level below 0 -/
theorem RoomR.least {first : Int} (hf : 0 ≤ first ∧ first ≤ 63) {l : List RV} (h : RoomR first l) : 0 ≤ chooseU minU (lowerU (flatL first) l) (0, 1099511627776) := by
  obtain ⟨x, x0, x1, _, _, e⟩ := (least_spec (lowerU_right (rightF first) l) (f := 0) (t := 1099511627776) (by decide)).1
  have h2 := low_at hf h.ok h.len x0 x1
  have h3 := h.use x x0 x1
  unfold flatL at h2
  unfold flatL
  omega
theorem maxU_of {m : Int} (h : 1 ≤ m ∧ m ≤ 4096) : maxU (clampI m) 1 = m := by
  rw [clampI_of' (by omega) (by omega)]
  unfold maxU
  split <;> omega
/-- where one is found to fit, and that it is taken in there -/
theorem RoomR.find {first : Int} (hf : 0 ≤ first ∧ first ≤ 63) {l : List RV} (h : RoomR first l) (from_ : Int) {m W : Int} (hm : 1 ≤ m ∧ m ≤ 4096) (hW : 1 ≤ W ∧ W ≤ 64) :
    (findR (flatL first) l from_ m W).2 = 0 ∧ (0 ≤ (findR (flatL first) l from_ m W).1 ∧ (findR (flatL first) l from_ m W).1 ≤ 1099511627776) ∧ (from_ < 1099511627776 → ((findR (flatL first) l from_ m W).1 = 1099511627776 ↔ first < W)) ∧
    ((findR (flatL first) l from_ m W).1 < 549755813888 → l.length < 8 → ∀ n, n ≤ 1073741824 → (addR (flatL first) l n (clampI (findR (flatL first) l from_ m W).1) (addI (findR (flatL first) l from_ m W).1 m) W).2.1 = 0) := by
  have hR := lowerU_right (rightF first) l
  have hcl := clampI_bd from_
  have e : findR (flatL first) l from_ m W = (firstU (startsU (lowerU (flatL first) l) (clampI from_) m W), 0) := by
    unfold findR
    rw [if_neg (by omega), maxU_of hm]
  have hs := starts_ok (L := lowerU (flatL first) l) hR (F := clampI from_) (m := m) (W := W) hcl.1 hm.1
  obtain ⟨s1, s2, s3, s4⟩ := first_spec hs hcl.1
  rw [e]
  dsimp only
  generalize firstU (startsU (lowerU (flatL first) l) (clampI from_) m W) = a at *
  have hat : ∀ x, 0 ≤ x → x < 1099511627776 → lvl 0 (lowerU (flatL first) l) x = first - useR l x := fun x x0 x1 => low_at hf h.ok h.len x0 x1
  refine ⟨rfl, ⟨s3, s4⟩, fun hfr => ⟨fun he => ?_, fun hw => ?_⟩, fun ha hl n hn => ?_⟩
  · refine Classical.byContradiction fun hno => ?_
    have hfr' : clampI from_ < 1099511627776 := by unfold clampI; split <;> (try split) <;> omega
    refine s2 1099511627775 (by omega) (by omega) (by decide) (fun x x0 _ x2 => ?_)
    obtain rfl : x = 1099511627775 := by omega
    rw [hat _ (by decide) (by decide)]
    have hz : useR l 1099511627775 = 0 := by
      have h1 := h.ok
      clear h hat hs s1 s2 hR e
      induction l with
      | nil => rfl
      | cons r l ih =>
        have hmr := may_is (h1 r List.mem_cons_self)
        rw [useR_cons, if_neg (by omega), ih h1.tail]
        rfl
    omega
  · refine Classical.byContradiction fun hne => ?_
    have hlt : a < 1099511627776 := by omega
    have hg := (s1 hlt).2 a (Int.le_refl _) (by omega) hlt
    rw [hat a s3 hlt] at hg
    have := (useR_lo h.ok a).1
    omega
  · have hlt : a < 1099511627776 := by omega
    have hg := (s1 hlt).2
    have ec : clampI a = a := clampI_of' s3 s4
    have ea : addI a m = a + m := by
      unfold addI
      rw [ec, clampI_of' (x := m) (by omega) (by omega), clampI_of' (by omega) (by omega)]
    rw [ec, ea]
    have hmay : mayR a (a + m) W = true := by
      unfold mayR
      rw [decide_eq_true_eq]
      omega
    have hfits : fitsU (lowerU (flatL first) (l.filter fun r => meetsU (r.2.1, r.2.2.1) (a, a + m))) a (a + m) W = true := by
      unfold fitsU
      have hc : clampI a < clampI (a + m) := by rw [ec, clampI_of' (x := a + m) (by omega) (by omega)]; omega
      rw [Bool.or_eq_true]
      refine .inr ?_
      rw [decide_eq_true_eq]
      obtain ⟨x, x0, x1, x2, x3, ex⟩ := (least_spec (lowerU_right (rightF first) (l.filter fun r => meetsU (r.2.1, r.2.2.1) (a, a + m))) hc).1
      rw [ec] at x2
      rw [clampI_of' (x := a + m) (by omega) (by omega)] at x3
      have h2 := low_at hf (h.ok.filter fun r => meetsU (r.2.1, r.2.2.1) (a, a + m)) (Nat.le_trans (List.length_filter_le _ _) h.len) x0 x1
      rw [useR_same (fun r hr p q => meets_of (h.ok r hr) s3 (by omega) p q x2 x3)] at h2
      have h3 := hg x x2 x3 x1
      rw [hat x x0 x1] at h3
      unfold flatL at h2
      unfold flatL
      omega
    unfold addR
    rw [if_neg (by rw [hmay]; exact Bool.noConfusion), if_neg (by omega), if_neg (by rw [hfits]; exact Bool.noConfusion)]
end Go.Proofs.Ytbhnjmdlagjfbaa
