/- Laws that the claim uses, 2 of 9: Tick, Ja, BitsLow, BitsNodes, BitsIter, BitsToks, ShelfB, BitsRow, OwnI, BitsOrdP, PickP, BitsRefP, Rof, BitsAny, BitsJoin, Rel, RelT, Js. No condition of its own but what each theorem says. -/
import Derived.Test.YtgeldpfojmkdbaaDoorRows
import Derived.WalkKit
import Derived.ProofKit
import Derived.OpenShut
import Derived.Below
import Derived.Outline
import Derived.WalkLawsBesides
import Derived.Test.YtgeldpfojmkdbaaDoorMa
import Derived.Shelf.Spec.TrailingZeros
import Derived.Deep.DeepHandedRow
import Derived.Lib.LaidTab
import Derived.RangeFuncNested
import Derived.RangeFuncBound
import Derived.RangeFuncCalls
import Derived.RangeFuncLeaves
import Derived.Shelf.Abstract
import Derived.Shelf.RegionOpen
import Derived.OwnWalkIn
import Derived.TacticsInMore
import Derived.LoopNIn
import Derived.LoopIn
import Derived.Lib.ItoaNum
import Derived.Lib.Join
import Derived.Shelf.Strconv.Itoa3
import Derived.Shelf.Strings.OnBuilder
import Derived.Test.YtgeldpfojmkdbaaDoorProg
import Derived.RangeFuncBox
import Derived.Maps.AppendAt
import Derived.Laws.OwnMore
import Derived.OwnWalk
namespace Go.Proofs.YtgeldpfojmkdbaaDoor
set_option linter.unusedVariables false
open Go.ChangeShapes Go.WideShapes Go.ChangeAt Go.RowKit

theorem ret_int {k : IntKind} {a b : Int} (h : a = b) : Ending.returned (.int k a) = .returned (.int k b) := by rw [h]
theorem ret_bool {a b : Bool} (h : a = b) : Ending.returned (.bool a) = .returned (.bool b) := by rw [h]

/-- the nearest time -/
def clampI (n : Int) : Int := if n < 0 then 0 else if 1099511627776 < n then 1099511627776 else n
def addI (a b : Int) : Int := clampI (clampI a + clampI b)
def subI (a b : Int) : Int := if clampI b = 1099511627776 then 0 else if clampI a = 1099511627776 then 1099511627776 else clampI (clampI a - clampI b)
def timesI (a n : Int) : Int := if n < 1 then 0 else if clampI a = 0 then 0 else if 1099511627776 / clampI a < n then 1099511627776 else clampI a * n
def upI (a s : Int) : Int := if clampI s < 1 then clampI a else if clampI a = 1099511627776 then clampI a else clampI ((clampI a + clampI s - 1) / clampI s * clampI s)

theorem clampI_bd (n : Int) : 0 ≤ clampI n ∧ clampI n ≤ 1099511627776 := by unfold clampI; split <;> (try split) <;> omega
theorem clampI_id {n : Int} (h0 : 0 ≤ n) (h1 : n ≤ 1099511627776) : clampI n = n := by unfold clampI; split <;> (try split) <;> omega
theorem clampI_nonpos {n : Int} (h : n ≤ 0) : clampI n = 0 := by unfold clampI; split <;> (try split) <;> omega
theorem clampI_clampI (n : Int) : clampI (clampI n) = clampI n := clampI_id (clampI_bd n).1 (clampI_bd n).2

theorem clamp_any (n : Int) (w : World) :
    Calls Tryd.prog 53 #[.int .i64 n] w fun e w' => e = .returned (.int .i64 (clampI n)) ∧ w = w' := by
  go_enter Tryd.func53, Tryd.ntmps53
  go_wp2
  all_goals go_ret
  all_goals exact ⟨ret_int (by unfold clampI; split <;> (try split) <;> (try split at *) <;> omega), rfl⟩
theorem rclamp_any (n : Int) (w : World) :
    Calls Tryd.prog 59 #[.int .i64 n] w fun e w' => e = .returned (.int .i64 (clampI n)) ∧ w = w' := by
  go_enter Tryd.func59, Tryd.ntmps59
  go_wp2
  all_goals go_ret
  all_goals exact ⟨ret_int (by unfold clampI; split <;> (try split) <;> (try split at *) <;> omega), rfl⟩

theorem add_any (a b : Int) (w : World) :
    Calls Tryd.prog 52 #[.int .i64 a, .int .i64 b] w fun e w' => e = .returned (.int .i64 (addI a b)) ∧ w = w' := by
  obtain ⟨a0, a1⟩ := clampI_bd a
  obtain ⟨b0, b1⟩ := clampI_bd b
  go_enter Tryd.func52, Tryd.ntmps52
  go_wp2_with (go_at_call 53; refine (clamp_any _ _).mono ?_; rintro e w' ⟨rfl, rfl⟩)
  go_ret
  exact ⟨rfl, rfl⟩
end Go.Proofs.YtgeldpfojmkdbaaDoor
namespace Go.Proofs.YtgeldpfojmkdbaaDoor
set_option linter.unusedVariables false
open Go.ChangeShapes Go.WideShapes Go.ChangeAt Go.RowKit

structure JobV where
  id : Int
  user : Int
  part : Int
  width : Int
  limit : Int
  nice : Int
  after : Int
  hold : Bool
  state : Int
  sent : Int
  plan : Int
  promise : Int
  tries : Int
  black : NSet
  nodes : NSet
  start : Int
  fin : Int
def holdN (b : Bool) : Int := if b then 1 else 0
def JobV.ints (j : JobV) : List Int := [j.id, j.user, j.part, j.width, j.limit, j.nice, j.after, j.state, j.sent, j.plan, j.promise, j.tries, j.start, j.fin]
structure JobV.Ok (j : JobV) : Prop where
  inb : ∀ x ∈ j.ints, -9223372036854775808 ≤ x ∧ x ≤ 9223372036854775807
def jobC (j : JobV) : List Value := [.int .i64 j.id, .int .i64 j.user, .int .i64 j.part, .int .i64 j.width, .int .i64 j.limit, .int .i64 j.nice, .int .i64 j.after, .bool j.hold, .int .i64 j.state, .int .i64 j.sent, .int .i64 j.plan, .int .i64 j.promise, .int .i64 j.tries, .int .u64 (nv j.black), .int .u64 (nv j.nodes), .int .i64 j.start, .int .i64 j.fin]
theorem jobC_len (j : JobV) : (jobC j).length = 17 := rfl
theorem jobC_one (j : JobV) : (jobC j).all (·.oneCell') = true := rfl
def job0 : JobV := ⟨0, 0, 0, 0, 0, 0, 0, false, 0, 0, 0, 0, 0, 0#64, 0#64, 0, 0⟩
theorem job0_ok : job0.Ok := ⟨by decide⟩

def inI (v lo hi : Int) : Bool := decide (lo ≤ v) && decide (v ≤ hi)
theorem inI_yes {v lo hi : Int} (h : inI v lo hi = true) : lo ≤ v ∧ v ≤ hi := by
  unfold inI at h
  rwa [Bool.and_eq_true, decide_eq_true_eq, decide_eq_true_eq] at h
theorem inI_no {v lo hi : Int} (h : inI v lo hi = false) : v < lo ∨ hi < v := by
  unfold inI at h
  rw [Bool.and_eq_false_iff, decide_eq_false_iff_not, decide_eq_false_iff_not] at h
  omega
def timeB (t : Int) : Bool := t == clampI t
theorem timeB_yes {t : Int} (h : timeB t = true) : 0 ≤ t ∧ t ≤ 1099511627776 := by
  have h1 : t = clampI t := by simpa [timeB] using h
  have := clampI_bd t
  omega
def fitsB (j : JobV) (n : NSet) : Bool := ((card n : Int) == j.width) && (nv (n &&& j.black) == 0)
def stateB (j : JobV) : Bool :=
  if j.state == 0 then (nv j.nodes == 0) && (j.start == 0) && (j.fin == 0)
  else if j.state == 1 then !j.hold && fitsB j j.nodes && decide (1 ≤ j.tries) && decide (j.start < 1099511627776) && (j.fin == 0)
  else if inI j.state 2 5 then (if j.tries == 0 then (nv j.nodes == 0) && decide (j.start ≤ j.fin) else ((card j.nodes : Int) == j.width) && decide (j.start ≤ j.fin))
  else false
def timesJ (j : JobV) : List Int := [j.sent, j.plan, j.promise, j.start, j.fin]
def numsB (j : JobV) : Bool := inI j.id 1 1073741824 && inI j.user 1 16 && inI j.part 0 3 && inI j.width 1 64
def moreB (j : JobV) : Bool := decide (1 ≤ j.limit) && decide (j.limit ≤ 1048576) && inI j.nice (-100) 100 && inI j.after 0 (j.id - 1) && inI j.tries 0 9
def rightB (j : JobV) : Bool := numsB j && moreB j && (timesJ j).all timeB && stateB j
def overB (j : JobV) : Bool := inI j.state 2 5
def lateB (j : JobV) (now : Int) : Bool := !timeB now || ((j.state == 1) && decide (now < j.start))
def untilJ (j : JobV) : Int := if j.state == 1 then addI j.start j.limit else 0
def beginJ (j : JobV) (now : Int) (n : NSet) : JobV × Int :=
  if !rightB j then (job0, 11)
  else if !(j.state == 0) || j.hold then (job0, 16)
  else if !timeB now || (now == 1099511627776) then (job0, 18)
  else if !fitsB j n then (job0, 2)
  else if j.tries == 9 then (job0, 15)
  else ({ j with state := 1, nodes := n, start := now, tries := j.tries + 1 }, 0)
def endJ (j : JobV) (now how : Int) : JobV :=
  if j.state == 0 then { j with start := now, tries := 0, state := how, fin := now }
  else if j.state == 1 then { j with state := how, fin := now }
  else j
def stopJ (j : JobV) (now how : Int) : JobV × Int :=
  if !rightB j then (job0, 11)
  else if !inI how 2 5 then (job0, 2)
  else if overB j || ((j.state == 0) && ((how == 2) || (how == 5))) then (job0, 16)
  else if lateB j now then (job0, 18)
  else (endJ j now how, 0)
def loseJ (j : JobV) (now node retries : Int) : JobV × Int :=
  if !rightB j then (job0, 11)
  else if !(j.state == 1) then (job0, 16)
  else if !hasI j.nodes node then (job0, 13)
  else if lateB j now then (job0, 18)
  else if decide (retries < j.tries) then (endJ j now 3, 0)
  else ({ j with state := 0, nodes := 0#64, start := 0, fin := 0, plan := 1099511627776, promise := 1099511627776, black := j.black ||| oneI node }, 0)
end Go.Proofs.YtgeldpfojmkdbaaDoor
namespace Go.Proofs.YtgeldpfojmkdbaaDoor
set_option linter.unusedVariables false
open Go.ChangeShapes Go.WideShapes Go.ChangeAt Go.RowKit Go.Shelf
attribute [local go_sem ↓] Go.wp_at_zero Go.wp_at_succ comesTo_value_eq comesTo_skip_eq comesTo_enter_eq

/-- what Take tells -/
def takeS (s : NSet) (n : Int) : NSet := if (card s : Int) < n then 0#64 else tk n.toNat s
end Go.Proofs.YtgeldpfojmkdbaaDoor
namespace Go.Proofs.YtgeldpfojmkdbaaDoor
set_option linter.unusedVariables false
open Go

/-- the set without its least node -/
def restS (s : NSet) : NSet := s &&& ~~~(oneI (lowI s))
theorem lowI_pos {s : NSet} (h : s ≠ 0#64) : lowI s = (lowN s : Int) := by unfold lowI; rw [if_neg h]
theorem card_rest {s : NSet} (h : s ≠ 0#64) : card (restS s) + 1 = card s := by
  obtain ⟨h1, h2, _⟩ := lowN_spec h
  unfold restS
  rw [lowI_pos h]
  have hs : Sub (oneI ((lowN s : Nat) : Int)) s := sub_iff.2 fun i hi hg => by
    rw [oneI_get] at hg
    simp only [hi, decide_true, Bool.true_and, decide_eq_true_eq] at hg
    obtain rfl : lowN s = i := by omega
    exact h2
  have := card_diff hs
  rw [card_one h1] at this
  exact this
def nodesF : Nat → NSet → List Int
  | 0, _ => []
  | k + 1, s => if s = 0#64 then [] else lowI s :: nodesF k (restS s)
/-- its nodes, rising -/
def nodes (s : NSet) : List Int := nodesF (card s) s
theorem nodes_zero : nodes 0#64 = [] := by unfold nodes; rw [card_zero]; rfl
theorem nodes_cons {s : NSet} (h : s ≠ 0#64) : nodes s = lowI s :: nodes (restS s) := by
  unfold nodes
  rw [← card_rest h]
  show (if s = 0#64 then [] else _) = _
  rw [if_neg h]
theorem nodes_length : ∀ (k : Nat) (s : NSet), card s = k → (nodes s).length = k
  | 0, s, h => by rw [card_eq_zero h, nodes_zero]; rfl
  | k + 1, s, h => by
    have hs : s ≠ 0#64 := fun e => by rw [e, card_zero] at h; omega
    rw [nodes_cons hs, List.length_cons, nodes_length k (restS s) (by have := card_rest hs; omega)]
theorem nodes_46 : nodes 46#64 = [1, 2, 3, 5] := by decide +kernel
end Go.Proofs.YtgeldpfojmkdbaaDoor
namespace Go.Proofs.YtgeldpfojmkdbaaDoor
set_option linter.unusedVariables false
open Go.RowKit Go.Shelf
attribute [local go_sem] Oper.semAt_some

end Go.Proofs.YtgeldpfojmkdbaaDoor
namespace Go.Proofs.YtgeldpfojmkdbaaDoor
set_option linter.unusedVariables false
open Go

theorem list_rev {α : Type} {P : List α → Prop} (h0 : P []) (h1 : ∀ l x, P l → P (l ++ [x])) (l : List α) : P l := by
  have : ∀ r : List α, P r.reverse := fun r => by
    induction r with
    | nil => exact h0
    | cons x r ih => rw [List.reverse_cons]; exact h1 _ _ ih
  have h := this l.reverse
  rwa [List.reverse_reverse] at h
theorem hasI_iff (s : NSet) (n : Int) : hasI s n = true ↔ 0 ≤ n ∧ s.getLsbD n.toNat = true := by
  unfold hasI; simp
theorem hasI_lt {s : NSet} {n : Int} (h : hasI s n = true) : 0 ≤ n ∧ n < 64 := by
  obtain ⟨h0, h1⟩ := (hasI_iff s n).1 h
  refine ⟨h0, ?_⟩
  by_cases h6 : n.toNat < 64
  · omega
  · rw [BitVec.getLsbD_of_ge _ _ (by omega)] at h1; cases h1
theorem hasI_low {s : NSet} (h : s ≠ 0#64) : hasI s (lowI s) = true := by
  rw [lowI_pos h, hasI_nat]; exact (lowN_spec h).2.1
theorem low_le {s : NSet} (h : s ≠ 0#64) {n : Int} (hn : hasI s n = true) : lowI s ≤ n := by
  obtain ⟨h0, h1⟩ := (hasI_iff s n).1 hn
  rw [lowI_pos h]
  by_cases hlt : n.toNat < lowN s
  · rw [(lowN_spec h).2.2 _ hlt] at h1; cases h1
  · omega
theorem low_lt {s : NSet} (h : s ≠ 0#64) : 0 ≤ lowI s ∧ lowI s < 64 := hasI_lt (hasI_low h)
theorem hasI_rest {s : NSet} (h : s ≠ 0#64) (n : Int) : hasI (restS s) n = true ↔ hasI s n = true ∧ n ≠ lowI s := by
  constructor
  · intro hr
    have hl := hasI_lt hr
    obtain ⟨h0, h1⟩ := (hasI_iff _ n).1 hr
    unfold restS at h1
    rw [get_diff _ _ _ (by omega), oneI_get] at h1
    simp only [Bool.and_eq_true, Bool.not_eq_true', Bool.and_eq_false_iff, decide_eq_false_iff_not] at h1
    refine ⟨(hasI_iff s n).2 ⟨h0, h1.1⟩, fun e => ?_⟩
    rcases h1.2 with h2 | h2 <;> omega
  · rintro ⟨hr, hne⟩
    have hl := hasI_lt hr
    obtain ⟨h0, h1⟩ := (hasI_iff _ n).1 hr
    refine (hasI_iff _ n).2 ⟨h0, ?_⟩
    unfold restS
    rw [get_diff _ _ _ (by omega), oneI_get]
    simp only [Bool.and_eq_true, Bool.not_eq_true', Bool.and_eq_false_iff, decide_eq_false_iff_not]
    exact ⟨h1, .inr (by omega)⟩
theorem nodes_mem : ∀ (k : Nat) (s : NSet), card s = k → ∀ n, n ∈ nodes s ↔ hasI s n = true
  | 0, s, h, n => by
    rw [card_eq_zero h, nodes_zero]
    simp [hasI]
  | k + 1, s, h, n => by
    have hs : s ≠ 0#64 := fun e => by rw [e, card_zero] at h; omega
    rw [nodes_cons hs, List.mem_cons, nodes_mem k (restS s) (by have := card_rest hs; omega), hasI_rest hs]
    constructor
    · rintro (rfl | h1)
      · exact hasI_low hs
      · exact h1.1
    · intro h1
      by_cases e : n = lowI s
      · exact .inl e
      · exact .inr ⟨h1, e⟩
theorem nodes_sorted : ∀ (k : Nat) (s : NSet), card s = k → (nodes s).Pairwise (· < ·)
  | 0, s, h => by rw [card_eq_zero h, nodes_zero]; exact .nil
  | k + 1, s, h => by
    have hs : s ≠ 0#64 := fun e => by rw [e, card_zero] at h; omega
    have hr : card (restS s) = k := by have := card_rest hs; omega
    rw [nodes_cons hs]
    refine .cons (fun n hn => ?_) (nodes_sorted k _ hr)
    obtain ⟨h1, h2⟩ := (hasI_rest hs n).1 ((nodes_mem k _ hr n).1 hn)
    have := low_le hs h1
    omega
/-! digits, words -/
def dec2 (n : Nat) : List UInt8 := if n < 10 then [UInt8.ofNat (48 + n)] else [UInt8.ofNat (48 + n / 10), UInt8.ofNat (48 + n % 10)]
theorem dec2_eq {n : Nat} (h : n < 100) : Lib.decDigits n = dec2 n := by
  unfold dec2
  split
  · exact Lib.decDigits_one ‹_›
  · exact Lib.decDigits_two ‹_› h
/-- nodes that follow one another, as words -/
def rowT (f x : Int) : List (List UInt8) :=
  if x - f = 0 then [dec2 f.toNat] else if x - f = 1 then [dec2 f.toNat, dec2 x.toNat] else [dec2 f.toNat ++ 45 :: dec2 x.toNat]
theorem rowT_length (f x : Int) : 1 ≤ (rowT f x).length ∧ (rowT f x).length ≤ 2 := by
  unfold rowT; split
  · simp
  · split <;> simp
/-- the words of nodes that rise; `o`: where the nodes that go on here began -/
def toks : Option Int → List Int → List (List UInt8)
  | _, [] => []
  | o, x :: t => if t.head? = some (x + 1) then toks (some (o.getD x)) t else rowT (o.getD x) x ++ toks none t
/-- the text of nodes that rise -/
def textT (l : List Int) : List UInt8 := if l = [] then [110, 111, 110, 101] else Lib.join (toks none l) [44]
theorem toks_ne : ∀ (o : Option Int) (l : List Int), l ≠ [] → toks o l ≠ []
  | _, [], h => absurd rfl h
  | o, x :: t, _ => by
    rw [toks]
    split
    · rename_i ht
      refine toks_ne _ t (fun e => by rw [e] at ht; simp at ht)
    · have := (rowT_length (o.getD x) x).1
      intro e
      have := congrArg List.length e
      rw [List.length_append, List.length_nil] at this
      omega
/-! as the program makes them -/
def stepT (s : NSet) (p : Int × List (List UInt8)) (x : Int) : Int × List (List UInt8) :=
  (if hasI s (x - 1) = true then p.1 else x, if hasI s (x + 1) = true then p.2 else p.2 ++ rowT (if hasI s (x - 1) = true then p.1 else x) x)
def foldT (s : NSet) (l : List Int) : Int × List (List UInt8) := l.foldl (stepT s) (0, [])
theorem foldT_snoc (s : NSet) (l : List Int) (x : Int) : foldT s (l ++ [x]) = stepT s (foldT s l) x := by unfold foldT; rw [List.foldl_append]; rfl
theorem foldT_length (s : NSet) (l : List Int) : (foldT s l).2.length ≤ 2 * l.length := by
  induction l using list_rev with
  | h0 => simp [foldT]
  | h1 l x ih =>
    rw [foldT_snoc, List.length_append]
    unfold stepT
    simp only
    split
    · simp only [List.length_singleton]; omega
    · have := (rowT_length (if hasI s (x - 1) = true then (foldT s l).1 else x) x).2
      simp only [List.length_append, List.length_singleton]
      omega
theorem foldT_first (s : NSet) (l : List Int) (h : ∀ x ∈ l, 0 ≤ x ∧ x < 64) : 0 ≤ (foldT s l).1 ∧ (foldT s l).1 < 64 := by
  induction l using list_rev with
  | h0 => simp [foldT]
  | h1 l x ih =>
    have h1 := ih (fun y hy => h y (by simp [hy]))
    have h2 := h x (by simp)
    rw [foldT_snoc]
    unfold stepT
    simp only
    split
    · exact h1
    · exact h2
/-- where the nodes that go on began -/
def openT (s : NSet) (pre : List Int) : Option Int := match pre.getLast? with | none => none | some y => if hasI s (y + 1) = true then some (foldT s pre).1 else none
theorem fold_toks (s : NSet) (pre : List Int) : ∀ rest, nodes s = pre ++ rest → toks none (nodes s) = (foldT s pre).2 ++ toks (openT s pre) rest := by
  have hM := nodes_mem (card s) s rfl
  have hS := nodes_sorted (card s) s rfl
  induction pre using list_rev with
  | h0 =>
    intro rest h
    rw [List.nil_append] at h
    rw [h]; rfl
  | h1 pre x ih =>
    intro rest h
    have ih' := ih (x :: rest) (by rw [h]; simp)
    rw [ih', toks, foldT_snoc]
    rw [h] at hS
    rw [List.pairwise_append] at hS
    obtain ⟨hS1, hS2, hS3⟩ := hS
    rw [List.pairwise_append] at hS1
    obtain ⟨_, _, hS4⟩ := hS1
    have e1 : (openT s pre).getD x = if hasI s (x - 1) = true then (foldT s pre).1 else x := by
      unfold openT
      cases hl : pre.getLast? with
      | none =>
        obtain rfl : pre = [] := List.getLast?_eq_none_iff.1 hl
        rw [if_neg]
        · rfl
        · intro hx
          have := (hM _).2 hx
          rw [h] at this
          simp at this
          rcases this with h' | h'
          · omega
          · have := hS3 x (by simp) _ h'; omega
      | some y =>
        have hy : y ∈ pre := List.mem_of_getLast? hl
        have hyx : y < x := hS4 y hy x (by simp)
        simp only
        by_cases h1 : hasI s (y + 1) = true
        · have hm := (hM _).2 h1
          rw [h] at hm
          simp only [List.mem_append, List.mem_singleton] at hm
          have hx : x = y + 1 := by
            rcases hm with (h' | h') | h'
            · obtain ⟨q, hq⟩ := List.getLast?_eq_some_iff.1 hl
              rw [hq] at h'
              simp only [List.mem_append, List.mem_singleton] at h'
              rcases h' with h' | h'
              · have hp : (q ++ [y]).Pairwise (· < ·) := by rw [← hq]; exact ‹(pre.Pairwise (· < ·))›
                have := (List.pairwise_append.1 hp).2.2 _ h' y (by simp)
                omega
              · omega
            · exact h'.symm
            · have := hS3 x (by simp) _ h'; omega
          rw [if_pos h1, if_pos]
          · rfl
          · rw [hx]
            refine (hM _).1 ?_
            rw [h, show y + 1 - 1 = y by omega]
            simp [hy]
        · rw [if_neg h1, if_neg]
          · rfl
          · intro hx
            have hm := (hM _).2 hx
            rw [h] at hm
            simp only [List.mem_append, List.mem_singleton] at hm
            rcases hm with (h' | h') | h'
            · obtain ⟨q, hq⟩ := List.getLast?_eq_some_iff.1 hl
              have h'' := h'
              rw [hq] at h''
              simp only [List.mem_append, List.mem_singleton] at h''
              have hle : x - 1 ≤ y := by
                rcases h'' with h'' | h''
                · have hp : (q ++ [y]).Pairwise (· < ·) := by rw [← hq]; exact ‹(pre.Pairwise (· < ·))›
                  have := (List.pairwise_append.1 hp).2.2 _ h'' y (by simp)
                  omega
                · omega
              have : x = y + 1 := by omega
              refine h1 ?_
              rw [← this]
              refine (hM _).1 ?_
              rw [h]; simp
            · omega
            · have := hS3 x (by simp) _ h'; omega
    have e2 : rest.head? = some (x + 1) ↔ hasI s (x + 1) = true := by
      constructor
      · intro hr
        refine (hM _).1 ?_
        rw [h]
        have := List.mem_of_mem_head? hr
        simp [this]
      · intro hx
        have hm := (hM _).2 hx
        rw [h] at hm
        simp only [List.mem_append, List.mem_singleton] at hm
        rcases hm with (h' | h') | h'
        · have := hS4 _ h' x (by simp); omega
        · omega
        · cases rest with
          | nil => cases h'
          | cons z rest =>
            have hz := hS3 x (by simp) z (by simp)
            rcases List.mem_cons.1 h' with h' | h'
            · rw [List.head?_cons, h']
            · have := (List.pairwise_cons.1 hS2).1 _ h'
              omega
    have e3 : openT s (pre ++ [x]) = if hasI s (x + 1) = true then some (if hasI s (x - 1) = true then (foldT s pre).1 else x) else none := by
      unfold openT
      rw [List.getLast?_concat, foldT_snoc]
      rfl
    rw [e1, e3]
    unfold stepT
    by_cases hx : hasI s (x + 1) = true
    · rw [if_pos (e2.2 hx), if_pos hx, if_pos hx]
    · rw [if_neg (fun h' => hx (e2.1 h')), if_neg hx, if_neg hx, List.append_assoc]
theorem fold_all (s : NSet) : (foldT s (nodes s)).2 = toks none (nodes s) := by
  have := fold_toks s (nodes s) [] (by simp)
  rw [this, toks, List.append_nil]
/-! the text tells the set -/
def rng (f x : Nat) : NSet := BitVec.ofNat 64 (2 ^ (x + 1) - 2 ^ f)
def rdStep (p : NSet × Option Nat × Nat) (c : UInt8) : NSet × Option Nat × Nat :=
  if c = 44 then (p.1 ||| rng (p.2.1.getD p.2.2) p.2.2, none, 0) else if c = 45 then (p.1, some p.2.2, 0) else (p.1, p.2.1, p.2.2 * 10 + (c.toNat - 48))
def rd (l : List UInt8) : NSet := ((l ++ [44]).foldl rdStep (0#64, none, 0)).1
theorem rdStep_acc (acc : NSet) (a : Option Nat) (c : Nat) (x : UInt8) : rdStep (acc, a, c) x = (acc ||| (rdStep (0#64, a, c) x).1, (rdStep (0#64, a, c) x).2) := by
  unfold rdStep
  simp only
  split
  · simp
  · split
    · simp
    · simp
theorem rd_acc (l : List UInt8) : ∀ (p : NSet × Option Nat × Nat), l.foldl rdStep p = (p.1 ||| (l.foldl rdStep (0#64, p.2)).1, (l.foldl rdStep (0#64, p.2)).2) := by
  induction l with
  | nil => intro p; simp
  | cons x l ih =>
    rintro ⟨acc, a, c⟩
    rw [List.foldl_cons, List.foldl_cons, rdStep_acc, ih, ih (rdStep (0#64, a, c) x)]
    simp only [BitVec.or_assoc]
def flat (ws : List (List UInt8)) : List UInt8 := ws.flatMap (· ++ [44])
theorem join_flat : ∀ (ws : List (List UInt8)), ws ≠ [] → Lib.join ws [44] ++ [44] = flat ws
  | [], h => absurd rfl h
  | [x], _ => by rw [Lib.join_one]; simp [flat]
  | x :: y :: r, _ => by
    have ih := join_flat (y :: r) (by simp)
    unfold flat at ih ⊢
    rw [List.flatMap_cons, ← ih]
    simp [Lib.join, List.intercalate]
def rowOk (f x : Nat) : Bool := match (flat (rowT (f : Nat) (x : Nat))).foldl rdStep (0#64, none, 0) with
  | (s, none, 0) => s == rng f x
  | _ => false
theorem rowOk_all : ∀ f, f < 64 → ∀ x, x < 64 → (!decide (f ≤ x) || rowOk f x) = true := by decide +kernel
theorem row_rd (f : Nat) (hf : f < 64) (x : Nat) (hx : x < 64) (h : f ≤ x) : (flat (rowT (f : Nat) (x : Nat))).foldl rdStep (0#64, none, 0) = (rng f x, none, 0) := by
  have := rowOk_all f hf x hx
  simp only [h, decide_true, Bool.not_true, Bool.false_or] at this
  unfold rowOk at this
  split at this
  · rename_i s hs
    rw [hs, eq_of_beq this]
  · cases this
theorem rng_next : ∀ f, f < 64 → ∀ x, x < 63 → f ≤ x → rng f (x + 1) = rng f x ||| BitVec.twoPow 64 (x + 1) := by decide +kernel
theorem rng_one : ∀ x, x < 64 → rng x x = BitVec.twoPow 64 x := by decide +kernel
/-- nodes, together -/
def ofL (l : List Int) : NSet := l.foldr (fun x s => oneI x ||| s) 0#64
theorem oneI_nat (x : Int) (h : 0 ≤ x) : oneI x = BitVec.twoPow 64 x.toNat := by unfold oneI; rw [if_neg (by omega)]
theorem toks_rd (l : List Int) : ∀ (o : Option Int), l.Pairwise (· < ·) → (∀ x ∈ l, 0 ≤ x ∧ x < 64) → (∀ f, o = some f → 0 ≤ f ∧ ∀ x ∈ l, f ≤ x) →
    (flat (toks o l)).foldl rdStep (0#64, none, 0) = ((match l with | [] => 0#64 | x :: t => rng (o.getD x).toNat x.toNat ||| ofL t), none, 0) := by
  induction l with
  | nil => intro o _ _ _; rfl
  | cons x t ih =>
    intro o hs hl ho
    have hx := hl x (by simp)
    have hf : 0 ≤ o.getD x ∧ o.getD x ≤ x := by
      cases o with
      | none => exact ⟨hx.1, Int.le_refl _⟩
      | some f => exact ⟨(ho f rfl).1, (ho f rfl).2 x (by simp)⟩
    rw [toks]
    split
    · rename_i hh
      cases t with
      | nil => simp at hh
      | cons y t =>
        obtain rfl : y = x + 1 := by simpa using hh
        have hy := hl (x + 1) (by simp)
        rw [ih (some (o.getD x)) (List.pairwise_cons.1 hs).2 (fun z hz => hl z (List.mem_cons_of_mem _ hz)) (fun f hf' => by
          cases hf'
          refine ⟨hf.1, fun z hz => ?_⟩
          have := (List.pairwise_cons.1 hs).1 z hz
          omega)]
        simp only [Option.getD_some]
        rw [show (x + 1).toNat = x.toNat + 1 by omega, rng_next _ (by omega) _ (by omega) (by omega)]
        unfold ofL
        rw [List.foldr_cons, oneI_nat _ (by omega), show (x + 1).toNat = x.toNat + 1 by omega, BitVec.or_assoc]
    · have ht := ih none (List.pairwise_cons.1 hs).2 (fun z hz => hl z (by simp [hz])) (fun f hf' => by cases hf')
      have hr := row_rd (o.getD x).toNat (by omega) x.toNat (by omega) (by omega)
      rw [show (((o.getD x).toNat : Nat) : Int) = o.getD x by omega, show ((x.toNat : Nat) : Int) = x by omega] at hr
      have hflat : flat (rowT (o.getD x) x ++ toks none t) = flat (rowT (o.getD x) x) ++ flat (toks none t) := by unfold flat; rw [List.flatMap_append]
      rw [hflat, List.foldl_append, hr, rd_acc, ht]
      cases t with
      | nil => rfl
      | cons y t =>
        have hy := hl y (by simp)
        simp only [Option.getD_none]
        rw [rng_one _ (by omega), ← oneI_nat y hy.1]
        rfl
theorem ofL_nodes : ∀ (k : Nat) (s : NSet), card s = k → ofL (nodes s) = s
  | 0, s, h => by rw [card_eq_zero h, nodes_zero]; rfl
  | k + 1, s, h => by
    have hs : s ≠ 0#64 := fun e => by rw [e, card_zero] at h; omega
    rw [nodes_cons hs]
    show oneI (lowI s) ||| ofL (nodes (restS s)) = s
    rw [ofL_nodes k (restS s) (by have := card_rest hs; omega)]
    have hl := low_lt hs
    have hg := (hasI_iff s (lowI s)).1 (hasI_low hs)
    apply BitVec.eq_of_getLsbD_eq
    intro i hi
    unfold restS
    rw [BitVec.getLsbD_or, get_diff _ _ _ hi, oneI_get]
    simp only [hi, decide_true, Bool.true_and]
    by_cases e : lowI s = (i : Int)
    · have e' : (lowI s).toNat = i := by omega
      rw [e'] at hg
      simp [e, hg.2]
    · simp [e]
theorem rd_text (s : NSet) : rd (textT (nodes s)) = s := by
  unfold textT
  by_cases hs : s = 0#64
  · rw [hs, nodes_zero, if_pos rfl]
    decide +kernel
  · have hc := nodes_cons hs
    have hne : nodes s ≠ [] := by rw [hc]; simp
    have hM := nodes_mem (card s) s rfl
    rw [if_neg hne]
    unfold rd
    rw [join_flat _ (toks_ne none _ hne), toks_rd (nodes s) none (nodes_sorted (card s) s rfl) (fun x hx => hasI_lt ((hM x).1 hx)) (fun f hf => by cases hf)]
    have ho := ofL_nodes (card s) s rfl
    rw [hc] at ho ⊢
    have hl := low_lt hs
    simp only [Option.getD_none]
    rw [rng_one _ (by omega), ← oneI_nat _ hl.1]
    exact ho
theorem text_inj {a b : NSet} (h : textT (nodes a) = textT (nodes b)) : a = b := by
  rw [← rd_text a, h, rd_text b]
theorem dec2_len (n : Nat) : (dec2 n).length ≤ 2 := by unfold dec2; split <;> simp
theorem rowT_len (f x : Int) : ∀ t ∈ rowT f x, t.length ≤ 5 := by
  have h1 := dec2_len f.toNat
  have h2 := dec2_len x.toNat
  unfold rowT
  intro t ht
  split at ht
  · simp only [List.mem_singleton] at ht; rw [ht]; omega
  · split at ht
    · simp only [List.mem_cons, List.not_mem_nil, or_false] at ht
      rcases ht with rfl | rfl <;> omega
    · simp only [List.mem_singleton] at ht; rw [ht, List.length_append, List.length_cons]; omega
theorem foldT_len (s : NSet) (l : List Int) : ∀ t ∈ (foldT s l).2, t.length ≤ 5 := by
  induction l using list_rev with
  | h0 => intro t ht; cases ht
  | h1 l x ih =>
    rw [foldT_snoc]
    unfold stepT
    simp only
    split
    · exact ih
    · intro t ht
      rcases List.mem_append.1 ht with ht | ht
      · exact ih t ht
      · exact rowT_len _ _ t ht
theorem flat_len_t : ∀ (ws : List (List UInt8)), (∀ t ∈ ws, t.length ≤ 5) → (flat ws).length ≤ 6 * ws.length
  | [], _ => by simp [flat]
  | x :: ws, h => by
    have h1 := h x (by simp)
    have h2 := flat_len_t ws (fun t ht => h t (by simp [ht]))
    unfold flat at h2 ⊢
    rw [List.flatMap_cons, List.length_append, List.length_append, List.length_singleton, List.length_cons]
    omega
theorem join_len (s : NSet) (l : List Int) (h : (foldT s l).2 ≠ []) : (Lib.join (foldT s l).2 [44]).length ≤ 12 * l.length := by
  have h1 := congrArg List.length (join_flat _ h)
  have h2 := flat_len_t _ (foldT_len s l)
  have h3 := foldT_length s l
  rw [List.length_append] at h1
  omega
end Go.Proofs.YtgeldpfojmkdbaaDoor
namespace Go.Proofs
open Go.Shelf
end Go.Proofs
namespace Go.Proofs.YtgeldpfojmkdbaaDoor
set_option linter.unusedVariables false
open Go.ChangeShapes Go.WideShapes Go.ChangeAt Go.RowKit Go.Shelf
attribute [local go_sem ↓] Go.wp_at_zero Go.wp_at_succ comesTo_value_eq comesTo_skip_eq comesTo_enter_eq

/-- bytes as a text -/
def strB (t : List UInt8) : ByteArray := ⟨t.toArray⟩
def strV (t : List UInt8) : Value := .string (strB t)
theorem strB_data (t : List UInt8) : (strB t).data.toList = t := rfl
theorem strB_app (a b : List UInt8) : strB a ++ strB b = strB (a ++ b) := by
  apply ByteArray.ext
  simp [strB, ByteArray.data_append]
theorem strB_inj {a b : List UInt8} (h : strB a = strB b) : a = b := by rw [← strB_data a, h, strB_data]
end Go.Proofs.YtgeldpfojmkdbaaDoor
namespace Go.Proofs.YtgeldpfojmkdbaaDoor
set_option linter.unusedVariables false
open Go.ChangeShapes Go.WideShapes Go.ChangeAt Go.RowKit

theorem infoInt : (Tryd.prog.info? 3).map (fun i => (i.zero, i.size, i.bytes)) = some (some (.int .i64 0), 1, 8) := by kernel_rfl
/-- a row of ints of the call's own, from block B on -/
def OwnI (w : World) (B : Nat) (v : Value) (l : List Int) : Prop := w.ownsRow B 3 1 v l.length (l.map (Value.int .i64))
theorem OwnI.below {w w' : World} {B : Nat} {v : Value} {l : List Int} (h : OwnI w B v l) (hb : Below w.heap.size w w') : OwnI w' B v l := by
  refine ⟨h.1, ?_⟩
  rcases h.2 with hn | ⟨g, cap, cur, hv, hB, hg, rest⟩
  · exact .inl hn
  · refine .inr ⟨g, cap, cur, hv, hB, ?_, rest⟩
    rw [hb.block g (Array.getElem?_eq_some_iff.1 hg).1]; exact hg
theorem OwnI.nil {w : World} {B : Nat} : OwnI w B (.slice none 0 0) [] := ⟨rfl, .inl ⟨rfl, rfl⟩⟩
theorem OwnI.mono {w : World} {B B' : Nat} {v : Value} {l : List Int} (h : OwnI w B v l) (hb : B' ≤ B) : OwnI w B' v l := by
  refine ⟨h.1, ?_⟩
  rcases h.2 with hn | ⟨g, cap, cur, hv, hB, rest⟩
  · exact .inl hn
  · exact .inr ⟨g, cap, cur, hv, by omega, rest⟩
/-- a row of ints that may be read -/
def ReadsI (w : World) (v : Value) (l : List Int) : Prop :=
  (l = [] ∧ ∃ a c, v = .slice a 0 c) ∨ (0 < l.length ∧ l.length ≤ 9223372036854775807 ∧ ∃ g o c, v = .slice (some ⟨g, o, none⟩) l.length c ∧ l.length ≤ c ∧ ∀ k, k < l.length → w.cell? ⟨g, o + k, none⟩ = some (.int .i64 (l.getD k 0)))
theorem ReadsI.below {w w' : World} {v : Value} {l : List Int} (h : ReadsI w v l) (hb : Below w.heap.size w w') : ReadsI w' v l := by
  rcases h with h | ⟨h0, h1, g, o, c, hv, hcap, hc⟩
  · exact .inl h
  · exact .inr ⟨h0, h1, g, o, c, hv, hcap, fun k hk => (hb.cell (p := ⟨g, o + k, none⟩) (World.block_lt_of_cell? w _ (hc k hk))).trans (hc k hk)⟩
theorem OwnI.ints {w : World} {B : Nat} {v : Value} {l : List Int} (h : OwnI w B v l) : ReadsI w v l := by
  rcases h.2 with ⟨hv, h0⟩ | ⟨g, cap, cur, rfl, hB, hg, hn, hm, hz, ht⟩
  · exact .inl ⟨List.length_eq_zero_iff.1 h0, none, 0, hv⟩
  · by_cases hl : l = []
    · subst hl; exact .inl ⟨rfl, _, _, rfl⟩
    · have hpos : 0 < l.length := by cases l with | nil => exact absurd rfl hl | cons _ _ => simp
      refine .inr ⟨hpos, by unfold maxLen at hm; omega, g, 0, cap, rfl, hn, fun k hk => ?_⟩
      have := h.cells (g := g) rfl k (.int .i64 (l.getD k 0)) (by simp [List.getD, List.getElem?_eq_getElem hk])
      have hadd : (⟨g, 0, none⟩ : Addr).add k = ⟨g, k, none⟩ := by unfold Addr.add; split <;> simp_all
      rw [hadd] at this
      rw [Nat.zero_add]; exact this
section
variable {ops : Array Oper} {rest : List Oper} {o : Oper} {a : Act} {w : World} {Q : Exit → Act → World → Prop}
/-- APPEND of one int -/
theorem wpList_append_int (T : TypeId) (hT : Tryd.prog.underlying T = some (.slice 3)) (hgd : o.guard = none) (s x : Operand)
    (ho : o.op = .call { callee := .builtin .append, args := #[s, x], argTypes := #[T, T] })
    (B : Nat) (v : Value) (l : List Int) (hs : a.eval s = v) (hown : OwnI w B v l) (g c : Nat) (n : Int) (hx : a.eval x = .slice (some ⟨g, 0, none⟩) 1 c)
    (c0 : w.cell? ⟨g, 0, none⟩ = some (.int .i64 n)) (h63 : l.length + 1 ≤ 1099511627776) (hB : B ≤ w.heap.size)
    (h : ∀ (v' : Value) (w' : World), OwnI w' B v' (l ++ [n]) → Below B w w' → wpList Tryd.prog ops Q rest (a.put o.dst v') w') : wpList Tryd.prog ops Q (o :: rest) a w := by
  obtain ⟨i0, hi, hz0, hz1, hz2⟩ := info_parts infoInt
  have hblk : ∀ k, v.ownBlock = some k → B ≤ k := fun k hk => by
    rcases hown.2 with ⟨rfl, _⟩ | ⟨g, cap, cur, rfl, hg, _⟩
    · cases hk
    · simp only [Value.ownBlock, Option.some.injEq] at hk; omega
  refine wpList_append_own _ hgd s x T ho B 3 i0 (.int .i64 0) 1 8 hT hi hz0 hz1 hz2 rfl (by decide) v l.length (l.map (Value.int .i64)) hs hown
      ⟨g, 0, none⟩ 1 c [.int .i64 n] hx rfl (fun j u hj => ?_) (fun u hu => ?_) (by unfold maxLen; omega) (by omega) hB (fun v' w' h1 h2 _ => ?_)
  · match j, hj with
    | 0, hj => simp at hj; subst hj; simpa [Addr.add] using c0
    | j + 1, hj => simp at hj
  · simp at hu
    subst hu; rfl
  · exact h v' w' (by unfold OwnI; rw [List.length_append, List.map_append]; exact h1) (Below.grown (Below.refl _ _) h2 hB hblk)
theorem append_types (T T2 ty : TypeId) (hT : Tryd.prog.underlying T = some (.slice 3)) (hT2 : Tryd.prog.underlying T2 = some (.slice 3)) (args : Array Value) :
    (Builtin.append_ #[T, T2] ty args).run Tryd.prog w = (Builtin.append_ #[T, T] ty args).run Tryd.prog w := by
  unfold Builtin.append_
  simp only [List.getElem?_toArray, List.getElem?_cons_zero, List.getElem?_cons_succ]
  cases h0 : args[0]? with
  | none => rfl
  | some s =>
    cases h1 : args[1]? with
    | none => rfl
    | some x => cases s <;> simp only [Sem.run_bind, run_underlying hT, run_underlying hT2, Result.andThen_ok, Sem.run_pure]
theorem append_nil (T ty : TypeId) (hT : Tryd.prog.underlying T = some (.slice 3)) (i : TypeInfo) (hi : Tryd.prog.info? 3 = some i) (v : Value) (n B : Nat) (xs : List Value) (hown : w.ownsRow B 3 1 v n xs) (c : Nat) :
    (Builtin.append_ #[T, T] ty #[v, .slice none 0 c]).run Tryd.prog w = .ok v w := by
  rcases hown.2 with ⟨rfl, rfl⟩ | ⟨g, cap, cur, rfl, _, _, hnc, _⟩
  · simp [Builtin.append_, run_underlying hT, sizeOf, typeInfo, hi, Builtin.lenOf, Builtin.firstCells]
  · simp [Builtin.append_, run_underlying hT, sizeOf, typeInfo, hi, Builtin.lenOf, Builtin.firstCells, hnc, storeCells]
/-- what an append of a row that may be read comes to -/
theorem run_append_read (T T2 ty : TypeId) (hT : Tryd.prog.underlying T = some (.slice 3)) (hT2 : Tryd.prog.underlying T2 = some (.slice 3)) (B : Nat) (v : Value) (l : List Int) (hown : OwnI w B v l) (vx : Value) (l2 : List Int) (hr : ReadsI w vx l2)
    (h63 : l.length + l2.length ≤ 1099511627776) (hB : B ≤ w.heap.size) :
    ∃ v' w', (Builtin.append_ #[T, T2] ty #[v, vx]).run Tryd.prog w = .ok v' w' ∧ OwnI w' B v' (l ++ l2) ∧ Below B w w' := by
  obtain ⟨i0, hi, hz0, hz1, hz2⟩ := info_parts infoInt
  have hblk : ∀ k, v.ownBlock = some k → B ≤ k := fun k hk => by
    rcases hown.2 with ⟨rfl, _⟩ | ⟨g, cap, cur, rfl, hg, _⟩
    · cases hk
    · simp only [Value.ownBlock, Option.some.injEq] at hk; omega
  have key : ∀ (ad : Addr) (c : Nat), vx = .slice (some ad) l2.length c → (∀ j u, (l2.map (Value.int .i64))[j]? = some u → w.cell? (ad.add j) = some u) →
      ∃ v' w', (Builtin.append_ #[T, T2] ty #[v, vx]).run Tryd.prog w = .ok v' w' ∧ OwnI w' B v' (l ++ l2) ∧ Below B w w' := by
    rintro ad c rfl hc
    rw [append_types T T2 ty hT hT2]
    obtain ⟨v', w', h0, h1, h2, _⟩ := run_append_own (P := Tryd.prog) w B T ty 3 i0 (.int .i64 0) 1 8 hT hi hz0 hz1 hz2 rfl (by decide) v l.length (l.map (Value.int .i64)) hown
      ad l2.length c (l2.map (Value.int .i64)) (by simp) hc (fun u hu => by obtain ⟨y, _, rfl⟩ := List.mem_map.1 hu; rfl) (by unfold maxLen; omega) (by omega) hB
    exact ⟨v', w', h0, by unfold OwnI; rw [List.length_append, List.map_append]; exact h1, Below.grown (Below.refl _ _) h2 hB hblk⟩
  rcases hr with ⟨rfl, a, c, rfl⟩ | ⟨h0, h1, g, o, c, rfl, _, hc⟩
  · cases a with
    | none =>
      refine ⟨v, w, ?_, by rw [List.append_nil]; exact hown, Below.refl _ _⟩
      rw [append_types T T2 ty hT hT2]
      exact append_nil T ty hT i0 hi v l.length B _ hown c
    | some ad => exact key ad c rfl (fun j u hj => by simp at hj)
  · refine key ⟨g, o, none⟩ c rfl (fun j u hj => ?_)
    rw [List.getElem?_map] at hj
    cases hj2 : l2[j]? with
    | none => rw [hj2] at hj; cases hj
    | some y =>
      rw [hj2] at hj; cases hj
      obtain ⟨hlt, _⟩ := List.getElem?_eq_some_iff.1 hj2
      have hadd : (⟨g, o, none⟩ : Addr).add j = ⟨g, o + j, none⟩ := by unfold Addr.add; split <;> simp_all
      rw [hadd, hc j hlt]
      simp [List.getD, hj2]
/-- APPEND of a row of ints that may be read -/
theorem wpList_append_read (T T2 : TypeId) (hT : Tryd.prog.underlying T = some (.slice 3)) (hT2 : Tryd.prog.underlying T2 = some (.slice 3)) (hgd : o.guard = none) (s x : Operand)
    (ho : o.op = .call { callee := .builtin .append, args := #[s, x], argTypes := #[T, T2] })
    (B : Nat) (v : Value) (l : List Int) (hs : a.eval s = v) (hown : OwnI w B v l) (vx : Value) (l2 : List Int) (hx : a.eval x = vx) (hr : ReadsI w vx l2) (h63 : l.length + l2.length ≤ 1099511627776) (hB : B ≤ w.heap.size)
    (h : ∀ (v' : Value) (w' : World), OwnI w' B v' (l ++ l2) → Below B w w' → wpList Tryd.prog ops Q rest (a.put o.dst v') w') : wpList Tryd.prog ops Q (o :: rest) a w := by
  obtain ⟨v', w', hrun, h1, h2⟩ := run_append_read (w := w) T T2 o.type hT hT2 B v l hown vx l2 hr h63 hB
  refine wpList_plain hgd fun K hK => ?_
  unfold Oper.wp execOp
  simp only [ho, resolve, invoke, builtin, Sem.run_bind, Sem.run_pure, Result.andThen_ok, List.map_toArray, List.map_cons, List.map_nil, hs, hx, hrun]
  exact hK _ _ (h v' w' h1 h2)
end
theorem OwnI.form {w : World} {B : Nat} {v : Value} {l : List Int} (h : OwnI w B v l) : ∃ a c, v = .slice a l.length c := by
  rcases h.2 with ⟨hv, h0⟩ | ⟨g, cap, cur, hv, _⟩
  · exact ⟨none, 0, by rw [hv, h0]⟩
  · exact ⟨_, cap, hv⟩
/-- a row that was just made, empty -/
theorem OwnI.made (w : World) : OwnI (w.alloc (.cells #[] 3)) w.heap.size (.slice (some ⟨w.heap.size, 0, none⟩) 0 0) [] :=
  ⟨rfl, .inr ⟨w.heap.size, 0, #[], rfl, Nat.le_refl _, World.alloc_heap_new w _, Nat.le_refl _, Nat.zero_le _, rfl, rfl⟩⟩
/-- ints that came in -/
theorem readsI_open {H : Type} {enc : TypeId × Value → H} {W : World} {a : Option Addr} {len cap : Nat} {d : DataW H} {p : List MemPlace}
    (h : DataW.Trod enc Tryd.prog W 0 (fun _ => true) true 88 (.slice a len cap) d p) : ∃ zs : List Int, ReadsI W (.slice a len cap) zs ∧ zs.length = len ∧ len ≤ cap := by
  obtain ⟨fuel, hf⟩ := h
  rcases open_ints Tryd.underlying88 Tryd.underlying3 (by kernel_rfl) hf with ⟨hcs, _⟩ | ⟨x, l, c, zs, hcs, _, hl, hm, hz, hd, hcell, hwz⟩
  · simp [Value.cells] at hcs
    obtain ⟨rfl, rfl, rfl⟩ := hcs
    exact ⟨[], .inl ⟨rfl, _, _, rfl⟩, rfl, Nat.le_refl _⟩
  · simp [Value.cells] at hcs
    obtain ⟨rfl, rfl, rfl⟩ := hcs
    have hz' : zs.length = cap := by simpa using hz
    have htl : (zs.take len).length = len := by simp; omega
    by_cases h0 : len = 0
    · subst h0
      exact ⟨[], .inl ⟨rfl, _, _, rfl⟩, rfl, Nat.zero_le _⟩
    · obtain ⟨b, off, spot⟩ := x
      have hc := hcell 0 (by omega)
      have hspot : spot = none := by simpa [Addr.add] using World.cell?_spot hc
      subst hspot
      refine ⟨zs.take len, .inr ⟨by omega, by rw [htl]; unfold maxLen at hm; omega, b, off, cap, by rw [htl], by omega, fun k hk => ?_⟩, htl, by omega⟩
      rw [htl] at hk
      have hg : (zs.take len).getD k 0 = zs.getD k 0 := by simp [List.getD, List.getElem?_take, hk]
      have hplain : (⟨b, off, none⟩ : Addr).add k = ⟨b, off + k, none⟩ := by unfold Addr.add; split <;> simp_all
      rw [hg, ← hplain]
      exact hcell k (by omega)
/-- so many of the first -/
theorem ReadsI.take {w : World} {a : Option Addr} {len c : Nat} {l : List Int} (h : ReadsI w (.slice a len c) l) (hl : l.length = len) {n : Nat} (hn : n ≤ len) (c' : Nat) (hc' : n ≤ c') : ReadsI w (.slice a n c') (l.take n) := by
  by_cases h0 : n = 0
  · subst h0; exact .inl ⟨rfl, _, _, rfl⟩
  · rcases h with ⟨rfl, _⟩ | ⟨h1, h2, g, o, c2, hv, _, hc⟩
    · simp at hl; omega
    · cases hv
      have ht : (l.take n).length = n := by rw [List.length_take]; omega
      refine .inr ⟨by omega, by omega, g, o, c', by rw [ht], by omega, fun k hk => ?_⟩
      rw [ht] at hk
      rw [hc k (by omega)]
      simp [List.getD, List.getElem?_take_of_lt hk]
/-- a call made a row of ints of its own -/
def GivesI (w : World) (l : List Int) (e : Ending) (w' : World) : Prop := ∃ v, e = .returned v ∧ OwnI w' w.heap.size v l ∧ Below w.heap.size w w'
end Go.Proofs.YtgeldpfojmkdbaaDoor
namespace Go.Proofs.YtgeldpfojmkdbaaDoor
set_option linter.unusedVariables false
open Go

theorem hasI_or' (a b : NSet) (n : Int) : hasI (a ||| b) n = (hasI a n || hasI b n) := by
  unfold hasI; rw [BitVec.getLsbD_or]
  cases decide (0 ≤ n) <;> simp
theorem hasI_oneI (m n : Int) : hasI (oneI m) n = true ↔ m = n ∧ 0 ≤ n ∧ n < 64 := by
  unfold hasI
  rw [oneI_get]
  simp only [Bool.and_eq_true, decide_eq_true_eq]
  constructor
  · rintro ⟨h0, h1, h2⟩; exact ⟨by omega, h0, by omega⟩
  · rintro ⟨rfl, h0, h1⟩; exact ⟨h0, by omega, by omega⟩
theorem hasI_diff (a b : NSet) (n : Int) : hasI (a &&& ~~~b) n = true ↔ hasI a n = true ∧ ¬ hasI b n = true := by
  constructor
  · intro h
    have hl := hasI_lt h
    obtain ⟨h0, h1⟩ := (hasI_iff _ n).1 h
    rw [get_diff _ _ _ (by omega)] at h1
    simp only [Bool.and_eq_true, Bool.not_eq_true'] at h1
    refine ⟨(hasI_iff a n).2 ⟨h0, h1.1⟩, fun hb => ?_⟩
    have := ((hasI_iff b n).1 hb).2
    rw [h1.2] at this; cases this
  · rintro ⟨ha, hb⟩
    have hl := hasI_lt ha
    obtain ⟨h0, h1⟩ := (hasI_iff _ n).1 ha
    refine (hasI_iff _ n).2 ⟨h0, ?_⟩
    rw [get_diff _ _ _ (by omega)]
    simp only [Bool.and_eq_true, Bool.not_eq_true']
    refine ⟨h1, ?_⟩
    cases h : b.getLsbD n.toNat with
    | false => rfl
    | true => exact absurd ((hasI_iff b n).2 ⟨h0, h⟩) hb
theorem tk_low (s : NSet) : ∀ (k : Nat) (i j : Int), hasI (tk k s) i = true → hasI (s &&& ~~~ tk k s) j = true → i < j
  | 0, i, j, h, _ => by
    rw [show tk 0 s = 0#64 from rfl] at h
    simp [hasI] at h
  | k + 1, i, j, hi, hj => by
    rw [show tk (k + 1) s = tk k s ||| oneI (lowI (s &&& ~~~ tk k s)) from rfl] at hi hj
    obtain ⟨hj1, hj2⟩ := (hasI_diff _ _ _).1 hj
    have hj3 : ¬ hasI (tk k s) j = true := fun h => hj2 (by rw [hasI_or', h]; rfl)
    have hjd := (hasI_diff s (tk k s) j).2 ⟨hj1, hj3⟩
    rw [hasI_or'] at hi
    rcases Bool.or_eq_true _ _ ▸ hi with h | h
    · exact tk_low s k i j h hjd
    · obtain ⟨e, h0, h6⟩ := (hasI_oneI _ _).1 h
      have hne : s &&& ~~~ tk k s ≠ 0#64 := fun e0 => by rw [e0] at hjd; simp [hasI] at hjd
      have hle := low_le hne hjd
      have : ¬ i = j := by
        rintro rfl
        exact hj2 (by rw [hasI_or', h, Bool.or_true])
      omega
/-- one of the least ones, and the least of the others -/
theorem tk_rest (s : NSet) (k : Nat) (i : Int) (hi : hasI (tk k s) i = true) : lowI (s &&& ~~~ tk k s) < 0 ∨ i < lowI (s &&& ~~~ tk k s) := by
  by_cases h : s &&& ~~~ tk k s = 0#64
  · left; rw [h]; decide
  · exact .inr (tk_low s k i _ hi (hasI_low h))
theorem lowI_neg (s : NSet) : decide (lowI s < 0) = decide (s = 0#64) := by
  by_cases h : s = 0#64
  · subst h; decide
  · have := low_lt h
    have h1 : ¬ lowI s < 0 := by omega
    simp [h, h1]
end Go.Proofs.YtgeldpfojmkdbaaDoor
namespace Go.Proofs.YtgeldpfojmkdbaaDoor
set_option linter.unusedVariables false
open Go
theorem and_not_zero (g : NSet) : g &&& ~~~(0#64) = g := by
  apply BitVec.eq_of_getLsbD_eq
  intro i hi
  rw [get_diff _ _ _ hi, BitVec.getLsbD_zero]
  simp
theorem lowI_zero : lowI 0#64 = -1 := by decide
theorem oneI_neg : oneI (-1) = 0#64 := by decide
theorem tk_zero : ∀ k, tk k 0#64 = 0#64
  | 0 => rfl
  | k + 1 => by rw [tk, tk_zero k]; decide
theorem tk_cons (g : NSet) : ∀ k, tk (k + 1) g = oneI (lowI g) ||| tk k (restS g)
  | 0 => by
    show 0#64 ||| oneI (lowI (g &&& ~~~(0#64))) = oneI (lowI g) ||| 0#64
    rw [and_not_zero]
    simp
  | k + 1 => by
    rw [tk, tk_cons g k]
    rw [show tk (k + 1) (restS g) = tk k (restS g) ||| oneI (lowI (restS g &&& ~~~ tk k (restS g))) from rfl]
    have e : g &&& ~~~(oneI (lowI g) ||| tk k (restS g)) = restS g &&& ~~~ tk k (restS g) := by
      rw [show ~~~(oneI (lowI g) ||| tk k (restS g)) = ~~~oneI (lowI g) &&& ~~~ tk k (restS g) from BitVec.not_or, ← BitVec.and_assoc]; rfl
    rw [e, BitVec.or_assoc]
/-- a set, with the nodes of a list -/
def addL (c : NSet) (l : List Int) : NSet := l.foldl (fun s n => s ||| oneI n) c
theorem addL_snoc (c : NSet) (l : List Int) (n : Int) : addL c (l ++ [n]) = addL c l ||| oneI n := by unfold addL; rw [List.foldl_append]; rfl
theorem addL_cons (c : NSet) (l : List Int) (n : Int) : addL c (n :: l) = addL (c ||| oneI n) l := rfl
theorem addL_take : ∀ (k : Nat) (c g : NSet), addL c ((nodes g).take k) = c ||| tk k g
  | 0, c, g => by simp [addL, tk]
  | k + 1, c, g => by
    by_cases hg : g = 0#64
    · rw [hg, nodes_zero, tk_zero]; simp [addL]
    · rw [nodes_cons hg, List.take_succ_cons, addL_cons, addL_take k, tk_cons, BitVec.or_assoc]
theorem card_or_apart {a b : NSet} (h : a &&& b = 0#64) : card (a ||| b) = card a + card b := by
  have := card_or a b
  rw [h, card_zero] at this
  omega
theorem and_sub_zero {a b b' : NSet} (h : a &&& b = 0#64) (hs : Sub b' b) : a &&& b' = 0#64 := by
  apply BitVec.eq_of_getLsbD_eq
  intro i hi
  have h1 := congrArg (fun x : NSet => x.getLsbD i) h
  simp only [BitVec.getLsbD_and, BitVec.getLsbD_zero] at h1 ⊢
  cases ha : a.getLsbD i with
  | false => rfl
  | true =>
    rw [ha] at h1
    cases hb : b'.getLsbD i with
    | false => rfl
    | true => rw [sub_iff.1 hs i hi hb] at h1; simp at h1
theorem tk_sub (g : NSet) : ∀ k, Sub (tk k g) g
  | 0 => sub_zero g
  | k + 1 => by
    by_cases hg : g = 0#64
    · rw [hg, tk_zero]; exact sub_refl _
    · rw [tk_cons]
      refine sub_iff.2 fun i hi h => ?_
      rw [BitVec.getLsbD_or] at h
      rcases Bool.or_eq_true _ _ ▸ h with h | h
      · have := (hasI_oneI (lowI g) (i : Int)).1 (by rw [hasI_nat]; exact h)
        have h2 := hasI_low hg
        rw [this.1, hasI_nat] at h2; exact h2
      · have h3 := sub_iff.1 (tk_sub (restS g) k) i hi h
        unfold restS at h3
        rw [get_diff _ _ _ hi] at h3
        simp only [Bool.and_eq_true] at h3
        exact h3.1
/-- as many of good as go -/
def fillC (m : Int) (c good : NSet) : NSet := c ||| tk (min (card good) (m - card c).toNat) good
/-- what is chosen, set by set -/
def chF (may : NSet) (m : Int) : List NSet → NSet → NSet
  | [], c => fillC m c (may &&& ~~~c)
  | p :: ps, c => chF may m ps (fillC m c ((may &&& ~~~c) &&& p))
theorem fillC_full {m : Int} {c good : NSet} (h : (card c : Int) = m) : fillC m c good = c := by
  unfold fillC
  rw [h, show (m - m).toNat = 0 by omega, Nat.min_zero]
  simp [tk]
theorem chF_full (may : NSet) (m : Int) : ∀ (ps : List NSet) (c : NSet), (card c : Int) = m → chF may m ps c = c
  | [], c, h => fillC_full h
  | p :: ps, c, h => by
    rw [chF, fillC_full h]
    exact chF_full may m ps c h
theorem less_apart (may c : NSet) : c &&& (may &&& ~~~c) = 0#64 := by
  apply BitVec.eq_of_getLsbD_eq
  intro i hi
  rw [BitVec.getLsbD_and, get_diff _ _ _ hi, BitVec.getLsbD_zero]
  cases c.getLsbD i <;> simp
theorem and_subl (a b : NSet) : Sub (a &&& b) a := sub_iff.2 fun i _ h => by
  rw [BitVec.getLsbD_and] at h
  simp only [Bool.and_eq_true] at h
  exact h.1
theorem and_subr (a b : NSet) : Sub (a &&& b) b := sub_iff.2 fun i _ h => by
  rw [BitVec.getLsbD_and] at h
  simp only [Bool.and_eq_true] at h
  exact h.2
theorem good_apart (may c p : NSet) : c &&& ((may &&& ~~~c) &&& p) = 0#64 := and_sub_zero (less_apart may c) (and_subl _ _)
theorem nodes_take_length (g : NSet) {k : Nat} (h : k ≤ card g) : ((nodes g).take k).length = k := by
  rw [List.length_take, nodes_length _ g rfl]; omega
theorem card_addL {c g : NSet} (h : c &&& g = 0#64) {k : Nat} (hk : k ≤ card g) : card (addL c ((nodes g).take k)) = card c + k := by
  obtain ⟨h1, h2⟩ := tk_spec g k hk
  rw [addL_take, card_or_apart (and_sub_zero h h1), h2]
/-- all of them came -/
theorem fill_done {m : Int} {c g : NSet} (h : c &&& g = 0#64) (hc : (card c : Int) ≤ m) (ok : ∀ j, j < card g → ¬ (card (addL c ((nodes g).take j)) : Int) = m) :
    addL c (nodes g) = fillC m c g ∧ (card (addL c (nodes g)) : Int) ≤ m := by
  have key : ∀ j, j ≤ card g → (card c : Int) + j ≤ m := by
    intro j
    induction j with
    | zero => intro _; omega
    | succ j ih =>
      intro hj
      have h1 := ih (by omega)
      have h2 := ok j (by omega)
      rw [card_addL h (by omega)] at h2
      omega
  have hk := key (card g) (Nat.le_refl _)
  have e : addL c (nodes g) = c ||| tk (card g) g := by
    rw [← addL_take, List.take_of_length_le (by rw [nodes_length _ g rfl]; exact Nat.le_refl _)]
  refine ⟨?_, ?_⟩
  · unfold fillC
    rw [e, show min (card g) (m - card c).toNat = card g by omega]
  · have := card_addL h (Nat.le_refl (card g))
    rw [List.take_of_length_le (by rw [nodes_length _ g rfl]; exact Nat.le_refl _)] at this
    omega
/-- there are enough -/
theorem fill_stop {m : Int} {c g : NSet} (h : c &&& g = 0#64) {pre : List Int} {x : Int} (hp : pre ++ [x] <+: nodes g) (hm : (card (addL c pre) : Int) = m) : addL c pre = fillC m c g := by
  obtain ⟨r, hr⟩ := hp
  have hl := congrArg List.length hr
  rw [nodes_length _ g rfl, List.length_append, List.length_append, List.length_singleton] at hl
  have hpre : pre = (nodes g).take pre.length := by rw [← hr, List.append_assoc, List.take_left']; rfl
  have hc := card_addL h (k := pre.length) (by omega)
  rw [← hpre] at hc
  unfold fillC
  rw [show min (card g) (m - card c).toNat = pre.length by omega, ← addL_take, ← hpre]
/-! what is chosen is right -/
theorem fill_card {m : Int} {c g : NSet} (h : c &&& g = 0#64) (hc : (card c : Int) ≤ m) : (card (fillC m c g) : Int) = min ((card c : Int) + card g) m := by
  unfold fillC
  obtain ⟨h1, h2⟩ := tk_spec g (min (card g) (m - card c).toNat) (by omega)
  rw [card_or_apart (and_sub_zero h h1), h2]
  omega
theorem or_sub {a b c : NSet} (h : Sub a c) (h' : Sub b c) : Sub (a ||| b) c := sub_iff.2 fun i hi hg => by
  rw [BitVec.getLsbD_or] at hg
  rcases Bool.or_eq_true _ _ ▸ hg with h1 | h1
  · exact sub_iff.1 h i hi h1
  · exact sub_iff.1 h' i hi h1
theorem fill_sub {m : Int} {c g may : NSet} (hc : Sub c may) (hg : Sub g may) : Sub (fillC m c g) may := or_sub hc (sub_trans (tk_sub g _) hg)
theorem chF_right (may : NSet) (m : Int) (hm : m ≤ card may) : ∀ (ps : List NSet) (c : NSet), Sub c may → (card c : Int) ≤ m → Sub (chF may m ps c) may ∧ (card (chF may m ps c) : Int) = m
  | [], c, hs, hc => by
    rw [chF]
    refine ⟨fill_sub hs (and_subl _ _), ?_⟩
    rw [fill_card (less_apart may c) hc]
    have := card_diff hs
    omega
  | p :: ps, c, hs, hc => by
    rw [chF]
    refine chF_right may m hm ps _ (fill_sub hs (sub_trans (and_subl _ _) (and_subl _ _))) ?_
    rw [fill_card (good_apart may c p) hc]
    omega
theorem diff_of_sub {a b : NSet} (h : Sub a b) : a &&& ~~~b = 0#64 := h
/-- one set that is preferred: no other choice has fewer outside of it -/
theorem chF_cost (may g : NSet) (m : Int) (h0 : 0 ≤ m) (hm : m ≤ card may) : (card (chF may m [g] 0#64 &&& ~~~g) : Int) = max 0 (m - card (may &&& g)) := by
  rw [chF, chF, and_not_zero]
  have hz : (0#64 : NSet) &&& (may &&& g) = 0#64 := by simp
  have c1 := fill_card (m := m) hz (by rw [card_zero]; omega)
  rw [card_zero] at c1
  have s1 : Sub (fillC m 0#64 (may &&& g)) g := fill_sub (sub_zero _) (and_subr _ _)
  have s2 : Sub (fillC m 0#64 (may &&& g)) may := fill_sub (sub_zero _) (and_subl _ _)
  by_cases hle : m ≤ card (may &&& g)
  · have e : fillC m (fillC m 0#64 (may &&& g)) (may &&& ~~~fillC m 0#64 (may &&& g)) = fillC m 0#64 (may &&& g) := fillC_full (by rw [c1]; omega)
    rw [e, diff_of_sub s1, card_zero]
    omega
  · have e1 : fillC m 0#64 (may &&& g) = may &&& g := by
      unfold fillC
      rw [card_zero, show min (card (may &&& g)) (m - ((0 : Nat) : Int)).toNat = card (may &&& g) by omega, ← addL_take, List.take_of_length_le (by rw [nodes_length _ _ rfl]; exact Nat.le_refl _)]
      have := ofL_nodes (card (may &&& g)) (may &&& g) rfl
      have key : ∀ (l : List Int) (c : NSet), addL c l = c ||| ofL l := by
        intro l
        induction l with
        | nil => intro c; simp [addL, ofL]
        | cons x l ih => intro c; rw [addL_cons, ih, BitVec.or_assoc]; rfl
      rw [key, this]; simp
    rw [e1] at c1 ⊢
    have hs : Sub (may &&& g) may := and_subl _ _
    have hd := card_diff hs
    have e2 : fillC m (may &&& g) (may &&& ~~~(may &&& g)) &&& ~~~g = tk (min (card (may &&& ~~~(may &&& g))) (m - card (may &&& g)).toNat) (may &&& ~~~(may &&& g)) := by
      unfold fillC
      have hT := tk_sub (may &&& ~~~(may &&& g)) (min (card (may &&& ~~~(may &&& g))) (m - card (may &&& g)).toNat)
      generalize tk (min (card (may &&& ~~~(may &&& g))) (m - card (may &&& g)).toNat) (may &&& ~~~(may &&& g)) = T at *
      apply BitVec.eq_of_getLsbD_eq
      intro i hi
      have h3 := sub_iff.1 hT i hi
      rw [get_diff _ _ _ hi, BitVec.getLsbD_and] at h3
      rw [get_diff _ _ _ hi, BitVec.getLsbD_or, BitVec.getLsbD_and]
      cases hTi : T.getLsbD i with
      | false => cases may.getLsbD i <;> cases g.getLsbD i <;> rfl
      | true =>
        have h4 := h3 hTi
        cases hm' : may.getLsbD i <;> cases hg' : g.getLsbD i <;> rw [hm', hg'] at h4 <;> first | rfl | cases h4
    rw [e2, (tk_spec _ _ (by omega)).2]
    omega
end Go.Proofs.YtgeldpfojmkdbaaDoor
namespace Go.Proofs.YtgeldpfojmkdbaaDoor
set_option linter.unusedVariables false
open Go
/-- the numbers below k for which p holds, rising -/
def upto (p : Nat → Bool) (k : Nat) : List Int := ((List.range k).filter p).map Int.ofNat
theorem upto_zero (p : Nat → Bool) : upto p 0 = [] := rfl
theorem upto_yes {p : Nat → Bool} {k : Nat} (h : p k = true) : upto p (k + 1) = upto p k ++ [(k : Int)] := by
  unfold upto; rw [List.range_succ, List.filter_append]; simp [h]
theorem upto_no {p : Nat → Bool} {k : Nat} (h : p k = false) : upto p (k + 1) = upto p k := by
  unfold upto; rw [List.range_succ, List.filter_append]; simp [h]
theorem upto_length (p : Nat → Bool) (k : Nat) : (upto p k).length ≤ k := by
  unfold upto; rw [List.length_map]; exact Nat.le_trans (List.length_filter_le _ _) (by simp)
theorem mem_upto {p : Nat → Bool} {k : Nat} {n : Int} : n ∈ upto p k ↔ 0 ≤ n ∧ n < k ∧ p n.toNat = true := by
  unfold upto
  simp only [List.mem_map, List.mem_filter, List.mem_range]
  constructor
  · rintro ⟨i, ⟨h1, h2⟩, rfl⟩
    exact ⟨by simp, by simpa using h1, by simpa using h2⟩
  · rintro ⟨h0, h1, h2⟩
    exact ⟨n.toNat, ⟨by omega, h2⟩, by simp; omega⟩
theorem upto_sorted (p : Nat → Bool) : ∀ k, (upto p k).Pairwise (· < ·)
  | 0 => .nil
  | k + 1 => by
    have ih := upto_sorted p k
    cases h : p k with
    | false => rw [upto_no h]; exact ih
    | true =>
      rw [upto_yes h, List.pairwise_append]
      refine ⟨ih, by simp, fun a ha b hb => ?_⟩
      rw [List.mem_singleton] at hb
      have := (mem_upto.1 ha).2.1
      omega
theorem sorted_ext : ∀ (a b : List Int), a.Pairwise (· < ·) → b.Pairwise (· < ·) → (∀ n, n ∈ a ↔ n ∈ b) → a = b
  | [], [], _, _, _ => rfl
  | [], y :: b, _, _, h => by have := (h y).2 (by simp); cases this
  | x :: a, [], _, _, h => by have := (h x).1 (by simp); cases this
  | x :: a, y :: b, ha, hb, h => by
    obtain ⟨ha1, ha2⟩ := List.pairwise_cons.1 ha
    obtain ⟨hb1, hb2⟩ := List.pairwise_cons.1 hb
    have hxy : x = y := by
      have h1 := (h x).1 (by simp)
      have h2 := (h y).2 (by simp)
      rcases List.mem_cons.1 h1 with e | e
      · exact e
      · rcases List.mem_cons.1 h2 with e' | e'
        · exact e'.symm
        · have := hb1 _ e; have := ha1 _ e'; omega
    subst hxy
    rw [sorted_ext a b ha2 hb2 fun n => ?_]
    constructor
    · intro hn
      have := ha1 _ hn
      rcases List.mem_cons.1 ((h n).1 (by simp [hn])) with e | e
      · omega
      · exact e
    · intro hn
      have := hb1 _ hn
      rcases List.mem_cons.1 ((h n).2 (by simp [hn])) with e | e
      · omega
      · exact e
theorem upto_nodes (s : NSet) : upto (fun i => s.getLsbD i) 64 = nodes s := by
  refine sorted_ext _ _ (upto_sorted _ _) (nodes_sorted (card s) s rfl) fun n => ?_
  rw [mem_upto, nodes_mem (card s) s rfl, hasI_iff]
  constructor
  · rintro ⟨h0, _, h2⟩; exact ⟨h0, h2⟩
  · rintro ⟨h0, h2⟩
    refine ⟨h0, ?_, h2⟩
    have := hasI_lt ((hasI_iff s n).2 ⟨h0, h2⟩)
    omega
/-! a list's set -/
theorem addL_get (i : Nat) (hi : i < 64) : ∀ (l : List Int) (c : NSet), (addL c l).getLsbD i = (c.getLsbD i || decide ((i : Int) ∈ l))
  | [], c => by simp [addL]
  | x :: l, c => by
    rw [addL_cons, addL_get i hi l, BitVec.getLsbD_or, oneI_get]
    simp only [hi, decide_true, Bool.true_and, List.mem_cons]
    by_cases h : x = (i : Int)
    · simp [h]
    · have h' : ¬ (i : Int) = x := fun e => h e.symm
      simp [h, h']
theorem addL_has (l : List Int) (n : Int) (h0 : 0 ≤ n) (h1 : n < 64) : hasI (addL 0#64 l) n = decide (n ∈ l) := by
  unfold hasI
  rw [addL_get n.toNat (by omega), BitVec.getLsbD_zero, Bool.false_or]
  have : ((n.toNat : Nat) : Int) = n := by omega
  simp [h0, this]
theorem made_nodes (l : List Int) : upto (fun i => decide ((i : Int) ∈ l)) 64 = nodes (addL 0#64 l) := by
  rw [← upto_nodes]
  unfold upto
  congr 1
  refine List.filter_congr fun i hi => ?_
  have hi' := List.mem_range.1 hi
  rw [addL_get i hi', BitVec.getLsbD_zero, Bool.false_or]
theorem addL_nodes (s : NSet) : addL 0#64 (nodes s) = s := by
  have := ofL_nodes (card s) s rfl
  have key : ∀ (l : List Int) (c : NSet), addL c l = c ||| ofL l := by
    intro l
    induction l with
    | nil => intro c; simp [addL, ofL]
    | cons x l ih => intro c; rw [addL_cons, ih, BitVec.or_assoc]; rfl
  rw [key, this]; simp
/-- nodes that rise are each new -/
theorem rising_new {l : List Int} (hs : l.Pairwise (· < ·)) (hr : ∀ x ∈ l, 0 ≤ x ∧ x < 64) (k : Nat) (hk : k < l.length) : hasI (addL 0#64 (l.take k)) (l.getD k 0) = false := by
  have e : l.getD k 0 = l[k] := by simp [List.getD, List.getElem?_eq_getElem hk]
  rw [e]
  have hb := hr l[k] (List.getElem_mem hk)
  rw [addL_has _ _ hb.1 hb.2, decide_eq_false_iff_not]
  intro hm
  obtain ⟨j, hj, hje⟩ := List.getElem_of_mem hm
  rw [List.length_take] at hj
  rw [List.getElem_take] at hje
  have := List.pairwise_iff_getElem.1 hs j k (by omega) hk (by omega)
  omega
theorem add_or_nat {a b : NSet} (h : a &&& b = 0#64) : a.toNat + b.toNat = (a ||| b).toNat := by
  have h1 := BitVec.add_eq_or_of_and_eq_zero a b h
  have h2 : (a + b).toNat = a.toNat + b.toNat := by
    rw [BitVec.toNat_add_of_and_eq_zero h]
  rw [← h1, h2]
theorem and_oneI_zero {s : NSet} {n : Int} (h : hasI s n = false) : s &&& oneI n = 0#64 := (and_one s n).2 h
end Go.Proofs.YtgeldpfojmkdbaaDoor
namespace Go.Proofs.YtgeldpfojmkdbaaDoor
set_option linter.unusedVariables false
open Go.ChangeShapes Go.WideShapes Go.ChangeAt Go.RowKit
attribute [local go_sem ↓] Go.wp_at_zero Go.wp_at_succ

theorem bit_at (s : NSet) (k : Nat) : ((s.toNat / 2 ^ k % 2 : Nat) : Int) = if s.getLsbD k = true then 1 else 0 := by
  have : s.getLsbD k = decide (s.toNat / 2 ^ k % 2 = 1) := by
    rw [BitVec.getLsbD, Nat.testBit_eq_decide_div_mod_eq]
  rw [this]
  by_cases h : s.toNat / 2 ^ k % 2 = 1
  · simp [h]
  · have : s.toNat / 2 ^ k % 2 = 0 := by omega
    simp [this]
set_option maxRecDepth 100000 in
theorem rof_any (s : NSet) (w : World) : Calls Tryd.prog 60 #[.int .u64 (nv s)] w (GivesI w (nodes s)) := by
  rw [← upto_nodes]
  go_enter Tryd.func60, Tryd.ntmps60
  go_wp2
  go_loopw [0, 3, 4] (fun x l i wr => ∃ (k : Nat) (v : Value), k ≤ 64 ∧ i = .int .i64 k ∧ x = .int .u64 ((s.toNat / 2 ^ k : Nat) : Int) ∧ l = v ∧ OwnI wr w.heap.size v (upto (fun i => s.getLsbD i) k) ∧ Below w.heap.size w wr) (fun _ _ i _ => 64 - (intOf i).toNat)
  case atStart => exact ⟨0, _, by omega, rfl, by simp [nv], rfl, OwnI.nil, Below.refl _ _⟩
  case round =>
    obtain ⟨k, v, hk, rfl, rfl, rfl, hO, hB⟩ := hrel
    have hlen := upto_length (fun i => s.getLsbD i) k
    by_cases hlt : k < 64
    · have hb := bit_at s k
      have e2 : s.toNat / 2 ^ k / 2 = s.toNat / 2 ^ (k + 1) := by rw [Nat.div_div_eq_div_mul, Nat.pow_succ]
      have hX : ((s.toNat / 2 ^ (k + 1) : Nat) : Int) = ((s.toNat / 2 ^ k : Nat) : Int) / 2 := by rw [← e2]; generalize s.toNat / 2 ^ k = y; omega
      have hm : ((s.toNat / 2 ^ k % 2 : Nat) : Int) = ((s.toNat / 2 ^ k : Nat) : Int) % 2 := by generalize s.toNat / 2 ^ k = y; omega
      rw [hm] at hb
      have HX := Lib.hid hX
      clear hX hm e2
      have hx0 : 0 ≤ ((s.toNat / 2 ^ k : Nat) : Int) := Int.natCast_nonneg _
      have hx1 : ((s.toNat / 2 ^ k : Nat) : Int) ≤ 18446744073709551615 := by have h1 := s.isLt; have h2 := Nat.div_le_self s.toNat (2 ^ k); generalize s.toNat / 2 ^ k = y at *; omega
      generalize ((s.toNat / 2 ^ k : Nat) : Int) = X at *
      cases hbit : s.getLsbD k with
      | true =>
        rw [hbit, if_pos rfl] at hb
        have hb' : (X % 2 == 1) = true := by rw [hb]; rfl
        have HU := Lib.hid (upto_yes (p := fun i => s.getLsbD i) hbit)
        clear hb hbit
        go_wp2_with (at_builtin; refine wpList_append_int 104 Tryd.underlying104 rfl _ _ rfl w.heap.size u3 _ rfl (hO.below (below_alloc (Below.refl _ wr) _)) wr.heap.size 1 (k : Int) rfl (by simp) (by omega) (by simp; have := hB.size; omega) ?_; intro v' w1 hO' hB')
        go_roundw
        case rel => exact ⟨k + 1, _, by omega, by go_num, by rw [HX.out], rfl, by rw [HU.out]; exact hO', hB.trans ((Below.alloc (Below.refl _ _) hB.size _).trans hB')⟩
        case measure => simp [intOf]; omega
      | false =>
        rw [hbit, if_neg (by decide)] at hb
        have hb' : (X % 2 == 1) = false := by rw [hb]; rfl
        have HU := Lib.hid (upto_no (p := fun i => s.getLsbD i) hbit)
        clear hb hbit
        go_wp2
        go_roundw
        case rel => exact ⟨k + 1, _, by omega, by go_num, by rw [HX.out], rfl, by rw [HU.out]; exact hO, hB⟩
        case measure => simp [intOf]; omega
    · obtain rfl : k = 64 := by omega
      go_wp2
      go_ret
      exact ⟨_, rfl, hO, hB⟩
set_option maxRecDepth 100000 in
theorem rhas_row (g o c : Nat) (l : List Int) (n : Int) (w : World) (hl : l.length ≤ 9223372036854775807) (hc : ∀ k, k < l.length → w.cell? ⟨g, o + k, none⟩ = some (.int .i64 (l.getD k 0))) :
    Calls Tryd.prog 61 #[.slice (some ⟨g, o, none⟩) l.length c, .int .i64 n] w fun e w' => e = .returned (.bool (decide (n ∈ l))) ∧ w = w' := by
  have HC := Lib.hid hc
  clear hc
  generalize hD : decide (n ∈ l) = D
  have HD := Lib.hid hD
  clear hD
  go_enter Tryd.func61, Tryd.ntmps61
  go_wp2
  go_loop [5] (fun i => ∃ k : Nat, k ≤ l.length ∧ i = .int .i64 k ∧ n ∉ l.take k) (fun i => l.length - (intOf i).toNat)
  case atStart => exact ⟨0, Nat.zero_le _, rfl, by simp⟩
  case round =>
    obtain ⟨k, hk, rfl, hno⟩ := hrel
    by_cases hlt : k < l.length
    · have hcell := HC.out k hlt
      have hx : l.getD k 0 = l[k] := by simp [List.getD, List.getElem?_eq_getElem hlt]
      by_cases hn : l.getD k 0 = n
      · have hb : (l.getD k 0 == n) = true := by simpa using hn
        have hD2 : D = true := by rw [← HD.out, decide_eq_true_eq, ← hn, hx]; exact List.getElem_mem hlt
        subst hD2
        clear hn hx hno
        generalize l.getD k 0 = x at *
        go_wp2
        go_ret
        exact ⟨rfl, rfl⟩
      · have hb : (l.getD k 0 == n) = false := by simpa using hn
        have HN := Lib.hid (show n ∉ l.take (k + 1) by
          rw [List.take_succ_eq_append_getElem hlt, List.mem_append, List.mem_singleton]
          rintro (h | h)
          · exact hno h
          · exact hn (hx.trans h.symm))
        clear hn hx hno
        generalize l.getD k 0 = x at *
        go_wp2
        go_round
        case rel => exact ⟨k + 1, by omega, by go_num, HN.out⟩
        case measure => simp [intOf]; omega
    · obtain rfl : k = l.length := by omega
      have hD2 : D = false := by rw [← HD.out, decide_eq_false_iff_not]; rwa [List.take_of_length_le (Nat.le_refl _)] at hno
      subst hD2
      clear hno
      go_wp2
      go_ret
      exact ⟨rfl, rfl⟩
theorem rhas_none (a : Option Addr) (c : Nat) (n : Int) (w : World) :
    Calls Tryd.prog 61 #[.slice a 0 c, .int .i64 n] w fun e w' => e = .returned (.bool false) ∧ w = w' := by
  go_enter Tryd.func61, Tryd.ntmps61
  go_wp2
  go_loop [5] (fun i => i = .int .i64 0) (fun i => 0)
  case atStart => exact rfl
  case round =>
    subst hrel
    go_wp2
    go_ret
    exact ⟨rfl, rfl⟩
theorem rhas_any {v : Value} {l : List Int} (n : Int) (w : World) (h : ReadsI w v l) :
    Calls Tryd.prog 61 #[v, .int .i64 n] w fun e w' => e = .returned (.bool (decide (n ∈ l))) ∧ w = w' := by
  rcases h with ⟨rfl, a, c, rfl⟩ | ⟨h0, h1, g, o, c, rfl, _, hc⟩
  · have := rhas_none a c n w
    simpa using this
  · exact rhas_row g o c l n w h1 hc
end Go.Proofs.YtgeldpfojmkdbaaDoor
namespace Go.Proofs.YtgeldpfojmkdbaaDoor
set_option linter.unusedVariables false
open Go.ChangeShapes Go.WideShapes Go.ChangeAt Go.RowKit
attribute [local go_sem ↓] Go.wp_at_zero Go.wp_at_succ

/-- sets together -/
def orS (l : List NSet) : NSet := l.foldl (· ||| ·) 0#64
theorem orS_snoc (l : List NSet) (s : NSet) : orS (l ++ [s]) = orS l ||| s := by unfold orS; rw [List.foldl_append]; rfl
end Go.Proofs.YtgeldpfojmkdbaaDoor
namespace Go.Proofs.YtgeldpfojmkdbaaDoor
set_option linter.unusedVariables false
open Go

theorem hasI_and (a b : NSet) (n : Int) : hasI (a &&& b) n = (hasI a n && hasI b n) := by
  unfold hasI
  rw [BitVec.getLsbD_and]
  cases decide (0 ≤ n) <;> simp
theorem hasI_or (a b : NSet) (n : Int) : hasI (a ||| b) n = (hasI a n || hasI b n) := by
  unfold hasI
  rw [BitVec.getLsbD_or]
  cases decide (0 ≤ n) <;> simp
theorem hasI_less (a b : NSet) (n : Int) : hasI (a &&& ~~~b) n = (hasI a n && !hasI b n) := by
  unfold hasI
  rw [BitVec.getLsbD_and, BitVec.getLsbD_not]
  by_cases h : n.toNat < 64
  · cases decide (0 ≤ n) <;> simp [h]
  · have : a.getLsbD n.toNat = false := BitVec.getLsbD_of_ge _ _ (by omega)
    cases decide (0 ≤ n) <;> simp [h, this]
theorem less_or_and (a b : NSet) : (a &&& ~~~b) ||| (a &&& b) = a := by
  apply BitVec.eq_of_getLsbD_eq
  intro i hi
  rw [BitVec.getLsbD_or, BitVec.getLsbD_and, BitVec.getLsbD_and, BitVec.getLsbD_not]
  simp only [hi, decide_true, Bool.true_and]
  cases a.getLsbD i <;> cases b.getLsbD i <;> rfl
theorem orS_three (a b c : NSet) : orS [a, b, c] = a ||| b ||| c := by
  show 0#64 ||| a ||| b ||| c = _
  rw [BitVec.zero_or]
end Go.Proofs.YtgeldpfojmkdbaaDoor
namespace Go.Proofs.YtgeldpfojmkdbaaDoor
set_option linter.unusedVariables false
open Go Go.RowKit
namespace Rl
section
variable {P : Program} {ops : Array Oper} {md : Region.Mode} {Gr : World → World → Prop} {W0 : World}

/-- what is asked of a region's edges -/
def relB (md : Region.Mode) (ops : Array Oper) : Bool :=
  Region.noSelect ops && (List.range ops.size).all fun i => match ops[i]? with
    | none => true
    | some oi =>
      oi.after.all (fun e => !Region.binds md e || decide (e.on < i)) &&
      (List.range ops.size).all fun j => match ops[j]? with
        | none => true
        | some oj => j == i || ((oi.dst.isNone || oj.dst != oi.dst) &&
            (match oj.dst with
              | none => true
              | some t => !(oi.looksAt ops).contains t || (decide (j < i) && waitsOn md oi j) || (decide (i < j) && waitsOn md oj i)))
structure RelOk (md : Region.Mode) (ops : Array Oper) : Prop where
  sel : ∀ (j : Nat) (o : Oper) cs b, ops[j]? = some o → o.op ≠ .select cs b
  back : ∀ (i : Nat) (oi : Oper), ops[i]? = some oi → ∀ e ∈ oi.after, Region.binds md e = true → e.on < i
  dd : ∀ (i j : Nat) (oi oj : Oper) (d : Tmp), ops[i]? = some oi → ops[j]? = some oj → oi.dst = some d → oj.dst = some d → i = j
  look : ∀ (i j : Nat) (oi oj : Oper) (t : Tmp), ops[i]? = some oi → ops[j]? = some oj → oj.dst = some t → t ∈ oi.looksAt ops → j = i ∨ (j < i ∧ waitsOn md oi j = true) ∨ (i < j ∧ waitsOn md oj i = true)
theorem relB_spec (h : relB md ops = true) : RelOk md ops := by
  simp only [relB, Bool.and_eq_true] at h
  obtain ⟨hs, h⟩ := h
  have H : ∀ (i : Nat) (oi : Oper), ops[i]? = some oi → oi.after.all (fun e => !Region.binds md e || decide (e.on < i)) = true ∧
      ((List.range ops.size).all fun j => match ops[j]? with
        | none => true
        | some oj => j == i || ((oi.dst.isNone || oj.dst != oi.dst) &&
            (match oj.dst with
              | none => true
              | some t => !(oi.looksAt ops).contains t || (decide (j < i) && waitsOn md oi j) || (decide (i < j) && waitsOn md oj i)))) = true := fun i oi hi => by
    have := List.all_eq_true.1 h i (List.mem_range.2 (Array.getElem?_eq_some_iff.1 hi).1)
    simpa only [hi, Bool.and_eq_true] using this
  have J : ∀ (i : Nat) (oi : Oper), ops[i]? = some oi → ∀ j oj, ops[j]? = some oj → j ≠ i → ((oi.dst.isNone || oj.dst != oi.dst) &&
            (match oj.dst with
              | none => true
              | some t => !(oi.looksAt ops).contains t || (decide (j < i) && waitsOn md oi j) || (decide (i < j) && waitsOn md oj i))) = true := fun i oi hi j oj hj hne => by
    have := List.all_eq_true.1 (H i oi hi).2 j (List.mem_range.2 (Array.getElem?_eq_some_iff.1 hj).1)
    simp only [hj, Bool.or_eq_true, beq_iff_eq, hne, false_or] at this
    exact this
  refine ⟨fun j o cs b hj => Region.noSelect_spec hs j o cs b hj, fun i oi hi e he hb => ?_, fun i j oi oj d hi hj h1 h2 => ?_, fun i j oi oj t hi hj h1 h2 => ?_⟩
  · have := Array.all_eq_true_iff_forall_mem.1 (H i oi hi).1 e he
    simpa [hb] using this
  · refine Classical.byContradiction fun hne => ?_
    have := J i oi hi j oj hj (fun h => hne h.symm)
    simp [h1, h2] at this
  · by_cases hji : j = i
    · exact .inl hji
    · have := J i oi hi j oj hj hji
      simp only [h1, Bool.and_eq_true, Bool.or_eq_true] at this
      rcases this.2 with (h3 | ⟨h3, h4⟩) | ⟨h3, h4⟩
      · simp [h2] at h3
      · exact .inr (.inl ⟨by simpa using h3, h4⟩)
      · exact .inr (.inr ⟨by simpa using h3, h4⟩)

abbrev Rel := Value → World → Prop
/-- what one operation's run comes to: a value and a world of the kind S -/
def comesToR (P : Program) (S : Rel) : Result Next → Prop
  | .ok (.value u) w' => S u w'
  | .ok .skip w' => S undef w'
  | .ok (.enter f args) w' => Calls P f args w' (fun e w'' => ∃ v, e = .returned v ∧ S v w'')
  | _ => False
theorem comesToR_value_eq (S : Rel) (u : Value) (w : World) : comesToR P S (.ok (.value u) w) = S u w := rfl
theorem comesToR_skip_eq (S : Rel) (w : World) : comesToR P S (.ok .skip w) = S undef w := rfl
theorem comesToR_enter_eq (S : Rel) (f : FuncId) (args : Array Value) (w : World) : comesToR P S (.ok (.enter f args) w) = Calls P f args w (fun e w'' => ∃ v, e = .returned v ∧ S v w'') := rfl

/-- what is known of the text's order: by slots, of which of them a relation is known, the other ones' values, the frames -/
structure Known (P : Program) (ops : Array Oper) (Gr : World → World → Prop) (W0 : World) (RR : Tmp → Option Rel) (vals : Nat → Value) (F : Nat → (Tmp → Value) → Act) : Prop where
  start : ∀ ρ ρ', F 0 ρ = F 0 ρ'
  det : ∀ (i : Nat) (o : Oper), ops[i]? = some o → o.dst.bind RR = none → F (i + 1) = (fun ρ => (F i ρ).put o.dst (vals i)) ∧ ∀ ρ w, Gr W0 w →
    (∀ (j : Nat) (oj : Oper) (d : Tmp) (R : Rel), j < i → ops[j]? = some oj → oj.dst = some d → d ∈ o.looksAt ops → RR d = some R → R (ρ d) w) →
    (Region.wanted o (yielded ops (F i ρ).tmps) = true ∧ comesToR P (fun u w' => u = vals i ∧ Gr w w') ((execOp (F i ρ).eval o).run P w)) ∨ (Region.wanted o (yielded ops (F i ρ).tmps) = false ∧ vals i = undef)
  rel : ∀ (i : Nat) (o : Oper) (d : Tmp) (R : Rel), ops[i]? = some o → o.dst = some d → RR d = some R → F (i + 1) = (fun ρ => (F i ρ).put (some d) (ρ d)) ∧ (∀ v w w', Gr w w' → R v w → R v w') ∧ ∀ ρ w, Gr W0 w →
    (∀ (j : Nat) (oj : Oper) (d : Tmp) (R : Rel), j < i → ops[j]? = some oj → oj.dst = some d → d ∈ o.looksAt ops → RR d = some R → R (ρ d) w) →
    Region.wanted o (yielded ops (F i ρ).tmps) = true ∧ comesToR P (fun u w' => R u w' ∧ Gr w w') ((execOp (F i ρ).eval o).run P w)
/-- an operation's value -/
def valR (ops : Array Oper) (RR : Tmp → Option Rel) (vals : Nat → Value) (ρ : Tmp → Value) (i : Nat) : Value :=
  match ops[i]? with
  | some o => match o.dst with
    | some d => if (RR d).isSome then ρ d else vals i
    | none => vals i
  | none => vals i
theorem valR_det {RR : Tmp → Option Rel} {vals : Nat → Value} {ρ : Tmp → Value} {i : Nat} {o : Oper} (hi : ops[i]? = some o) (h : o.dst.bind RR = none) : valR ops RR vals ρ i = vals i := by
  unfold valR
  rw [hi]
  cases hd : o.dst with
  | none => simp [hd]
  | some d =>
    rw [hd] at h
    simp only [Option.bind_some] at h
    simp [hd, h]
theorem valR_rel {RR : Tmp → Option Rel} {vals : Nat → Value} {ρ : Tmp → Value} {i : Nat} {o : Oper} {d : Tmp} {R : Rel} (hi : ops[i]? = some o) (hd : o.dst = some d) (h : RR d = some R) : valR ops RR vals ρ i = ρ d := by
  unfold valR
  rw [hi]
  simp [hd, h]
/-- the frame of the text's order, at each operation -/
theorem Known.agr {RR : Tmp → Option Rel} {vals : Nat → Value} {F : Nat → (Tmp → Value) → Act} (ok : RelOk md ops) (K : Known P ops Gr W0 RR vals F) (ρ : Tmp → Value) :
    ∀ k, k ≤ ops.size → Agr ops (fun j => j < k) (valR ops RR vals ρ) (F 0 ρ) (F k ρ)
  | 0, _ => (Agr.refl (valR ops RR vals ρ) (F 0 ρ)).congr (fun i o d _ _ => by simp) (fun _ _ _ _ _ h => h.elim)
  | k + 1, hk => by
    have ih := Known.agr ok K ρ k (by omega)
    have ho : ops[k]? = some ops[k] := Array.getElem?_eq_getElem (by omega)
    have fin : ∀ v, (∀ d, ops[k].dst = some d → v = valR ops RR vals ρ k) → Agr ops (fun j => j < k + 1) (valR ops RR vals ρ) (F 0 ρ) ((F k ρ).put ops[k].dst v) := fun v hv => by
      refine (ih.put ok.dd ho (fun h => by omega) v).congr (fun i o d hi hd' => ⟨fun h => ?_, fun h => ?_⟩) (fun i o d hi hd' h => ?_)
      · rcases h with h | rfl <;> omega
      · by_cases hik : i = k
        · exact .inr hik
        · exact .inl (by omega)
      · by_cases hik : i = k
        · subst hik
          obtain rfl : ops[i] = o := Option.some.inj (ho.symm.trans hi)
          simp only [if_true]
          exact hv d hd'
        · simp [hik]
    cases hb : ops[k].dst.bind RR with
    | none =>
      rw [(K.det k _ ho hb).1]
      exact fin _ fun d hd => (valR_det ho hb).symm
    | some R =>
      cases hd : ops[k].dst with
      | none => rw [hd] at hb; cases hb
      | some d =>
        rw [hd] at hb
        have hR : RR d = some R := by simpa using hb
        rw [(K.rel k _ d R ho hd hR).1]
        have := fin (ρ d) fun d' hd' => by
          rw [hd] at hd'
          cases hd'
          exact (valR_rel ho hd hR).symm
        rw [hd] at this
        exact this

/-- what holds in every order, behind some operations -/
structure Inv (md : Region.Mode) (ops : Array Oper) (Gr : World → World → Prop) (W0 : World) (RR : Tmp → Option Rel) (vals : Nat → Value) (a0 : Act) (ρ : Tmp → Value) (listed : Array Bool) (a : Act) (w : World) : Prop where
  size : listed.size = ops.size
  closed : ∀ (j : Nat) (oj : Oper), ops[j]? = some oj → listed.getD j false = true → ∀ e ∈ oj.after, Region.binds md e = true → listed.getD e.on false = true
  agr : Agr ops (fun i => listed.getD i false = true) (valR ops RR vals ρ) a0 a
  on : Gr W0 w
  known : ∀ (i : Nat) (o : Oper) (d : Tmp) (R : Rel), ops[i]? = some o → o.dst = some d → RR d = some R → listed.getD i false = true → R (ρ d) w
/-- what an operation looks at is as in the text's order -/
theorem Inv.looks {RR : Tmp → Option Rel} {vals : Nat → Value} {F : Nat → (Tmp → Value) → Act} {ρ : Tmp → Value} {listed : Array Bool} {a : Act} {w : World} (ok : RelOk md ops) (K : Known P ops Gr W0 RR vals F)
    (inv : Inv md ops Gr W0 RR vals (F 0 ρ) ρ listed a w) {i : Nat} {o : Oper} (hi : ops[i]? = some o) (hr : i ∈ Region.ready md ops listed) (t : Tmp) (ht : t ∈ o.looksAt ops) : a.tmps[t]? = (F i ρ).tmps[t]? := by
  have hin : i < ops.size := (Array.getElem?_eq_some_iff.1 hi).1
  obtain ⟨hun, o', ho', hall⟩ := mem_ready.1 hr
  obtain rfl : o' = o := Option.some.inj (ho'.symm.trans hi)
  refine inv.agr.same (K.agr ok ρ i (by omega)) t fun j oj hj hd => ?_
  rcases ok.look i j o' oj t hi hj hd ht with rfl | ⟨hlt, hw⟩ | ⟨hlt, hw⟩
  · exact ⟨⟨fun h => absurd h (not_listed hun), fun h => by omega⟩, fun _ => rfl⟩
  · obtain ⟨e, he, hb, rfl⟩ := waitsOn_spec hw
    have hl := hall e he hb
    exact ⟨⟨fun _ => hlt, fun _ => hl⟩, fun _ => rfl⟩
  · obtain ⟨e, he, hb, he'⟩ := waitsOn_spec hw
    have hn : ¬ listed.getD j false = true := fun h => by
      have := inv.closed j oj hj h e he hb
      rw [he'] at this
      exact not_listed hun this
    exact ⟨⟨fun h => absurd h hn, fun h => by omega⟩, fun _ => rfl⟩
/-- a step keeps the invariant -/
theorem Inv.step {RR : Tmp → Option Rel} {vals : Nat → Value} {F : Nat → (Tmp → Value) → Act} {ρ : Tmp → Value} {listed : Array Bool} {a : Act} {w : World} {Q : Exit → Act → World → Prop} (gt : ∀ a b c, Gr a b → Gr b c → Gr a c) (gr : ∀ a, Gr a a)
    (ok : RelOk md ops) (K : Known P ops Gr W0 RR vals F)
    (inv : Inv md ops Gr W0 RR vals (F 0 ρ) ρ listed a w) {i : Nat} (hr : i ∈ Region.ready md ops listed) :
    wpOp P ops Q i (fun a' w' => ∃ ρ', Inv md ops Gr W0 RR vals (F 0 ρ') ρ' (listed.setIfInBounds i true) a' w') a w := by
  obtain ⟨hun, o, hi, hall⟩ := mem_ready.1 hr
  have hin : i < ops.size := (Array.getElem?_eq_some_iff.1 hi).1
  have hni := not_listed hun
  have hil : i < listed.size := by rw [inv.size]; exact hin
  have hsize : (listed.setIfInBounds i true).size = ops.size := by simp [inv.size]
  have hclosed : ∀ (j : Nat) (oj : Oper), ops[j]? = some oj → (listed.setIfInBounds i true).getD j false = true → ∀ e ∈ oj.after, Region.binds md e = true → (listed.setIfInBounds i true).getD e.on false = true := fun j oj hj hl e he hb => by
    rcases set_back hl with h | rfl
    · exact getD_set_true (inv.closed j oj hj h e he hb)
    · obtain rfl : o = oj := Option.some.inj (hi.symm.trans hj)
      exact getD_set_true (hall e he hb)
  have hback : ∀ j, j ≠ i → (listed.setIfInBounds i true).getD j false = true → listed.getD j false = true := fun j hne h => (set_back h).resolve_right hne
  have hsame := exec_same (ops := ops) (o := o) (a := a) (a' := F i ρ) (fun cs b => ok.sel i o cs b hi) (fun t ht => inv.looks ok K hi hr t ht)
  have hdeps : ∀ (j : Nat) (oj : Oper) (d : Tmp) (R : Rel), j < i → ops[j]? = some oj → oj.dst = some d → d ∈ o.looksAt ops → RR d = some R → R (ρ d) w := fun j oj d R hji hj hd hl hR => by
    rcases ok.look i j o oj d hi hj hd hl with rfl | ⟨_, hw⟩ | ⟨hlt, _⟩
    · omega
    · obtain ⟨e, he, hb, rfl⟩ := waitsOn_spec hw
      exact inv.known _ oj d R hj hd hR (hall e he hb)
    · omega
  have hagr : ∀ (ρ' : Tmp → Value) v, (∀ j oj d, ops[j]? = some oj → oj.dst = some d → j ≠ i → ρ' d = ρ d) → (∀ d, o.dst = some d → v = valR ops RR vals ρ' i) → Agr ops (fun j => (listed.setIfInBounds i true).getD j false = true) (valR ops RR vals ρ') (F 0 ρ') (a.put o.dst v) := fun ρ' v hρ hv => by
    rw [K.start ρ' ρ]
    refine (inv.agr.put ok.dd hi hni _).congr (fun j oj e hj he => ⟨fun h => ?_, fun h => ?_⟩) (fun j oj e hj he hl => ?_)
    · rcases h with h | rfl
      · exact getD_set_true h
      · exact set_self hil
    · exact set_back h
    · by_cases hji : j = i
      · subst hji
        obtain rfl : o = oj := Option.some.inj (hi.symm.trans hj)
        simp only [if_true]
        exact hv e he
      · simp only [hji, if_false]
        have h1 := hρ j oj e hj he hji
        unfold valR
        rw [hj]
        simp only [he, h1]
  cases hb : o.dst.bind RR with
  | none =>
    obtain ⟨_, hy⟩ := K.det i o hi hb
    have done : ∀ w', Gr w w' → ∃ ρ', Inv md ops Gr W0 RR vals (F 0 ρ') ρ' (listed.setIfInBounds i true) (a.put o.dst (vals i)) w' := fun w' hg => by
      refine ⟨ρ, hsize, hclosed, hagr ρ _ (fun _ _ _ _ _ _ => rfl) (fun d hd => (valR_det hi hb).symm), gt _ _ _ inv.on hg, fun j oj d R hj hd hR hl => ?_⟩
      have hji : j ≠ i := fun h => by
        subst h
        obtain rfl : o = oj := Option.some.inj (hi.symm.trans hj)
        rw [hd] at hb
        simp only [Option.bind_some, hR] at hb
        cases hb
      exact (K.rel j oj d R hj hd hR).2.1 _ _ _ hg (inv.known j oj d R hj hd hR (hback j hji hl))
    unfold wpOp
    simp only [hi]
    rcases hy ρ w inv.on hdeps with ⟨hw, h1⟩ | ⟨hw, hv⟩
    · rw [← hsame.2] at hw
      simp only [hw, if_true]
      refine .inl ?_
      unfold Oper.wp
      rw [hsame.1]
      generalize (execOp (F i ρ).eval o).run P w = r at *
      cases r with
      | ok n w' =>
        cases n <;> simp only [comesToR] at h1 <;> simp only [Oper.upon]
        case value u => obtain ⟨rfl, h2⟩ := h1; exact done _ h2
        case skip => obtain ⟨h0, h2⟩ := h1; rw [h0]; exact done _ h2
        case enter f args => exact h1.mono fun e w'' ⟨v, he, h0, h2⟩ => by subst he; subst h0; exact done _ h2
      | halt x w' => simp only [comesToR] at h1
    · rw [← hsame.2] at hw
      simp only [hw, Bool.false_eq_true, if_false]
      rw [← hv]
      exact done w (gr _)
  | some R =>
    cases hd : o.dst with
    | none => rw [hd] at hb; cases hb
    | some d =>
      have hR : RR d = some R := by rw [hd] at hb; simpa using hb
      obtain ⟨_, hst, hy⟩ := K.rel i o d R hi hd hR
      obtain ⟨hw, h1⟩ := hy ρ w inv.on hdeps
      have done : ∀ v w', R v w' → Gr w w' → ∃ ρ', Inv md ops Gr W0 RR vals (F 0 ρ') ρ' (listed.setIfInBounds i true) (a.put (some d) v) w' := fun v w' hRv hg => by
        refine ⟨fun t => if t = d then v else ρ t, hsize, hclosed, ?_, gt _ _ _ inv.on hg, fun j oj d' R' hj hd' hR' hl => ?_⟩
        · have := hagr (fun t => if t = d then v else ρ t) v (fun j oj d' hj hd' hji => by
            have hne : d' ≠ d := fun h => hji (ok.dd j i oj o d' hj hi hd' (by rw [hd, h]))
            simp [hne]) (fun d' hd' => by
            rw [hd] at hd'; cases hd'
            rw [valR_rel hi hd hR]; simp)
          rwa [hd] at this
        · by_cases hji : j = i
          · subst hji
            obtain rfl : o = oj := Option.some.inj (hi.symm.trans hj)
            obtain rfl : d = d' := Option.some.inj (hd.symm.trans hd')
            obtain rfl : R = R' := Option.some.inj (hR.symm.trans hR')
            simpa using hRv
          · have hne : d' ≠ d := fun h => hji (ok.dd j i oj o d' hj hi hd' (by rw [hd, h]))
            simp only [hne, if_false]
            exact (K.rel j oj d' R' hj hd' hR').2.1 _ _ _ hg (inv.known j oj d' R' hj hd' hR' (hback j hji hl))
      unfold wpOp
      simp only [hi]
      rw [← hsame.2] at hw
      simp only [hw, if_true]
      refine .inl ?_
      unfold Oper.wp
      rw [hsame.1]
      generalize (execOp (F i ρ).eval o).run P w = r at *
      cases r with
      | ok n w' =>
        cases n <;> simp only [comesToR] at h1 <;> simp only [Oper.upon, hd]
        case value u => exact done _ _ h1.1 h1.2
        case skip => exact done _ _ h1.1 h1.2
        case enter f args => exact h1.mono fun e w'' ⟨v, he, h0, h2⟩ => by subst he; exact done _ _ h0 h2
      | halt x w' => simp only [comesToR] at h1
theorem all_listed {listed : Array Bool} (ok : RelOk md ops) (hs : listed.size = ops.size) (h : Region.ready md ops listed = []) : ∀ i, i < ops.size → listed.getD i false = true := by
  intro i
  induction i using Nat.strongRecOn with
  | _ i ih =>
    intro hi
    refine Classical.byContradiction fun hn => ?_
    have hf : listed.getD i false = false := by simpa using hn
    have hu : listed.getD i true = false := getD_in (by omega) hf
    have ho : ops[i]? = some ops[i] := Array.getElem?_eq_getElem hi
    have : i ∈ Region.ready md ops listed := mem_ready.2 ⟨hu, _, ho, fun e he hb => by
      have hlt := ok.back i _ ho e he hb
      exact ih e.on hlt (by omega)⟩
    rw [h] at this; cases this
theorem wpAny_of_inv {RR : Tmp → Option Rel} {vals : Nat → Value} {F : Nat → (Tmp → Value) → Act} {Q : Exit → Act → World → Prop} (gt : ∀ a b c, Gr a b → Gr b c → Gr a c) (gr : ∀ a, Gr a a) (ok : RelOk md ops) (K : Known P ops Gr W0 RR vals F)
    (hend : ∀ ρ listed a w, Inv md ops Gr W0 RR vals (F 0 ρ) ρ listed a w → (∀ i, i < ops.size → listed.getD i false = true) → Q .normal a w) :
    ∀ (fuel : Nat) (ρ : Tmp → Value) (listed : Array Bool) (a : Act) (w : World), leftN ops listed ≤ fuel → Inv md ops Gr W0 RR vals (F 0 ρ) ρ listed a w → wpAny P md ops Q fuel listed a w
  | 0, ρ, listed, a, w, hf, inv => by
    have hr : Region.ready md ops listed = [] := by
      cases hr : Region.ready md ops listed with
      | nil => rfl
      | cons i l =>
        have := leftN_set (ops := ops) (i := i) (md := md) (by rw [hr]; exact List.mem_cons_self) inv.size
        omega
    exact ⟨hr, hend ρ listed a w inv (all_listed ok inv.size hr)⟩
  | fuel + 1, ρ, listed, a, w, hf, inv => by
    refine ⟨fun hr => hend ρ listed a w inv (all_listed ok inv.size hr), fun i hi => ?_⟩
    have hless := leftN_set hi inv.size
    refine wpOp_mono (fun a' w' ⟨ρ', inv'⟩ => ?_) (inv.step gt gr ok K hi)
    exact wpAny_of_inv gt gr ok K hend fuel ρ' _ a' w' (by omega) inv'
end
end Rl
end Go.Proofs.YtgeldpfojmkdbaaDoor
namespace Go.Proofs.YtgeldpfojmkdbaaDoor
set_option linter.unusedVariables false
open Go Go.RowKit
namespace Rl
section
variable {P : Program} {ops : Array Oper} {md : Region.Mode} {Gr : World → World → Prop} {W0 : World}

/-- what is known of the slots that an operation looks at -/
def deps (ops : Array Oper) (G : List (Tmp × Rel)) (o : Oper) (ρ : Tmp → Value) (w : World) : Prop := ∀ e ∈ G, e.1 ∈ o.looksAt ops → e.2 (ρ e.1) w
/-- the operations of the text, one behind the other -/
def textR (P : Program) (ops : Array Oper) (Gr : World → World → Prop) (W0 : World) (Q : List (Tmp × Rel) → ((Tmp → Value) → Act) → Prop) : List Oper → List (Tmp × Rel) → ((Tmp → Value) → Act) → Prop
  | [], G, F => Q G F
  | o :: rest, G, F =>
    (∃ v, (∀ ρ w, Gr W0 w → deps ops G o ρ w → (Region.wanted o (yielded ops (F ρ).tmps) = true ∧ comesToR P (fun u w' => u = v ∧ Gr w w') ((execOp (F ρ).eval o).run P w)) ∨ (Region.wanted o (yielded ops (F ρ).tmps) = false ∧ v = undef)) ∧
      textR P ops Gr W0 Q rest G (fun ρ => (F ρ).put o.dst v)) ∨
    ∃ (d : Tmp) (R : Rel), o.dst = some d ∧ (∀ v w w', Gr w w' → R v w → R v w') ∧
      (∀ ρ w, Gr W0 w → deps ops G o ρ w → Region.wanted o (yielded ops (F ρ).tmps) = true ∧ comesToR P (fun u w' => R u w' ∧ Gr w w') ((execOp (F ρ).eval o).run P w)) ∧
      textR P ops Gr W0 Q rest ((d, R) :: G) (fun ρ => (F ρ).put (some d) (ρ d))
theorem textR_nil {Q : List (Tmp × Rel) → ((Tmp → Value) → Act) → Prop} {G : List (Tmp × Rel)} {F : (Tmp → Value) → Act} (h : Q G F) : textR P ops Gr W0 Q [] G F := h
theorem textR_run {Q : List (Tmp × Rel) → ((Tmp → Value) → Act) → Prop} {o : Oper} {rest : List Oper} {G : List (Tmp × Rel)} {F : (Tmp → Value) → Act} (v : Value) (hw : ∀ ρ, Region.wanted o (yielded ops (F ρ).tmps) = true)
    (hy : ∀ ρ w, Gr W0 w → deps ops G o ρ w → comesToR P (fun u w' => u = v ∧ Gr w w') ((execOp (F ρ).eval o).run P w)) (h : textR P ops Gr W0 Q rest G (fun ρ => (F ρ).put o.dst v)) : textR P ops Gr W0 Q (o :: rest) G F :=
  .inl ⟨v, fun ρ w hg hd => .inl ⟨hw ρ, hy ρ w hg hd⟩, h⟩
theorem textR_skip {Q : List (Tmp × Rel) → ((Tmp → Value) → Act) → Prop} {o : Oper} {rest : List Oper} {G : List (Tmp × Rel)} {F : (Tmp → Value) → Act} (hw : ∀ ρ, Region.wanted o (yielded ops (F ρ).tmps) = false)
    (h : textR P ops Gr W0 Q rest G (fun ρ => (F ρ).put o.dst undef)) : textR P ops Gr W0 Q (o :: rest) G F :=
  .inl ⟨undef, fun ρ w hg hd => .inr ⟨hw ρ, rfl⟩, h⟩
theorem textR_rel {Q : List (Tmp × Rel) → ((Tmp → Value) → Act) → Prop} {o : Oper} {rest : List Oper} {G : List (Tmp × Rel)} {F : (Tmp → Value) → Act} (d : Tmp) (R : Rel) (hd : o.dst = some d) (hs : ∀ v w w', Gr w w' → R v w → R v w') (hw : ∀ ρ, Region.wanted o (yielded ops (F ρ).tmps) = true)
    (hy : ∀ ρ w, Gr W0 w → deps ops G o ρ w → comesToR P (fun u w' => R u w' ∧ Gr w w') ((execOp (F ρ).eval o).run P w)) (h : textR P ops Gr W0 Q rest ((d, R) :: G) (fun ρ => (F ρ).put (some d) (ρ d))) : textR P ops Gr W0 Q (o :: rest) G F :=
  .inr ⟨d, R, hd, hs, fun ρ w hg hd => ⟨hw ρ, hy ρ w hg hd⟩, h⟩

theorem lookup_mem : ∀ (G : List (Tmp × Rel)), (G.map (·.1)).Nodup → ∀ e ∈ G, G.lookup e.1 = some e.2
  | [], _, e, he => by cases he
  | (d, R) :: G, hn, e, he => by
    rw [List.map_cons, List.nodup_cons] at hn
    rcases List.mem_cons.1 he with rfl | he
    · simp
    · have hne : ¬ e.1 = d := fun h => hn.1 (List.mem_map.2 ⟨e, he, h⟩)
      rw [lookup_ne hne]
      exact lookup_mem G hn.2 e he
theorem mem_lookup : ∀ (G : List (Tmp × Rel)) (d : Tmp) (R : Rel), G.lookup d = some R → (d, R) ∈ G
  | [], d, R, h => by simp at h
  | (d', R') :: G, d, R, h => by
    by_cases hne : d = d'
    · subst hne
      simp at h
      subst h
      exact List.mem_cons_self
    · rw [lookup_ne hne] at h
      exact List.mem_cons_of_mem _ (mem_lookup G d R h)
/-- what the walk of the text gives -/
theorem textR_get (dd : ∀ (i j : Nat) (oi oj : Oper) (d : Tmp), ops[i]? = some oi → ops[j]? = some oj → oi.dst = some d → oj.dst = some d → i = j) {Q : List (Tmp × Rel) → ((Tmp → Value) → Act) → Prop} :
    ∀ (l : List Oper) (k : Nat) (G : List (Tmp × Rel)) (F0 : (Tmp → Value) → Act), (∀ j : Nat, l[j]? = ops[k + j]?) → k + l.length = ops.size → (G.map (·.1)).Nodup → (∀ e ∈ G, ∃ (j : Nat) (oj : Oper), j < k ∧ ops[j]? = some oj ∧ oj.dst = some e.1) → textR P ops Gr W0 Q l G F0 →
    ∃ (RR : Tmp → Option Rel) (vals : Nat → Value) (F : Nat → (Tmp → Value) → Act) (Gf : List (Tmp × Rel)), F k = F0 ∧
      (∀ (i : Nat) (o : Oper), k ≤ i → ops[i]? = some o → o.dst.bind RR = none → F (i + 1) = (fun ρ => (F i ρ).put o.dst (vals i)) ∧ ∀ ρ w, Gr W0 w →
        (∀ (j : Nat) (oj : Oper) (d : Tmp) (R : Rel), j < i → ops[j]? = some oj → oj.dst = some d → d ∈ o.looksAt ops → RR d = some R → R (ρ d) w) →
        (Region.wanted o (yielded ops (F i ρ).tmps) = true ∧ comesToR P (fun u w' => u = vals i ∧ Gr w w') ((execOp (F i ρ).eval o).run P w)) ∨ (Region.wanted o (yielded ops (F i ρ).tmps) = false ∧ vals i = undef)) ∧
      (∀ (i : Nat) (o : Oper) (d : Tmp) (R : Rel), k ≤ i → ops[i]? = some o → o.dst = some d → RR d = some R → F (i + 1) = (fun ρ => (F i ρ).put (some d) (ρ d)) ∧ (∀ v w w', Gr w w' → R v w → R v w') ∧ ∀ ρ w, Gr W0 w →
        (∀ (j : Nat) (oj : Oper) (d : Tmp) (R : Rel), j < i → ops[j]? = some oj → oj.dst = some d → d ∈ o.looksAt ops → RR d = some R → R (ρ d) w) →
        Region.wanted o (yielded ops (F i ρ).tmps) = true ∧ comesToR P (fun u w' => R u w' ∧ Gr w w') ((execOp (F i ρ).eval o).run P w)) ∧
      (∀ e ∈ Gf, RR e.1 = some e.2 ∧ (e ∈ G ∨ ∃ (j : Nat) (oj : Oper), k ≤ j ∧ ops[j]? = some oj ∧ oj.dst = some e.1)) ∧ (∀ e ∈ G, e ∈ Gf) ∧ (∀ d R, RR d = some R → (d, R) ∈ Gf) ∧ Q Gf (F ops.size)
  | [], k, G, F0, hl, hk, hn, hG, h => by
    have hk' : k = ops.size := by simpa using hk
    refine ⟨fun d => G.lookup d, fun _ => undef, fun _ => F0, G, rfl, fun i o hi ho _ => ?_, fun i o d R hi ho _ _ => ?_, fun e he => ⟨lookup_mem G hn e he, .inl he⟩, fun e he => he, fun d R hR => mem_lookup G d R hR, h⟩
    · have := (Array.getElem?_eq_some_iff.1 ho).1; omega
    · have := (Array.getElem?_eq_some_iff.1 ho).1; omega
  | o :: rest, k, G, F0, hl, hk, hn, hG, h => by
    have ho : ops[k]? = some o := by simpa using (hl 0).symm
    have hl' : ∀ j : Nat, rest[j]? = ops[k + 1 + j]? := fun j => by have := hl (j + 1); simpa [Nat.add_assoc, Nat.add_comm 1 j] using this
    have hk' : k + 1 + rest.length = ops.size := by simp only [List.length_cons] at hk; omega
    have hkey : ∀ d, o.dst = some d → ∀ e ∈ G, e.1 ≠ d := fun d hd e he hed => by
      obtain ⟨j, oj, hj, hoj, hdj⟩ := hG e he
      have := dd j k oj o d hoj ho (by rw [hdj, hed]) hd
      omega
    have hdeps : ∀ {RR : Tmp → Option Rel} {Gf : List (Tmp × Rel)}, (∀ e ∈ G, e ∈ Gf) → (∀ e ∈ Gf, RR e.1 = some e.2) → ∀ (ρ : Tmp → Value) (w : World),
        (∀ (j : Nat) (oj : Oper) (d : Tmp) (R : Rel), j < k → ops[j]? = some oj → oj.dst = some d → d ∈ o.looksAt ops → RR d = some R → R (ρ d) w) → deps ops G o ρ w := fun h1 h2 ρ w h3 e he hlk => by
      obtain ⟨j, oj, hj, hoj, hdj⟩ := hG e he
      exact h3 j oj e.1 e.2 hj hoj hdj hlk (h2 e (h1 e he))
    rcases h with ⟨v, hy, h⟩ | ⟨d, R, hd, hs, hy, h⟩
    · obtain ⟨RR, vals, F, Gf, hF, h1, h2, h3, h4, h5, h6⟩ := textR_get dd rest (k + 1) G _ hl' hk' hn (fun e he => by obtain ⟨j, oj, hj, hr⟩ := hG e he; exact ⟨j, oj, by omega, hr⟩) h
      have hout : ∀ d R, o.dst = some d → RR d = some R → False := fun d R hd hR => by
        rcases (h3 _ (h5 d R hR)).2 with he | ⟨j, oj, hj, hoj, hdj⟩
        · exact hkey d hd _ he rfl
        · have := dd j k oj o d hoj ho hdj hd
          omega
      refine ⟨RR, fun i => if i = k then v else vals i, fun i => if i = k then F0 else F i, Gf, by simp, fun i oi hi hoi hb => ?_, fun i oi d R hi hoi hd hR => ?_, fun e he => ⟨(h3 e he).1, ?_⟩, h4, h5, ?_⟩
      · by_cases hik : i = k
        · subst hik
          obtain rfl : o = oi := Option.some.inj (ho.symm.trans hoi)
          simp only [if_true, show i + 1 ≠ i by omega, if_false, hF]
          exact ⟨(by first | trivial | rfl), fun ρ w hg hp => hy ρ w hg (hdeps h4 (fun e he => (h3 e he).1) ρ w hp)⟩
        · have := h1 i oi (by omega) hoi hb
          simpa only [hik, if_false, show i + 1 ≠ k by omega] using this
      · by_cases hik : i = k
        · subst hik
          obtain rfl : o = oi := Option.some.inj (ho.symm.trans hoi)
          exact (hout d R hd hR).elim
        · have := h2 i oi d R (by omega) hoi hd hR
          simpa only [hik, if_false, show i + 1 ≠ k by omega] using this
      · rcases (h3 e he).2 with h | ⟨j, oj, hj, hr⟩
        · exact .inl h
        · exact .inr ⟨j, oj, by omega, hr⟩
      · have : ops.size ≠ k := by have := (Array.getElem?_eq_some_iff.1 ho).1; omega
        simpa only [this, if_false] using h6
    · obtain ⟨RR, vals, F, Gf, hF, h1, h2, h3, h4, h5, h6⟩ := textR_get dd rest (k + 1) ((d, R) :: G) _ hl' hk' (by
          rw [List.map_cons, List.nodup_cons]
          exact ⟨fun hm => by obtain ⟨e, he, hed⟩ := List.mem_map.1 hm; exact hkey d hd e he hed, hn⟩) (fun e he => by
          rcases List.mem_cons.1 he with rfl | he
          · exact ⟨k, o, by omega, ho, hd⟩
          · obtain ⟨j, oj, hj, hr⟩ := hG e he; exact ⟨j, oj, by omega, hr⟩) h
      have hRd : RR d = some R := (h3 _ (h4 _ List.mem_cons_self)).1
      refine ⟨RR, vals, fun i => if i = k then F0 else F i, Gf, by simp, fun i oi hi hoi hb => ?_, fun i oi d' R' hi hoi hd' hR' => ?_, fun e he => ⟨(h3 e he).1, ?_⟩, fun e he => h4 e (List.mem_cons_of_mem _ he), h5, ?_⟩
      · by_cases hik : i = k
        · subst hik
          obtain rfl : o = oi := Option.some.inj (ho.symm.trans hoi)
          rw [hd] at hb
          simp only [Option.bind_some, hRd] at hb
          cases hb
        · have := h1 i oi (by omega) hoi hb
          simpa only [hik, if_false, show i + 1 ≠ k by omega] using this
      · by_cases hik : i = k
        · subst hik
          obtain rfl : o = oi := Option.some.inj (ho.symm.trans hoi)
          obtain rfl : d = d' := Option.some.inj (hd.symm.trans hd')
          obtain rfl : R = R' := Option.some.inj (hRd.symm.trans hR')
          simp only [if_true, show i + 1 ≠ i by omega, if_false, hF]
          exact ⟨(by first | trivial | rfl), hs, fun ρ w hg hp => hy ρ w hg (hdeps (fun e he => h4 e (List.mem_cons_of_mem _ he)) (fun e he => (h3 e he).1) ρ w hp)⟩
        · have := h2 i oi d' R' (by omega) hoi hd' hR'
          simpa only [hik, if_false, show i + 1 ≠ k by omega] using this
      · rcases (h3 e he).2 with h | ⟨j, oj, hj, hr⟩
        · rcases List.mem_cons.1 h with rfl | h
          · exact .inr ⟨k, o, by omega, ho, hd⟩
          · exact .inl h
        · exact .inr ⟨j, oj, by omega, hr⟩
      · have : ops.size ≠ k := by have := (Array.getElem?_eq_some_iff.1 ho).1; omega
        simpa only [this, if_false] using h6
/-- what is known in the end -/
def ends (Gr : World → World → Prop) (W0 : World) (Q : Exit → Act → World → Prop) (G : List (Tmp × Rel)) (F : (Tmp → Value) → Act) : Prop :=
  ∀ ρ w, Gr W0 w → (∀ e ∈ G, e.2 (ρ e.1) w) → Q .normal (F ρ) w
/-- A REGION TOLD BY RELATIONS. -/
theorem wp_region_rel {id : Nat} {Q : Exit → Act → World → Prop} {a : Act} {w : World} {l : List Oper} (Gr : World → World → Prop) (W0 : World) (gt : ∀ a b c, Gr a b → Gr b c → Gr a c) (gr : ∀ a, Gr a a) (hm : P.follows .mixedOrders = true) (hB : relB .any l.toArray = true)
    (h0 : Gr W0 w.drew) (h : textR P l.toArray Gr W0 (ends Gr W0 Q) l [] (fun _ => a)) : (Code.region id l.toArray true).wp P Q a w := by
  have ok := relB_spec hB
  obtain ⟨RR, vals, F, Gf, hF, h1, h2, h3, _, h5, h6⟩ := textR_get (ops := l.toArray) ok.dd l 0 [] (fun _ => a) (fun j => by simp) (by simp) List.nodup_nil (fun e he => by cases he) h
  have K : Known P l.toArray Gr W0 RR vals F := ⟨fun ρ ρ' => by rw [hF], fun i o hi hb => h1 i o (Nat.zero_le _) hi hb, fun i o d R hi hd hR => h2 i o d R (Nat.zero_le _) hi hd hR⟩
  refine wp_region_any hm ?_
  have ha : F 0 (fun _ => undef) = a := by rw [hF]
  rw [← ha]
  refine wpAny_of_inv gt gr ok K (fun ρ listed a' w' inv hall => ?_) l.toArray.size (fun _ => undef) _ _ _ ?_ ⟨by simp, fun j oj _ hl => (by rw [getD_replicate_false] at hl; cases hl), ?_, h0, fun i o d R _ _ _ hl => (by rw [getD_replicate_false] at hl; cases hl)⟩
  · have hfin : a' = F l.toArray.size ρ := by
      refine inv.agr.unique (K.agr ok ρ l.toArray.size (Nat.le_refl _)) fun i o d hi hd => ⟨⟨fun _ => (Array.getElem?_eq_some_iff.1 hi).1, fun _ => hall i (Array.getElem?_eq_some_iff.1 hi).1⟩, fun _ => rfl⟩
    rw [hfin]
    refine h6 ρ w' inv.on fun e he => ?_
    obtain ⟨hR, hsrc⟩ := h3 e he
    rcases hsrc with h | ⟨j, oj, _, hj, hd⟩
    · cases h
    · exact inv.known j oj e.1 e.2 hj hd hR (hall j (Array.getElem?_eq_some_iff.1 hj).1)
  · unfold leftN
    have := List.countP_le_length (p := fun i => !(Array.replicate l.toArray.size false).getD i true) (l := List.range l.toArray.size)
    simpa using this
  · exact (Agr.refl (valR l.toArray RR vals fun _ => undef) _).congr (fun i o d _ _ => ⟨fun h => h.elim, fun h => by rw [getD_replicate_false] at h; cases h⟩) (fun _ _ _ _ _ h => h.elim)
end
end Rl
end Go.Proofs.YtgeldpfojmkdbaaDoor
namespace Go.Proofs.YtgeldpfojmkdbaaDoor
set_option linter.unusedVariables false
open Go.ChangeShapes Go.WideShapes Go.ChangeAt Go.RowKit
attribute [local go_sem ↓] Go.wp_at_zero Go.wp_at_succ comesTo_value_eq comesTo_skip_eq comesTo_enter_eq Rl.comesToR_value_eq Rl.comesToR_skip_eq Rl.comesToR_enter_eq

theorem rtime_any (t : Int) (w : World) : Calls Tryd.prog 47 #[.int .i64 t] w fun e w' => e = .returned (.bool (timeB t)) ∧ w = w' := by
  have E := Lib.hid (show timeB t = (t == clampI t) from rfl)
  go_enter Tryd.func47, Tryd.ntmps47
  go_wp2_with (go_at_call 59; refine (rclamp_any _ _).mono ?_; rintro e w' ⟨rfl, rfl⟩)
  go_ret
  exact ⟨by rw [E.out]; rfl, rfl⟩
theorem rlen15 (s : NSet) (w : World) : Calls Tryd.prog 48 #[.int .u64 (nv s)] w fun e w' => e = .returned (.int .i64 (card s)) ∧ Below w.heap.size w w' := by
  have KO := Lib.hid (rof_any s w)
  have HN := Lib.hid (nodes_length _ s rfl)
  go_enter Tryd.func48, Tryd.ntmps48
  go_wp2_with fail
  refine KO.out.mono ?_
  rintro e w1 ⟨u, rfl, hO, hb⟩
  obtain ⟨av, cv, rfl⟩ := hO.form
  rw [HN.out]
  go_wp2
  go_ret
  exact ⟨rfl, hb⟩
theorem hasI_none (n : Int) : hasI 0#64 n = false := by
  rw [Bool.eq_false_iff]
  intro h
  have := ((hasI_iff 0#64 n).1 h).2
  simp at this
theorem meets_plain (a b : NSet) : (∃ x ∈ nodes a, x ∈ nodes b) ↔ (nv (a &&& b) == 0) = false := by
  rw [nv_is0, decide_eq_false_iff_not]
  constructor
  · rintro ⟨x, hx, hy⟩ h
    have h1 := (nodes_mem _ a rfl x).1 hx
    have h2 := (nodes_mem _ b rfl x).1 hy
    have := hasI_and a b x
    rw [h1, h2, h, hasI_none] at this
    exact absurd this (by decide)
  · intro h
    have := hasI_low h
    rw [hasI_and, Bool.and_eq_true] at this
    exact ⟨_, (nodes_mem _ a rfl _).2 this.1, (nodes_mem _ b rfl _).2 this.2⟩
set_option maxRecDepth 100000 in
set_option maxHeartbeats 4000000 in
theorem rmeets_any (a b : NSet) (w : World) : Calls Tryd.prog 49 #[.int .u64 (nv a), .int .u64 (nv b)] w fun e w' => e = .returned (.bool (!(nv (a &&& b) == 0))) ∧ Below w.heap.size w w' := by
  have KA := Lib.hid (rof_any a)
  have KB := Lib.hid (rof_any b)
  have hL64 : (nodes a).length ≤ 64 := by rw [nodes_length _ a rfl]; exact card_le a
  have HM := Lib.hid (meets_plain a b)
  generalize (nv (a &&& b) == 0) = M at *
  go_enter Tryd.func49, Tryd.ntmps49
  go_wp2_with fail
  refine (KA.out _).mono ?_
  rintro e w1 ⟨u, rfl, hO, hb⟩
  obtain ⟨av, cv, rfl⟩ := hO.form
  have HO1 := Lib.hid hO
  have HB1 := Lib.hid hb
  clear hO hb
  go_wp2_with fail
  refine (KB.out _).mono ?_
  rintro e w2 ⟨v, rfl, hO, hb⟩
  have RA := Lib.hid (HO1.out.ints.below hb)
  have RB := Lib.hid hO.ints
  have HB2 := Lib.hid (below_next HB1.out hb)
  clear hO hb KA KB HO1 HB1
  generalize nodes a = l at *
  generalize nodes b = m at *
  go_wp2_with fail
  go_loop [7] (fun i => ∃ k : Nat, k ≤ l.length ∧ i = .int .i64 k ∧ ∀ x ∈ l.take k, x ∉ m) (fun i => l.length - (intOf i).toNat)
  case atStart => exact ⟨0, Nat.zero_le _, rfl, by simp⟩
  case round =>
    obtain ⟨k, hk, rfl, hno⟩ := hrel
    by_cases hlt : k < l.length
    · obtain ⟨g, o, rfl, hcell⟩ : ∃ g o, av = some ⟨g, o, none⟩ ∧ w2.cell? ⟨g, o + k, none⟩ = some (.int .i64 (l.getD k 0)) := by
        rcases RA.out with ⟨h0, _⟩ | ⟨_, _, g, o, c, hv, _, hc⟩
        · rw [h0] at hlt; exact absurd hlt (by simp)
        · injection hv with h1 _ _
          exact ⟨g, o, h1, hc k hlt⟩
      have hx : l.getD k 0 = l[k] := by simp [List.getD, List.getElem?_eq_getElem hlt]
      have KH := Lib.hid (rhas_any (l.getD k 0) w2 RB.out)
      by_cases hn : l.getD k 0 ∈ m
      · rw [decide_eq_true hn] at KH
        obtain rfl : M = false := HM.out.1 ⟨_, by rw [hx]; exact List.getElem_mem hlt, hn⟩
        clear hn hx hno
        generalize l.getD k 0 = x at *
        go_wp2_with (go_at_call 61; refine KH.out.mono ?_; rintro e w' ⟨rfl, rfl⟩)
        go_ret
        exact ⟨rfl, HB2.out⟩
      · rw [decide_eq_false hn] at KH
        have HN := Lib.hid (show ∀ x ∈ l.take (k + 1), x ∉ m by
          intro x hxm
          rw [List.take_succ_eq_append_getElem hlt, List.mem_append, List.mem_singleton] at hxm
          rcases hxm with h | h
          · exact hno x h
          · rw [h, ← hx]; exact hn)
        clear hn hx hno
        generalize l.getD k 0 = x at *
        go_wp2_with (go_at_call 61; refine KH.out.mono ?_; rintro e w' ⟨rfl, rfl⟩)
        go_round
        case rel => exact ⟨k + 1, by omega, by go_num, HN.out⟩
        case measure => simp [intOf]; omega
    · obtain rfl : k = l.length := by omega
      obtain rfl : M = true := by
        cases hM : M with
        | true => rfl
        | false =>
          obtain ⟨x, hx, hy⟩ := HM.out.2 hM
          exact absurd hy (hno x (by rw [List.take_length]; exact hx))
      clear hno
      go_wp2
      go_ret
      exact ⟨rfl, HB2.out⟩
end Go.Proofs.YtgeldpfojmkdbaaDoor
