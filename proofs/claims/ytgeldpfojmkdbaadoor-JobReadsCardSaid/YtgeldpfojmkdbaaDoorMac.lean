/- Laws that belong together: Contracts of sets of nodes (layer 7, bits): And, Or, Less, one, With, Without, Has, Len, First. No condition but that arguments fit their kinds.; A job, plainly (layer 15): what may be, what may begin, stop and be lost. No condition.; Any (bits): the sets of a row together. No condition.; Plain facts on two sets together. No condition.; Two jobs held against each other (layer 15). No condition.; What comes of a right job is right (layer 15), plainly. No condition.; bits.Of: the set of the nodes of a row. No condition. -/
import Derived.Test.YtgeldpfojmkdbaaDoorMaa
import Derived.Test.YtgeldpfojmkdbaaDoorTxt
import Derived.Test.YtgeldpfojmkdbaaDoorMab
import Derived.OpenShut
import Derived.Outline
import Derived.WalkLawsBesides
import Derived.RegionTactic
import Derived.BigRegion
import Derived.BigQuiet
import Derived.Deep.QuietTactic
import Derived.Deep.RegionHeld3
import Derived.Deep.DrawnRows
import Derived.Deep.DeepCutAuto
import Derived.Lib.Hide
import Derived.IntWalk
import Derived.LoopTactic
import Derived.Laws.BitsAllLaws
import Derived.Laws.Bits64
import Derived.Laws.Bits128
import Derived.Test.YtgeldpfojmkdbaaDoorTick
namespace Go.Proofs.YtgeldpfojmkdbaaDoor
set_option linter.unusedVariables false
open Go.ChangeShapes Go.WideShapes Go.ChangeAt Go.RowKit
attribute [local go_sem ↓] Go.wp_at_zero Go.wp_at_succ comesTo_value_eq comesTo_skip_eq comesTo_enter_eq

theorem ret_int' {k : IntKind} {a b : Int} (h : a = b) : Ending.returned (.int k a) = .returned (.int k b) := by rw [h]
theorem ret_bool' {a b : Bool} (h : a = b) : Ending.returned (.bool a) = .returned (.bool b) := by rw [h]
/-- a set as a number -/
def nv (s : NSet) : Int := (s.toNat : Int)
theorem nv_lo (s : NSet) : 0 ≤ nv s := by unfold nv; omega
theorem nv_hi (s : NSet) : nv s ≤ 18446744073709551615 := by unfold nv; have := s.isLt; omega
theorem nv_inj {a b : NSet} (h : nv a = nv b) : a = b := by unfold nv at h; exact BitVec.eq_of_toNat_eq (by omega)
theorem nv_zero : nv 0#64 = 0 := rfl
theorem nv_of (n : Int) (h0 : 0 ≤ n) (h1 : n ≤ 18446744073709551615) : ∃ s : NSet, nv s = n := ⟨BitVec.ofNat 64 n.toNat, by unfold nv; rw [BitVec.toNat_ofNat, Nat.mod_eq_of_lt (by omega)]; omega⟩
theorem nv_eq (a b : NSet) : (nv a == nv b) = decide (a = b) := by
  by_cases h : a = b
  · subst h; simp
  · have : ¬ nv a = nv b := fun e => h (nv_inj e)
    simp [h, this]
theorem nv_is0 (a : NSet) : (nv a == 0) = decide (a = 0#64) := by rw [← nv_zero]; exact nv_eq a 0#64
theorem bit_and (a b : NSet) : bits .and .u64 (nv a) (nv b) = nv (a &&& b) := by
  unfold nv; rw [u64_and_nat _ _ a.isLt b.isLt, BitVec.toNat_and]
theorem bit_or (a b : NSet) : bits .or .u64 (nv a) (nv b) = nv (a ||| b) := by
  unfold nv; rw [u64_or_nat _ _ a.isLt b.isLt, BitVec.toNat_or]
theorem bit_less (a b : NSet) : bits .andNot .u64 (nv a) (nv b) = nv (a &&& ~~~b) := by
  unfold nv; rw [u64_andNot_nat _ _ a.isLt b.isLt, BitVec.toNat_and, BitVec.toNat_not]

theorem and_any (a b : NSet) (w : World) : Calls Tryd.prog 16 #[.int .u64 (nv a), .int .u64 (nv b)] w fun e w' => e = .returned (.int .u64 (nv (a &&& b))) ∧ w = w' := by
  have k := bit_and a b
  go_enter Tryd.func16, Tryd.ntmps16
  go_wp2
  go_ret
  exact ⟨rfl, rfl⟩
theorem one_val (n : Int) (h0 : 0 ≤ n) : IntKind.u64.wrap (2 ^ n.toNat) = nv (oneI n) := by
  unfold oneI nv
  rw [if_neg (by omega), BitVec.toNat_twoPow, IntKind.wrap_u64]
  rw [Int.natCast_emod, Int.natCast_pow]
  rfl
theorem one_node (n : Int) (w : World) : Calls Tryd.prog 54 #[.int .i64 n] w fun e w' => e = .returned (.int .u64 (nv (oneI n))) ∧ w = w' := by
  by_cases h0 : n < 0
  · have e : oneI n = 0#64 := by unfold oneI; rw [if_pos h0]
    rw [e, nv_zero]
    go_enter Tryd.func54, Tryd.ntmps54
    go_wp2
    go_ret
    exact ⟨rfl, rfl⟩
  · by_cases h6 : 64 ≤ n
    · have e : oneI n = 0#64 := by
        apply BitVec.eq_of_getLsbD_eq
        intro i hi
        rw [oneI_get, BitVec.getLsbD_zero]
        have : ¬ n = (i : Int) := by omega
        simp only [this, decide_false, Bool.and_false]
      rw [e, nv_zero]
      go_enter Tryd.func54, Tryd.ntmps54
      go_wp2
      go_ret
      exact ⟨rfl, rfl⟩
    · have h0' : 0 ≤ n := by omega
      have h6' : n < 64 := by omega
      clear h0 h6
      go_enter Tryd.func54, Tryd.ntmps54
      go_wp2
      go_ret
      exact ⟨ret_int' (one_val n h0'), rfl⟩
theorem pop_walk (x a1 a2 b a3 a4 c d e f g r : Int) (h1 : bits .and .u64 (x / 2) 6148914691236517205 = a1) (h2 : bits .and .u64 x 6148914691236517205 = a2) (h3 : IntKind.u64.wrap (a1 + a2) = b)
    (h4 : bits .and .u64 (b / 4) 3689348814741910323 = a3) (h5 : bits .and .u64 b 3689348814741910323 = a4) (h6 : IntKind.u64.wrap (a3 + a4) = c) (h7 : bits .and .u64 (IntKind.u64.wrap (c / 16 + c)) 1085102592571150095 = d)
    (h8 : IntKind.u64.wrap (d + d / 256) = e) (h9 : IntKind.u64.wrap (e + e / 65536) = f) (h10 : IntKind.u64.wrap (f + f / 4294967296) = g) (h11 : bits .and .i64 (wrap64 g) 127 = r) (w : World) :
    Calls Tryd.prog 40 #[.int .u64 x] w fun e w' => e = .returned (.int .i64 r) ∧ w = w' := by
  go_enter Tryd.func40, Tryd.ntmps40
  go_wp2
  go_ret
  exact ⟨rfl, rfl⟩
theorem wrap_u64_in (n : Nat) (h : n < 18446744073709551616) : IntKind.u64.wrap (n : Int) = (n : Int) := by rw [IntKind.wrap_u64]; omega
theorem pop_any (s : NSet) (w : World) : Calls Tryd.prog 40 #[.int .u64 (nv s)] w fun e w' => e = .returned (.int .i64 (card s)) ∧ w = w' := by
  have hX := s.isLt
  rw [card_cnt]
  unfold nv
  generalize s.toNat = X at *
  obtain ⟨q0, q1, q2, q3, q4⟩ := pop_eq X hX
  rw [← q0]
  unfold pop
  have m1 : y1 X = (X / 2 &&& 6148914691236517205) + (X &&& 6148914691236517205) := rfl
  have m2 : y2 (y1 X) = (y1 X / 4 &&& 3689348814741910323) + (y1 X &&& 3689348814741910323) := rfl
  have m3 : y3 (y2 (y1 X)) = (y2 (y1 X) / 16 + y2 (y1 X)) &&& 1085102592571150095 := rfl
  generalize y3 (y2 (y1 X)) = D at *
  generalize y2 (y1 X) = C at *
  generalize y1 X = B at *
  refine pop_walk (X : Int) ((X / 2 &&& 6148914691236517205 : Nat) : Int) ((X &&& 6148914691236517205 : Nat) : Int) (B : Int) ((B / 4 &&& 3689348814741910323 : Nat) : Int) ((B &&& 3689348814741910323 : Nat) : Int) (C : Int) (D : Int) ((add8 D : Nat) : Int) ((add16 (add8 D) : Nat) : Int) ((add32 (add16 (add8 D)) : Nat) : Int) _ ?_ ?_ ?_ ?_ ?_ ?_ ?_ ?_ ?_ ?_ ?_ w
  · exact u64_and_nat (X / 2) 6148914691236517205 (by omega) (by decide)
  · exact u64_and_nat X 6148914691236517205 hX (by decide)
  · rw [← Int.natCast_add, ← m1]; exact wrap_u64_in B q1
  · exact u64_and_nat (B / 4) 3689348814741910323 (by omega) (by decide)
  · exact u64_and_nat B 3689348814741910323 q1 (by decide)
  · rw [← Int.natCast_add, ← m2]; exact wrap_u64_in C q2
  · rw [show ((C : Int) / 16 + (C : Int)) = ((C / 16 + C : Nat) : Int) by omega, wrap_u64_in _ q3, m3]; exact u64_and_nat (C / 16 + C) 1085102592571150095 q3 (by decide)
  · rw [show ((D : Int) + (D : Int) / 256) = ((add8 D : Nat) : Int) by unfold add8; omega]; exact wrap_u64_in _ (by unfold add8; omega)
  · have h8 : add8 D ≤ 600000000000000000 := by unfold add8; omega
    generalize add8 D = E at *
    rw [show ((E : Int) + (E : Int) / 65536) = ((add16 E : Nat) : Int) by unfold add16; omega]; exact wrap_u64_in _ (by unfold add16; omega)
  · have h8 : add8 D ≤ 600000000000000000 := by unfold add8; omega
    generalize add8 D = E at *
    have h9 : add16 E ≤ 700000000000000000 := by unfold add16; omega
    generalize add16 E = F at *
    rw [show ((F : Int) + (F : Int) / 4294967296) = ((add32 F : Nat) : Int) by unfold add32; omega]; exact wrap_u64_in _ (by unfold add32; omega)
  · have h8 : add8 D ≤ 600000000000000000 := by unfold add8; omega
    generalize add8 D = E at *
    have h9 : add16 E ≤ 700000000000000000 := by unfold add16; omega
    generalize add16 E = F at *
    have h10 : add32 F ≤ 800000000000000000 := by unfold add32; omega
    generalize add32 F = G at *
    rw [IntWalk.wrap64_in (G : Int) (by omega), i64_and127]
    omega
theorem len_any (s : NSet) (w : World) : Calls Tryd.prog 15 #[.int .u64 (nv s)] w fun e w' => e = .returned (.int .i64 (card s)) ∧ w = w' := by
  go_enter Tryd.func15, Tryd.ntmps15
  go_wp2_with (go_at_call 40; refine (pop_any _ _).mono ?_; rintro e w' ⟨rfl, rfl⟩)
  go_ret
  exact ⟨rfl, rfl⟩
theorem with_any (s : NSet) (n : Int) (w : World) : Calls Tryd.prog 39 #[.int .u64 (nv s), .int .i64 n] w fun e w' => e = .returned (.int .u64 (nv (s ||| oneI n))) ∧ w = w' := by
  have k := bit_or s (oneI n)
  go_enter Tryd.func39, Tryd.ntmps39
  go_wp2_with (go_at_call 54; refine (one_node _ _).mono ?_; rintro e w' ⟨rfl, rfl⟩)
  go_ret
  exact ⟨rfl, rfl⟩
theorem has_eq (s : NSet) (n : Int) : (!(nv (s &&& oneI n) == 0)) = hasI s n := by
  rw [nv_is0]
  cases h : hasI s n with
  | false => rw [(and_one s n).2 h]; rfl
  | true =>
    have : ¬ s &&& oneI n = 0#64 := fun e => by rw [and_one, h] at e; cases e
    simp only [this, decide_false, Bool.not_false]
theorem has_any (s : NSet) (n : Int) (w : World) : Calls Tryd.prog 38 #[.int .u64 (nv s), .int .i64 n] w fun e w' => e = .returned (.bool (hasI s n)) ∧ w = w' := by
  have k := bit_and s (oneI n)
  have H := Lib.hid (has_eq s n)
  generalize hasI s n = R at *
  go_enter Tryd.func38, Tryd.ntmps38
  go_wp2_with (go_at_call 54; refine (one_node _ _).mono ?_; rintro e w' ⟨rfl, rfl⟩)
  go_ret
  exact ⟨ret_bool' H.out, rfl⟩
theorem first_val (n : Int) (h1 : 1 ≤ n) (h6 : n ≤ 64) : (18446744073709551615 : Int) / 2 ^ (64 - n).toNat = nv (firstI n) := by
  unfold nv
  have e := all_shr n.toNat (by omega)
  rw [firstI_toNat, Nat.min_eq_left (by omega), ← e, show (64 - n).toNat = 64 - n.toNat by omega, Int.natCast_ediv, Int.natCast_pow]
  rfl
end Go.Proofs.YtgeldpfojmkdbaaDoor
namespace Go.Proofs.YtgeldpfojmkdbaaDoor
set_option linter.unusedVariables false
open Go.ChangeShapes Go.WideShapes Go.ChangeAt Go.RowKit

structure JobV where
  id : Int
  user : Int
  part : Int
  width : Int
  limit : Int
  nice : Int
  after : Int
  hold : Bool
  state : Int
  sent : Int
  plan : Int
  promise : Int
  tries : Int
  black : NSet
  nodes : NSet
  start : Int
  fin : Int
def holdN (b : Bool) : Int := if b then 1 else 0
def JobV.ints (j : JobV) : List Int := [j.id, j.user, j.part, j.width, j.limit, j.nice, j.after, j.state, j.sent, j.plan, j.promise, j.tries, j.start, j.fin]
structure JobV.Ok (j : JobV) : Prop where
  inb : ∀ x ∈ j.ints, -9223372036854775808 ≤ x ∧ x ≤ 9223372036854775807
def jobC (j : JobV) : List Value := [.int .i64 j.id, .int .i64 j.user, .int .i64 j.part, .int .i64 j.width, .int .i64 j.limit, .int .i64 j.nice, .int .i64 j.after, .bool j.hold, .int .i64 j.state, .int .i64 j.sent, .int .i64 j.plan, .int .i64 j.promise, .int .i64 j.tries, .int .u64 (nv j.black), .int .u64 (nv j.nodes), .int .i64 j.start, .int .i64 j.fin]
theorem jobC_len (j : JobV) : (jobC j).length = 17 := rfl
theorem jobC_one (j : JobV) : (jobC j).all (·.oneCell') = true := rfl
def job0 : JobV := ⟨0, 0, 0, 0, 0, 0, 0, false, 0, 0, 0, 0, 0, 0#64, 0#64, 0, 0⟩
theorem job0_ok : job0.Ok := ⟨by decide⟩

def inI (v lo hi : Int) : Bool := decide (lo ≤ v) && decide (v ≤ hi)
theorem inI_yes {v lo hi : Int} (h : inI v lo hi = true) : lo ≤ v ∧ v ≤ hi := by
  unfold inI at h
  rwa [Bool.and_eq_true, decide_eq_true_eq, decide_eq_true_eq] at h
theorem inI_no {v lo hi : Int} (h : inI v lo hi = false) : v < lo ∨ hi < v := by
  unfold inI at h
  rw [Bool.and_eq_false_iff, decide_eq_false_iff_not, decide_eq_false_iff_not] at h
  omega
def timeB (t : Int) : Bool := t == clampI t
theorem timeB_yes {t : Int} (h : timeB t = true) : 0 ≤ t ∧ t ≤ 1099511627776 := by
  have h1 : t = clampI t := by simpa [timeB] using h
  have := clampI_bd t
  omega
def fitsB (j : JobV) (n : NSet) : Bool := ((card n : Int) == j.width) && (nv (n &&& j.black) == 0)
def stateB (j : JobV) : Bool :=
  if j.state == 0 then (nv j.nodes == 0) && (j.start == 0) && (j.fin == 0)
  else if j.state == 1 then !j.hold && fitsB j j.nodes && decide (1 ≤ j.tries) && decide (j.start < 1099511627776) && (j.fin == 0)
  else if inI j.state 2 5 then (if j.tries == 0 then (nv j.nodes == 0) && decide (j.start ≤ j.fin) else ((card j.nodes : Int) == j.width) && decide (j.start ≤ j.fin))
  else false
def timesJ (j : JobV) : List Int := [j.sent, j.plan, j.promise, j.start, j.fin]
def numsB (j : JobV) : Bool := inI j.id 1 1073741824 && inI j.user 1 16 && inI j.part 0 3 && inI j.width 1 64
def moreB (j : JobV) : Bool := decide (1 ≤ j.limit) && decide (j.limit ≤ 1048576) && inI j.nice (-100) 100 && inI j.after 0 (j.id - 1) && inI j.tries 0 9
def rightB (j : JobV) : Bool := numsB j && moreB j && (timesJ j).all timeB && stateB j
def overB (j : JobV) : Bool := inI j.state 2 5
def lateB (j : JobV) (now : Int) : Bool := !timeB now || ((j.state == 1) && decide (now < j.start))
def untilJ (j : JobV) : Int := if j.state == 1 then addI j.start j.limit else 0
def beginJ (j : JobV) (now : Int) (n : NSet) : JobV × Int :=
  if !rightB j then (job0, 11)
  else if !(j.state == 0) || j.hold then (job0, 16)
  else if !timeB now || (now == 1099511627776) then (job0, 18)
  else if !fitsB j n then (job0, 2)
  else if j.tries == 9 then (job0, 15)
  else ({ j with state := 1, nodes := n, start := now, tries := j.tries + 1 }, 0)
def endJ (j : JobV) (now how : Int) : JobV :=
  if j.state == 0 then { j with start := now, tries := 0, state := how, fin := now }
  else if j.state == 1 then { j with state := how, fin := now }
  else j
def stopJ (j : JobV) (now how : Int) : JobV × Int :=
  if !rightB j then (job0, 11)
  else if !inI how 2 5 then (job0, 2)
  else if overB j || ((j.state == 0) && ((how == 2) || (how == 5))) then (job0, 16)
  else if lateB j now then (job0, 18)
  else (endJ j now how, 0)
def loseJ (j : JobV) (now node retries : Int) : JobV × Int :=
  if !rightB j then (job0, 11)
  else if !(j.state == 1) then (job0, 16)
  else if !hasI j.nodes node then (job0, 13)
  else if lateB j now then (job0, 18)
  else if decide (retries < j.tries) then (endJ j now 3, 0)
  else ({ j with state := 0, nodes := 0#64, start := 0, fin := 0, plan := 1099511627776, promise := 1099511627776, black := j.black ||| oneI node }, 0)
end Go.Proofs.YtgeldpfojmkdbaaDoor
namespace Go.Proofs.YtgeldpfojmkdbaaDoor
set_option linter.unusedVariables false
open Go.ChangeShapes Go.WideShapes Go.ChangeAt Go.RowKit
attribute [local go_sem ↓] Go.wp_at_zero Go.wp_at_succ

/-- sets together -/
def orS (l : List NSet) : NSet := l.foldl (· ||| ·) 0#64
theorem orS_snoc (l : List NSet) (s : NSet) : orS (l ++ [s]) = orS l ||| s := by unfold orS; rw [List.foldl_append]; rfl
end Go.Proofs.YtgeldpfojmkdbaaDoor
namespace Go.Proofs.YtgeldpfojmkdbaaDoor
set_option linter.unusedVariables false
open Go

theorem hasI_and (a b : NSet) (n : Int) : hasI (a &&& b) n = (hasI a n && hasI b n) := by
  unfold hasI
  rw [BitVec.getLsbD_and]
  cases decide (0 ≤ n) <;> simp
theorem hasI_or (a b : NSet) (n : Int) : hasI (a ||| b) n = (hasI a n || hasI b n) := by
  unfold hasI
  rw [BitVec.getLsbD_or]
  cases decide (0 ≤ n) <;> simp
theorem hasI_less (a b : NSet) (n : Int) : hasI (a &&& ~~~b) n = (hasI a n && !hasI b n) := by
  unfold hasI
  rw [BitVec.getLsbD_and, BitVec.getLsbD_not]
  by_cases h : n.toNat < 64
  · cases decide (0 ≤ n) <;> simp [h]
  · have : a.getLsbD n.toNat = false := BitVec.getLsbD_of_ge _ _ (by omega)
    cases decide (0 ≤ n) <;> simp [h, this]
theorem less_or_and (a b : NSet) : (a &&& ~~~b) ||| (a &&& b) = a := by
  apply BitVec.eq_of_getLsbD_eq
  intro i hi
  rw [BitVec.getLsbD_or, BitVec.getLsbD_and, BitVec.getLsbD_and, BitVec.getLsbD_not]
  simp only [hi, decide_true, Bool.true_and]
  cases a.getLsbD i <;> cases b.getLsbD i <;> rfl
theorem orS_three (a b c : NSet) : orS [a, b, c] = a ||| b ||| c := by
  show 0#64 ||| a ||| b ||| c = _
  rw [BitVec.zero_or]
end Go.Proofs.YtgeldpfojmkdbaaDoor
namespace Go.Proofs.YtgeldpfojmkdbaaDoor
set_option linter.unusedVariables false
open Go.ChangeShapes Go.WideShapes Go.ChangeAt Go.RowKit

/-- a job as seventeen numbers -/
def keyJ (j : JobV) : List Int := [j.id, j.user, j.part, j.width, j.limit, j.nice, j.after, holdN j.hold, j.state, j.sent, j.plan, j.promise, j.tries, nv j.black, nv j.nodes, j.start, j.fin]
theorem holdN_inj {a b : Bool} (h : holdN a = holdN b) : a = b := by cases a <;> cases b <;> first | rfl | (revert h; decide)
theorem keyJ_inj {a b : JobV} (h : keyJ a = keyJ b) : a = b := by
  cases a; cases b
  unfold keyJ at h
  simp only [List.cons.injEq, and_true] at h
  obtain ⟨h0, h1, h2, h3, h4, h5, h6, h7, h8, h9, h10, h11, h12, h13, h14, h15, h16⟩ := h
  subst h0 h1 h2 h3 h4 h5 h6 h8 h9 h10 h11 h12 h15 h16
  rw [holdN_inj h7, nv_inj h13, nv_inj h14]
theorem keyJ_eq (a b : JobV) : (keyJ a == keyJ b) = true ↔ a = b := by
  rw [beq_iff_eq]
  exact ⟨keyJ_inj, fun h => by rw [h]⟩
def kindJ (i : Nat) : IntKind := if i = 13 ∨ i = 14 then .u64 else .i64
theorem jobC_at (j : JobV) {i : Nat} (hi : i < 17) (h7 : i ≠ 7) : (jobC j).toArray[i]? = some (.int (kindJ i) ((keyJ j).getD i 0)) := by
  rcases (show i = 0 ∨ i = 1 ∨ i = 2 ∨ i = 3 ∨ i = 4 ∨ i = 5 ∨ i = 6 ∨ i = 8 ∨ i = 9 ∨ i = 10 ∨ i = 11 ∨ i = 12 ∨ i = 13 ∨ i = 14 ∨ i = 15 ∨ i = 16 by omega) with rfl | rfl | rfl | rfl | rfl | rfl | rfl | rfl | rfl | rfl | rfl | rfl | rfl | rfl | rfl | rfl <;> rfl
theorem jobC_at7 (j : JobV) : (jobC j).toArray[7]? = some (.bool j.hold) := rfl
theorem fieldsJ : (Tryd.prog.fieldsOf 26).toList.map (fun f => (f.name != "_", f.offset)) = (List.range 17).map fun i => (true, i) := by kernel_rfl
theorem ftJ : (Tryd.prog.fieldsOf 26).toList.all (fun f => if f.offset = 7 then (match Tryd.prog.underlying f.type with | some .bool => true | _ => false) else (match Tryd.prog.underlying f.type with | some (.int _) => true | _ => false)) = true := by kernel_rfl
theorem eqinJ (a b : JobV) (w : World) : (Op.equalIn 10000 26 (.agg (jobC a).toArray) (.agg (jobC b).toArray)).run Tryd.prog w = .ok (keyJ a == keyJ b) w := by
  have hS : Tryd.prog.underlying 26 = some (.struct (Tryd.prog.fieldsOf 26)) := by kernel_rfl
  have hp : Tryd.prog.stoodInHeld 26 = false := by kernel_rfl
  refine (run_equalIn_struct w 9999 _ _ _ hS hp).trans ?_
  have hall : (Tryd.prog.fieldsOf 26).toList.all (fun f => (keyJ a).getD f.offset 0 == (keyJ b).getD f.offset 0) = (keyJ a == keyJ b) := by
    rw [← all_range_ints (keyJ a) (keyJ b) rfl, show (keyJ a).length = 17 from rfl]
    have h1 : (Tryd.prog.fieldsOf 26).toList.map (fun f => f.offset) = List.range 17 := by
      have := congrArg (List.map Prod.snd) fieldsJ
      rw [List.map_map, List.map_map] at this
      exact this.trans rfl
    rw [← h1, List.all_map]
    rfl
  rw [run_eqFields_all w (fun f => (keyJ a).getD f.offset 0 == (keyJ b).getD f.offset 0), hall]
  · intro f hf
    have hm : (f.name != "_", f.offset) ∈ (List.range 17).map fun i => (true, i) := by
      rw [← fieldsJ]; exact List.mem_map.2 ⟨f, hf, rfl⟩
    obtain ⟨i, hi, he⟩ := List.mem_map.1 hm
    rw [List.mem_range] at hi
    injection he with he1 he2
    refine ⟨by simpa using he1.symm, ?_⟩
    have ht := List.all_eq_true.1 ftJ f hf
    by_cases h7 : f.offset = 7
    · rw [if_pos h7] at ht
      have hu : Tryd.prog.underlying f.type = some .bool := by
        revert ht
        cases Tryd.prog.underlying f.type with
        | none => intro h; cases h
        | some d => cases d <;> intro h <;> first | rfl | cases h
      refine ⟨.bool a.hold, .bool b.hold, ?_, ?_, ?_⟩
      · have := jobC_at7 a
        simp only [part, isAgg, Sem.run_bind, run_underlying hu, Result.andThen_ok, h7, this]
        simp
      · have := jobC_at7 b
        simp only [part, isAgg, Sem.run_bind, run_underlying hu, Result.andThen_ok, h7, this]
        simp
      · refine (run_equalIn_bool w 9998 _ _ _ hu).trans ?_
        rw [h7, show (a.hold == b.hold) = ((keyJ a).getD 7 0 == (keyJ b).getD 7 0) by
          show (a.hold == b.hold) = (holdN a.hold == holdN b.hold)
          cases a.hold <;> cases b.hold <;> decide]
    · rw [if_neg h7] at ht
      obtain ⟨k, hu⟩ : ∃ k, Tryd.prog.underlying f.type = some (.int k) := by
        revert ht
        cases Tryd.prog.underlying f.type with
        | none => intro h; cases h
        | some d => cases d <;> intro h <;> first | exact ⟨_, rfl⟩ | cases h
      have hlt : f.offset < 17 := by omega
      refine ⟨.int (kindJ f.offset) ((keyJ a).getD f.offset 0), .int (kindJ f.offset) ((keyJ b).getD f.offset 0), ?_, ?_, ?_⟩
      · have := jobC_at a hlt h7
        simp only [part, isAgg, Sem.run_bind, run_underlying hu, Result.andThen_ok, this]
        simp
      · have := jobC_at b hlt h7
        simp only [part, isAgg, Sem.run_bind, run_underlying hu, Result.andThen_ok, this]
        simp
      · exact run_equalIn_int w 9998 _ _ k _ _ hu
end Go.Proofs.YtgeldpfojmkdbaaDoor
namespace Go.Proofs.YtgeldpfojmkdbaaDoor
set_option linter.unusedVariables false
open Go.ChangeShapes Go.WideShapes Go.ChangeAt Go.RowKit

theorem inI_true {v lo hi : Int} (h0 : lo ≤ v) (h1 : v ≤ hi) : inI v lo hi = true := by
  unfold inI
  rw [decide_eq_true h0, decide_eq_true h1]; rfl
/-- what is known of a right job -/
structure RightP (j : JobV) : Prop where
  nums : numsB j = true
  more : moreB j = true
  times : (timesJ j).all timeB = true
  st : stateB j = true
theorem rightB_iff {j : JobV} : rightB j = true ↔ RightP j := by
  unfold rightB
  simp only [Bool.and_eq_true]
  exact ⟨fun ⟨⟨⟨a, b⟩, c⟩, d⟩ => ⟨a, b, c, d⟩, fun ⟨a, b, c, d⟩ => ⟨⟨⟨a, b⟩, c⟩, d⟩⟩
theorem RightP.time {j : JobV} (h : RightP j) : timeB j.sent = true ∧ timeB j.plan = true ∧ timeB j.promise = true ∧ timeB j.start = true ∧ timeB j.fin = true := by
  have := h.times
  unfold timesJ at this
  simp only [List.all_cons, List.all_nil, Bool.and_eq_true, Bool.and_true] at this
  exact this
theorem times_of {j : JobV} (h : timeB j.sent = true ∧ timeB j.plan = true ∧ timeB j.promise = true ∧ timeB j.start = true ∧ timeB j.fin = true) : (timesJ j).all timeB = true := by
  unfold timesJ
  simp only [List.all_cons, List.all_nil, Bool.and_eq_true, Bool.and_true]
  exact h
theorem timeB_zero : timeB 0 = true := by decide
theorem timeB_never : timeB 1099511627776 = true := by decide
theorem RightP.tries {j : JobV} (h : RightP j) : 0 ≤ j.tries ∧ j.tries ≤ 9 := by
  have := h.more
  unfold moreB at this
  simp only [Bool.and_eq_true] at this
  exact inI_yes this.2
theorem more_tries {j k : JobV} (h : moreB j = true) (e : k.limit = j.limit ∧ k.nice = j.nice ∧ k.after = j.after ∧ k.id = j.id) (ht : inI k.tries 0 9 = true) : moreB k = true := by
  unfold moreB at h ⊢
  rw [e.1, e.2.1, e.2.2.1, e.2.2.2, ht]
  simp only [Bool.and_eq_true] at h ⊢
  exact ⟨h.1, trivial⟩
theorem state_wait {j : JobV} (h : stateB j = true) (hs : (j.state == 0) = true) : nv j.nodes = 0 ∧ j.start = 0 ∧ j.fin = 0 := by
  unfold stateB at h
  rw [hs] at h
  simp only [if_true, Bool.and_eq_true, beq_iff_eq] at h
  exact ⟨h.1.1, h.1.2, h.2⟩
theorem state_run {j : JobV} (h : stateB j = true) (hs : (j.state == 1) = true) : j.hold = false ∧ fitsB j j.nodes = true ∧ 1 ≤ j.tries ∧ j.start < 1099511627776 ∧ j.fin = 0 := by
  have h1 : j.state = 1 := by simpa using hs
  unfold stateB at h
  rw [h1] at h
  simp only [show ((1 : Int) == 0) = false from rfl, show ((1 : Int) == 1) = true from rfl, if_true, Bool.and_eq_true, beq_iff_eq, Bool.not_eq_true', decide_eq_true_eq, Bool.false_eq_true, if_false] at h
  exact ⟨h.1.1.1.1, h.1.1.1.2, h.1.1.2, h.1.2, h.2⟩
theorem begin_right {j : JobV} {now : Int} {n : NSet} (h : (beginJ j now n).2 = 0) : rightB (beginJ j now n).1 = true ∧ fitsB (beginJ j now n).1 (beginJ j now n).1.nodes = true ∧ overB j = false ∧ (beginJ j now n).1.tries = j.tries + 1 := by
  unfold beginJ at h ⊢
  cases hr : rightB j with
  | false => rw [hr] at h; exact absurd h (by simp)
  | true =>
    rw [hr] at h
    have R := rightB_iff.1 hr
    cases hs : (j.state == 0) with
    | false => rw [hs] at h; exact absurd h (by simp)
    | true =>
      rw [hs] at h
      cases hh : j.hold with
      | true => rw [hh] at h; exact absurd h (by simp)
      | false =>
        rw [hh] at h
        cases ht : timeB now with
        | false => rw [ht] at h; exact absurd h (by simp)
        | true =>
          rw [ht] at h
          cases hn : (now == 1099511627776) with
          | true => rw [hn] at h; exact absurd h (by simp)
          | false =>
            rw [hn] at h
            cases hf : fitsB j n with
            | false => rw [hf] at h; exact absurd h (by simp)
            | true =>
              rw [hf] at h
              cases h9 : (j.tries == 9) with
              | true => rw [h9] at h; exact absurd h (by simp)
              | false =>
                simp only [Bool.not_true, Bool.false_eq_true, if_false, Bool.or_self]
                obtain ⟨w0, w1, w2⟩ := state_wait R.st hs
                have T := R.time
                have ht2 := timeB_yes ht
                have h9' : j.tries ≠ 9 := by simpa using h9
                have hn' : now ≠ 1099511627776 := by simpa using hn
                have hs' : j.state = 0 := by simpa using hs
                have htr := R.tries
                refine ⟨rightB_iff.2 ⟨R.nums, more_tries R.more ⟨rfl, rfl, rfl, rfl⟩ (inI_true (by show 0 ≤ j.tries + 1; omega) (by show j.tries + 1 ≤ 9; omega)), times_of ⟨T.1, T.2.1, T.2.2.1, ht, T.2.2.2.2⟩, ?_⟩, hf, ?_, by trivial⟩
                · show (!false && fitsB j n && decide (1 ≤ j.tries + 1) && decide (now < 1099511627776) && (j.fin == 0)) = true
                  rw [hf, decide_eq_true (by omega), decide_eq_true (by omega), w2]; rfl
                · unfold overB; rw [hs']; rfl
theorem end_right {j : JobV} {now how : Int} (h : rightB j = true) (hw : inI how 2 5 = true) (hl : lateB j now = false) : rightB (endJ j now how) = true ∧ (overB j = true → endJ j now how = j) ∧ (endJ j now how).tries ≤ j.tries ∧ ((endJ j now how).state == 1) = false := by
  have R := rightB_iff.1 h
  have T := R.time
  have htr := R.tries
  have hwi := inI_yes hw
  have hw0 : (how == 0) = false := by rw [beq_eq_false_iff_ne]; omega
  have hw1 : (how == 1) = false := by rw [beq_eq_false_iff_ne]; omega
  have hnow : timeB now = true := by
    unfold lateB at hl
    cases ht : timeB now with
    | true => rfl
    | false => rw [ht] at hl; exact absurd hl (by simp)
  by_cases h0 : (j.state == 0) = true
  · have h0' : j.state = 0 := by simpa using h0
    obtain ⟨w0, w1, w2⟩ := state_wait R.st h0
    have he : endJ j now how = { j with start := now, tries := 0, state := how, fin := now } := by unfold endJ; rw [h0]; rfl
    rw [he]
    refine ⟨rightB_iff.2 ⟨R.nums, more_tries R.more ⟨rfl, rfl, rfl, rfl⟩ (by rfl), times_of ⟨T.1, T.2.1, T.2.2.1, hnow, hnow⟩, ?_⟩, fun ho => ?_, htr.1, hw1⟩
    · show (if (how == 0) then _ else if (how == 1) then _ else if inI how 2 5 then (if ((0 : Int) == 0) then (nv j.nodes == 0) && decide (now ≤ now) else _) else false) = true
      rw [hw0, hw1, hw, w0, decide_eq_true (Int.le_refl now)]; rfl
    · unfold overB at ho; rw [h0'] at ho; exact absurd ho (by decide)
  · have h0f : (j.state == 0) = false := by simpa using h0
    by_cases h1 : (j.state == 1) = true
    · have h1' : j.state = 1 := by simpa using h1
      obtain ⟨r0, r1, r2, r3, r4⟩ := state_run R.st h1
      have he : endJ j now how = { j with state := how, fin := now } := by unfold endJ; rw [h0f, h1]; rfl
      have hsn : j.start ≤ now := by
        unfold lateB at hl
        rw [hnow, h1] at hl
        have := of_decide_eq_false (show decide (now < j.start) = false by simpa using hl)
        omega
      have ht0 : (j.tries == 0) = false := by rw [beq_eq_false_iff_ne]; omega
      have hcw : ((card j.nodes : Int) == j.width) = true := by
        unfold fitsB at r1
        rw [Bool.and_eq_true] at r1
        exact r1.1
      rw [he]
      refine ⟨rightB_iff.2 ⟨R.nums, R.more, times_of ⟨T.1, T.2.1, T.2.2.1, T.2.2.2.1, hnow⟩, ?_⟩, fun ho => ?_, Int.le_refl _, hw1⟩
      · show (if (how == 0) then _ else if (how == 1) then _ else if inI how 2 5 then (if (j.tries == 0) then _ else ((card j.nodes : Int) == j.width) && decide (j.start ≤ now)) else false) = true
        rw [hw0, hw1, hw, ht0, hcw, decide_eq_true hsn]; rfl
      · unfold overB at ho; rw [h1'] at ho; exact absurd ho (by decide)
    · have h1f : (j.state == 1) = false := by simpa using h1
      have he : endJ j now how = j := by unfold endJ; rw [h0f, h1f]; rfl
      rw [he]
      exact ⟨h, fun _ => rfl, Int.le_refl _, h1f⟩
theorem stop_right {j : JobV} {now how : Int} (h : (stopJ j now how).2 = 0) : rightB (stopJ j now how).1 = true ∧ overB j = false ∧ (stopJ j now how).1.tries ≤ j.tries ∧ ((stopJ j now how).1.state == 1) = false := by
  unfold stopJ at h ⊢
  cases hr : rightB j with
  | false => rw [hr] at h; exact absurd h (by simp)
  | true =>
    rw [hr] at h
    cases hw : inI how 2 5 with
    | false => rw [hw] at h; exact absurd h (by simp)
    | true =>
      rw [hw] at h
      cases ho : (overB j || ((j.state == 0) && ((how == 2) || (how == 5)))) with
      | true => rw [ho] at h; exact absurd h (by simp)
      | false =>
        rw [ho] at h
        cases hl : lateB j now with
        | true => rw [hl] at h; exact absurd h (by simp)
        | false =>
          simp only [Bool.not_true, Bool.false_eq_true, if_false]
          obtain ⟨e1, _, e3, e4⟩ := end_right hr hw hl
          exact ⟨e1, (Bool.or_eq_false_iff.1 ho).1, e3, e4⟩
theorem lose_right {j : JobV} {now node retries : Int} (h : (loseJ j now node retries).2 = 0) : rightB (loseJ j now node retries).1 = true ∧ overB j = false ∧ (loseJ j now node retries).1.tries ≤ j.tries ∧ ((loseJ j now node retries).1.state == 1) = false ∧ (((loseJ j now node retries).1.state == 0) = true → (loseJ j now node retries).1.tries ≤ retries) := by
  unfold loseJ at h ⊢
  cases hr : rightB j with
  | false => rw [hr] at h; exact absurd h (by simp)
  | true =>
    rw [hr] at h
    have R := rightB_iff.1 hr
    have T := R.time
    cases hs : (j.state == 1) with
    | false => rw [hs] at h; exact absurd h (by simp)
    | true =>
      rw [hs] at h
      have hs' : j.state = 1 := by simpa using hs
      have hov : overB j = false := by unfold overB; rw [hs']; rfl
      cases hh : hasI j.nodes node with
      | false => rw [hh] at h; exact absurd h (by simp)
      | true =>
        rw [hh] at h
        cases hl : lateB j now with
        | true => rw [hl] at h; exact absurd h (by simp)
        | false =>
          cases hd : decide (retries < j.tries) with
          | true =>
            simp only [Bool.not_true, Bool.false_eq_true, if_false, if_true]
            obtain ⟨e1, _, e3, e4⟩ := end_right hr (show inI 3 2 5 = true by decide) hl
            refine ⟨e1, hov, e3, e4, fun h0 => ?_⟩
            have he : endJ j now 3 = { j with state := 3, fin := now } := by unfold endJ; rw [hs', show ((1 : Int) == 0) = false from rfl]; rfl
            rw [he] at h0
            exact absurd h0 (show ¬ (((3 : Int) == 0) = true) by decide)
          | false =>
            simp only [Bool.not_true, Bool.false_eq_true, if_false]
            have hle := of_decide_eq_false hd
            refine ⟨rightB_iff.2 ⟨R.nums, R.more, times_of ⟨T.1, timeB_never, timeB_never, timeB_zero, timeB_zero⟩, rfl⟩, hov, Int.le_refl _, rfl, fun _ => by show j.tries ≤ retries; omega⟩
end Go.Proofs.YtgeldpfojmkdbaaDoor
namespace Go.Proofs.YtgeldpfojmkdbaaDoor
set_option linter.unusedVariables false
open Go.ChangeShapes Go.WideShapes Go.ChangeAt Go.RowKit
attribute [local go_sem ↓] Go.wp_at_zero Go.wp_at_succ comesTo_value_eq comesTo_skip_eq comesTo_enter_eq

/-- the set of nodes -/
def ofS (l : List Int) : NSet := l.foldl (fun s n => s ||| oneI n) 0#64
theorem ofS_snoc (l : List Int) (n : Int) : ofS (l ++ [n]) = ofS l ||| oneI n := by unfold ofS; rw [List.foldl_append]; rfl
theorem of_ints (g c : Nat) (l : List Int) (w : World) (hl : l.length ≤ 9223372036854775807) (hc : ∀ k, k < l.length → w.cell? ⟨g, k, none⟩ = some (.int .i64 (l.getD k 0))) :
    Calls Tryd.prog 30 #[.slice (some ⟨g, 0, none⟩) l.length c] w fun e w' => e = .returned (.int .u64 (nv (ofS l))) ∧ w = w' := by
  have HC := Lib.hid hc
  clear hc
  go_enter Tryd.func30, Tryd.ntmps30
  go_wp2
  go_loop [3, 8] (fun s i => ∃ k : Nat, k ≤ l.length ∧ i = .int .i64 k ∧ s = .int .u64 (nv (ofS (l.take k)))) (fun _ i => l.length - (intOf i).toNat)
  case atStart => exact ⟨0, Nat.zero_le _, rfl, rfl⟩
  case round =>
    obtain ⟨k, hk, rfl, rfl⟩ := hrel
    by_cases hlt : k < l.length
    · have hcell := HC.out k hlt
      have e : ofS (l.take (k + 1)) = ofS (l.take k) ||| oneI (l.getD k 0) := by
        rw [List.take_succ_eq_append_getElem hlt, ofS_snoc]
        simp [List.getD, hlt]
      have KW := Lib.hid (fun W => with_any (ofS (l.take k)) (l.getD k 0) W)
      rw [← e] at KW
      clear e
      generalize l.getD k 0 = x at *
      generalize hT : ofS (l.take (k + 1)) = T2 at *
      have HT := Lib.hid hT
      clear hT
      go_wp2_with (go_at_call 39; refine (KW.out _).mono ?_; rintro e w' ⟨rfl, rfl⟩)
      go_round
      case rel => exact ⟨k + 1, by omega, by go_num, by rw [HT.out]⟩
      case measure => simp [intOf]; omega
    · obtain rfl : k = l.length := by omega
      rw [List.take_of_length_le (Nat.le_refl _)]
      go_wp2
      go_ret
      exact ⟨rfl, rfl⟩
/-- numbers that lie in a block -/
theorem of_block (l : List Int) (x : NSet) (hx : ofS l = x) (hl : l.length ≤ 1000) (b : Nat) (W : World) {T : TypeId} (hb : W.heap[b]? = some (.cells (l.map (Value.int .i64)).toArray T (0, 0))) :
    Calls Tryd.prog 30 #[.slice (some ⟨b, 0, none⟩) l.length l.length] W fun e w' => e = .returned (.int .u64 (nv x)) ∧ Below W.heap.size W w' := by
  have := of_ints b l.length l W (by omega) (fun k hk => cell_of_block hb (by simp [hk]))
  rw [hx] at this
  exact this.mono fun _ _ ⟨h1, h2⟩ => ⟨h1, by subst h2; exact Below.refl _ _⟩
end Go.Proofs.YtgeldpfojmkdbaaDoor
