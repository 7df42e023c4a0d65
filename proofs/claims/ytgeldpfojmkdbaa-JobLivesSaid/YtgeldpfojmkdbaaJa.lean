/- A job, plainly (layer 15): what may be, what may begin, stop and be lost. No condition. -/
import Derived.Test.YtgeldpfojmkdbaaBits
import Derived.Test.YtgeldpfojmkdbaaTick
namespace Go.Proofs.Ytgeldpfojmkdbaa
set_option linter.unusedVariables false
open Go.ChangeShapes Go.WideShapes Go.ChangeAt Go.RowKit

structure JobV where
  id : Int
  user : Int
  part : Int
  width : Int
  limit : Int
  nice : Int
  after : Int
  hold : Bool
  state : Int
  sent : Int
  plan : Int
  promise : Int
  tries : Int
  black : NSet
  nodes : NSet
  start : Int
  fin : Int
def holdN (b : Bool) : Int := if b then 1 else 0
def JobV.ints (j : JobV) : List Int := [j.id, j.user, j.part, j.width, j.limit, j.nice, j.after, j.state, j.sent, j.plan, j.promise, j.tries, j.start, j.fin]
structure JobV.Ok (j : JobV) : Prop where
  inb : ∀ x ∈ j.ints, -9223372036854775808 ≤ x ∧ x ≤ 9223372036854775807
def jobC (j : JobV) : List Value := [.int .i64 j.id, .int .i64 j.user, .int .i64 j.part, .int .i64 j.width, .int .i64 j.limit, .int .i64 j.nice, .int .i64 j.after, .bool j.hold, .int .i64 j.state, .int .i64 j.sent, .int .i64 j.plan, .int .i64 j.promise, .int .i64 j.tries, .int .u64 (nv j.black), .int .u64 (nv j.nodes), .int .i64 j.start, .int .i64 j.fin]
theorem jobC_len (j : JobV) : (jobC j).length = 17 := rfl
theorem jobC_one (j : JobV) : (jobC j).all (·.oneCell') = true := rfl
def job0 : JobV := ⟨0, 0, 0, 0, 0, 0, 0, false, 0, 0, 0, 0, 0, 0#64, 0#64, 0, 0⟩
theorem job0_ok : job0.Ok := ⟨by decide⟩

def inI (v lo hi : Int) : Bool := decide (lo ≤ v) && decide (v ≤ hi)
theorem inI_yes {v lo hi : Int} (h : inI v lo hi = true) : lo ≤ v ∧ v ≤ hi := by
  unfold inI at h
  rwa [Bool.and_eq_true, decide_eq_true_eq, decide_eq_true_eq] at h
theorem inI_no {v lo hi : Int} (h : inI v lo hi = false) : v < lo ∨ hi < v := by
  unfold inI at h
  rw [Bool.and_eq_false_iff, decide_eq_false_iff_not, decide_eq_false_iff_not] at h
  omega
def timeB (t : Int) : Bool := t == clampI t
theorem timeB_yes {t : Int} (h : timeB t = true) : 0 ≤ t ∧ t ≤ 1099511627776 := by
  have h1 : t = clampI t := by simpa [timeB] using h
  have := clampI_bd t
  omega
def fitsB (j : JobV) (n : NSet) : Bool := ((card n : Int) == j.width) && (nv (n &&& j.black) == 0)
def stateB (j : JobV) : Bool :=
  if j.state == 0 then (nv j.nodes == 0) && (j.start == 0) && (j.fin == 0)
  else if j.state == 1 then !j.hold && fitsB j j.nodes && decide (1 ≤ j.tries) && decide (j.start < 1099511627776) && (j.fin == 0)
  else if inI j.state 2 5 then (if j.tries == 0 then (nv j.nodes == 0) && decide (j.start ≤ j.fin) else ((card j.nodes : Int) == j.width) && decide (j.start ≤ j.fin))
  else false
def timesJ (j : JobV) : List Int := [j.sent, j.plan, j.promise, j.start, j.fin]
def numsB (j : JobV) : Bool := inI j.id 1 1073741824 && inI j.user 1 16 && inI j.part 0 3 && inI j.width 1 64
def moreB (j : JobV) : Bool := decide (1 ≤ j.limit) && decide (j.limit ≤ 1048576) && inI j.nice (-100) 100 && inI j.after 0 (j.id - 1) && inI j.tries 0 9
def rightB (j : JobV) : Bool := numsB j && moreB j && (timesJ j).all timeB && stateB j
def overB (j : JobV) : Bool := inI j.state 2 5
def lateB (j : JobV) (now : Int) : Bool := !timeB now || ((j.state == 1) && decide (now < j.start))
def untilJ (j : JobV) : Int := if j.state == 1 then addI j.start j.limit else 0
def beginJ (j : JobV) (now : Int) (n : NSet) : JobV × Int :=
  if !rightB j then (job0, 11)
  else if !(j.state == 0) || j.hold then (job0, 16)
  else if !timeB now || (now == 1099511627776) then (job0, 18)
  else if !fitsB j n then (job0, 2)
  else if j.tries == 9 then (job0, 15)
  else ({ j with state := 1, nodes := n, start := now, tries := j.tries + 1 }, 0)
def endJ (j : JobV) (now how : Int) : JobV :=
  if j.state == 0 then { j with start := now, tries := 0, state := how, fin := now }
  else if j.state == 1 then { j with state := how, fin := now }
  else j
def stopJ (j : JobV) (now how : Int) : JobV × Int :=
  if !rightB j then (job0, 11)
  else if !inI how 2 5 then (job0, 2)
  else if overB j || ((j.state == 0) && ((how == 2) || (how == 5))) then (job0, 16)
  else if lateB j now then (job0, 18)
  else (endJ j now how, 0)
def loseJ (j : JobV) (now node retries : Int) : JobV × Int :=
  if !rightB j then (job0, 11)
  else if !(j.state == 1) then (job0, 16)
  else if !hasI j.nodes node then (job0, 13)
  else if lateB j now then (job0, 18)
  else if decide (retries < j.tries) then (endJ j now 3, 0)
  else ({ j with state := 0, nodes := 0#64, start := 0, fin := 0, plan := 1099511627776, promise := 1099511627776, black := j.black ||| oneI node }, 0)
end Go.Proofs.Ytgeldpfojmkdbaa
