/-
  No cell of these rows narrows 'for every input' (looked for: loops, veiled, ifaces, maps, wideKeys, modest, calm, conditions, laid).
  DERIVED. THE GIVEN ROWS OF THIS SEAT. 10 by the template 'for every input the law returns true; each argument reads behind the call as it read before'; 0 by the template 'total and deterministic' (their statements: YtjpjlfdlhhnpnaaTotals.lean).
  GIVEN WITH THE SEED: the statements are not yours to turn. If you find one false, say at which input.
  Laid BY PROGRAM, IN A SANDBOX (cutbox-rows.mjs): the forced cells as the released guide's own fill.sh prints them over the translation 78df0c4dd4b6c678… (all of the seat's roots in one cut). By AI agents, Wed Nov 11 2026. No macro, syntax, notation, axiom, sorry.
-/
import Derived.Test.YtjpjlfdlhhnpnaaChecked
import GoSem.Claim
import GoSem.ClaimJoined
import GoSem.ClaimMapViews
import Derived.JoinedTies
import Derived.KernelRfl
namespace Go.Proofs.Ytjpjlfdlhhnpnaa
/- THE CELL 'sum', in the pinned program and in every row, IS THE sha256 OF THE DUMP (.gsa) THAT YtjpjlfdlhhnpnaaProg.lean LOADS. Nothing in Lean hashes anything: it is a label: what it is worth is what the hold of that sum in a sandbox is worth. -/
noncomputable def Try.pinned : Pinned := { name := "ytjpjlfdlhhnpnaa", sum := "78df0c4dd4b6c678c4e4a54d7e12bc03a8d7391da02ea141dd9a0ca00da4bc8c", checked := Try.checked }
namespace Rows
def none {H : Type} : Left H := { results := [], args := [] }

/-- 'berthinglaw01.TickSums': WHATEVER THE INPUT: true; the input reads as it did. -/
def tickSumsSpec : ChangeSpec := { name := "tickSums", fn := fun _ => fun
  | [d1, d2, d3] => { results := [.lit (.bool true)], args := [d1, d2, d3] }
  | _ => none }
def tickSumsRow : OpenClaim := { program := "ytjpjlfdlhhnpnaa", sum := "78df0c4dd4b6c678c4e4a54d7e12bc03a8d7391da02ea141dd9a0ca00da4bc8c", func := "berthing/berthinglaw01.TickSums", spec := "tickSums", unfollowed := true, recurses := true, apart := false }
def TickSumsSaid : Prop := tickSumsRow.holds Try.pinned (OpenSpec.ofChange tickSumsSpec)

/-- ITS FALSE NEIGHBOUR: 'it returns false'. Refute it at one input. -/
def tickSumsWrong : ChangeSpec := { name := "tickSums", fn := fun _ => fun
  | [d1, d2, d3] => { results := [.lit (.bool false)], args := [d1, d2, d3] }
  | _ => none }
def TickSumsWrongFalsely : Prop := tickSumsRow.holds Try.pinned (OpenSpec.ofChange tickSumsWrong)

/-- 'berthinglaw01.TickSpans': WHATEVER THE INPUT: true; the input reads as it did. -/
def tickSpansSpec : ChangeSpec := { name := "tickSpans", fn := fun _ => fun
  | [d1, d2, d3] => { results := [.lit (.bool true)], args := [d1, d2, d3] }
  | _ => none }
def tickSpansRow : OpenClaim := { program := "ytjpjlfdlhhnpnaa", sum := "78df0c4dd4b6c678c4e4a54d7e12bc03a8d7391da02ea141dd9a0ca00da4bc8c", func := "berthing/berthinglaw01.TickSpans", spec := "tickSpans", unfollowed := true, recurses := true, apart := false }
def TickSpansSaid : Prop := tickSpansRow.holds Try.pinned (OpenSpec.ofChange tickSpansSpec)

/-- ITS FALSE NEIGHBOUR: 'it returns false'. Refute it at one input. -/
def tickSpansWrong : ChangeSpec := { name := "tickSpans", fn := fun _ => fun
  | [d1, d2, d3] => { results := [.lit (.bool false)], args := [d1, d2, d3] }
  | _ => none }
def TickSpansWrongFalsely : Prop := tickSpansRow.holds Try.pinned (OpenSpec.ofChange tickSpansWrong)

/-- 'berthinglaw01.TickJoins': WHATEVER THE INPUT: true; the input reads as it did. -/
def tickJoinsSpec : ChangeSpec := { name := "tickJoins", fn := fun _ => fun
  | [d] => { results := [.lit (.bool true)], args := [d] }
  | _ => none }
def tickJoinsRow : OpenClaim := { program := "ytjpjlfdlhhnpnaa", sum := "78df0c4dd4b6c678c4e4a54d7e12bc03a8d7391da02ea141dd9a0ca00da4bc8c", func := "berthing/berthinglaw01.TickJoins", spec := "tickJoins", unfollowed := true, recurses := true, apart := false }
def TickJoinsSaid : Prop := tickJoinsRow.holds Try.pinned (OpenSpec.ofChange tickJoinsSpec)

/-- ITS FALSE NEIGHBOUR: 'it returns false'. Refute it at one input. -/
def tickJoinsWrong : ChangeSpec := { name := "tickJoins", fn := fun _ => fun
  | [d] => { results := [.lit (.bool false)], args := [d] }
  | _ => none }
def TickJoinsWrongFalsely : Prop := tickJoinsRow.holds Try.pinned (OpenSpec.ofChange tickJoinsWrong)

/-- 'berthinglaw01.TickOrders': WHATEVER THE INPUT: true; the input reads as it did. -/
def tickOrdersSpec : ChangeSpec := { name := "tickOrders", fn := fun _ => fun
  | [d1, d2, d3] => { results := [.lit (.bool true)], args := [d1, d2, d3] }
  | _ => none }
def tickOrdersRow : OpenClaim := { program := "ytjpjlfdlhhnpnaa", sum := "78df0c4dd4b6c678c4e4a54d7e12bc03a8d7391da02ea141dd9a0ca00da4bc8c", func := "berthing/berthinglaw01.TickOrders", spec := "tickOrders", unfollowed := true, recurses := true, apart := false }
def TickOrdersSaid : Prop := tickOrdersRow.holds Try.pinned (OpenSpec.ofChange tickOrdersSpec)

/-- ITS FALSE NEIGHBOUR: 'it returns false'. Refute it at one input. -/
def tickOrdersWrong : ChangeSpec := { name := "tickOrders", fn := fun _ => fun
  | [d1, d2, d3] => { results := [.lit (.bool false)], args := [d1, d2, d3] }
  | _ => none }
def TickOrdersWrongFalsely : Prop := tickOrdersRow.holds Try.pinned (OpenSpec.ofChange tickOrdersWrong)

/-- 'berthinglaw01.TickHolds': WHATEVER THE INPUT: true; the input reads as it did. -/
def tickHoldsSpec : ChangeSpec := { name := "tickHolds", fn := fun _ => fun
  | [d1, d2] => { results := [.lit (.bool true)], args := [d1, d2] }
  | _ => none }
def tickHoldsRow : OpenClaim := { program := "ytjpjlfdlhhnpnaa", sum := "78df0c4dd4b6c678c4e4a54d7e12bc03a8d7391da02ea141dd9a0ca00da4bc8c", func := "berthing/berthinglaw01.TickHolds", spec := "tickHolds", unfollowed := true, recurses := true, apart := false }
def TickHoldsSaid : Prop := tickHoldsRow.holds Try.pinned (OpenSpec.ofChange tickHoldsSpec)

/-- ITS FALSE NEIGHBOUR: 'it returns false'. Refute it at one input. -/
def tickHoldsWrong : ChangeSpec := { name := "tickHolds", fn := fun _ => fun
  | [d1, d2] => { results := [.lit (.bool false)], args := [d1, d2] }
  | _ => none }
def TickHoldsWrongFalsely : Prop := tickHoldsRow.holds Try.pinned (OpenSpec.ofChange tickHoldsWrong)

/-- 'berthinglaw01.TickSteps': WHATEVER THE INPUT: true; the input reads as it did. -/
def tickStepsSpec : ChangeSpec := { name := "tickSteps", fn := fun _ => fun
  | [d1, d2, d3] => { results := [.lit (.bool true)], args := [d1, d2, d3] }
  | _ => none }
def tickStepsRow : OpenClaim := { program := "ytjpjlfdlhhnpnaa", sum := "78df0c4dd4b6c678c4e4a54d7e12bc03a8d7391da02ea141dd9a0ca00da4bc8c", func := "berthing/berthinglaw01.TickSteps", spec := "tickSteps", unfollowed := true, recurses := true, apart := false }
def TickStepsSaid : Prop := tickStepsRow.holds Try.pinned (OpenSpec.ofChange tickStepsSpec)

/-- ITS FALSE NEIGHBOUR: 'it returns false'. Refute it at one input. -/
def tickStepsWrong : ChangeSpec := { name := "tickSteps", fn := fun _ => fun
  | [d1, d2, d3] => { results := [.lit (.bool false)], args := [d1, d2, d3] }
  | _ => none }
def TickStepsWrongFalsely : Prop := tickStepsRow.holds Try.pinned (OpenSpec.ofChange tickStepsWrong)

/-- 'berthinglaw03.SumTells': WHATEVER THE INPUT: true; the input reads as it did. -/
def sumTellsSpec : ChangeSpec := { name := "sumTells", fn := fun _ => fun
  | [d1, d2] => { results := [.lit (.bool true)], args := [d1, d2] }
  | _ => none }
def sumTellsRow : OpenClaim := { program := "ytjpjlfdlhhnpnaa", sum := "78df0c4dd4b6c678c4e4a54d7e12bc03a8d7391da02ea141dd9a0ca00da4bc8c", func := "berthing/berthinglaw03.SumTells", spec := "sumTells", unfollowed := true, recurses := true, apart := false }
def SumTellsSaid : Prop := sumTellsRow.holds Try.pinned (OpenSpec.ofChange sumTellsSpec)

/-- ITS FALSE NEIGHBOUR: 'it returns false'. Refute it at one input. -/
def sumTellsWrong : ChangeSpec := { name := "sumTells", fn := fun _ => fun
  | [d1, d2] => { results := [.lit (.bool false)], args := [d1, d2] }
  | _ => none }
def SumTellsWrongFalsely : Prop := sumTellsRow.holds Try.pinned (OpenSpec.ofChange sumTellsWrong)

/-- 'berthinglaw03.SumParts': WHATEVER THE INPUT: true; the input reads as it did. -/
def sumPartsSpec : ChangeSpec := { name := "sumParts", fn := fun _ => fun
  | [d1, d2, d3] => { results := [.lit (.bool true)], args := [d1, d2, d3] }
  | _ => none }
def sumPartsRow : OpenClaim := { program := "ytjpjlfdlhhnpnaa", sum := "78df0c4dd4b6c678c4e4a54d7e12bc03a8d7391da02ea141dd9a0ca00da4bc8c", func := "berthing/berthinglaw03.SumParts", spec := "sumParts", unfollowed := true, recurses := true, apart := false }
def SumPartsSaid : Prop := sumPartsRow.holds Try.pinned (OpenSpec.ofChange sumPartsSpec)

/-- ITS FALSE NEIGHBOUR: 'it returns false'. Refute it at one input. -/
def sumPartsWrong : ChangeSpec := { name := "sumParts", fn := fun _ => fun
  | [d1, d2, d3] => { results := [.lit (.bool false)], args := [d1, d2, d3] }
  | _ => none }
def SumPartsWrongFalsely : Prop := sumPartsRow.holds Try.pinned (OpenSpec.ofChange sumPartsWrong)

/-- 'berthinglaw03.SumTurned': WHATEVER THE INPUT: true; the input reads as it did. -/
def sumTurnedSpec : ChangeSpec := { name := "sumTurned", fn := fun _ => fun
  | [d1, d2, d3] => { results := [.lit (.bool true)], args := [d1, d2, d3] }
  | _ => none }
def sumTurnedRow : OpenClaim := { program := "ytjpjlfdlhhnpnaa", sum := "78df0c4dd4b6c678c4e4a54d7e12bc03a8d7391da02ea141dd9a0ca00da4bc8c", func := "berthing/berthinglaw03.SumTurned", spec := "sumTurned", unfollowed := true, recurses := true, apart := false }
def SumTurnedSaid : Prop := sumTurnedRow.holds Try.pinned (OpenSpec.ofChange sumTurnedSpec)

/-- ITS FALSE NEIGHBOUR: 'it returns false'. Refute it at one input. -/
def sumTurnedWrong : ChangeSpec := { name := "sumTurned", fn := fun _ => fun
  | [d1, d2, d3] => { results := [.lit (.bool false)], args := [d1, d2, d3] }
  | _ => none }
def SumTurnedWrongFalsely : Prop := sumTurnedRow.holds Try.pinned (OpenSpec.ofChange sumTurnedWrong)

/-- 'berthinglaw03.SumRuns': WHATEVER THE INPUT: true; the input reads as it did. -/
def sumRunsSpec : ChangeSpec := { name := "sumRuns", fn := fun _ => fun
  | [d1, d2] => { results := [.lit (.bool true)], args := [d1, d2] }
  | _ => none }
def sumRunsRow : OpenClaim := { program := "ytjpjlfdlhhnpnaa", sum := "78df0c4dd4b6c678c4e4a54d7e12bc03a8d7391da02ea141dd9a0ca00da4bc8c", func := "berthing/berthinglaw03.SumRuns", spec := "sumRuns", unfollowed := true, recurses := true, apart := false }
def SumRunsSaid : Prop := sumRunsRow.holds Try.pinned (OpenSpec.ofChange sumRunsSpec)

/-- ITS FALSE NEIGHBOUR: 'it returns false'. Refute it at one input. -/
def sumRunsWrong : ChangeSpec := { name := "sumRuns", fn := fun _ => fun
  | [d1, d2] => { results := [.lit (.bool false)], args := [d1, d2] }
  | _ => none }
def SumRunsWrongFalsely : Prop := sumRunsRow.holds Try.pinned (OpenSpec.ofChange sumRunsWrong)

/- THE SECOND FORM. 'bulk': how many values and letters a reading holds, each counted each time it is reached (what is shared counts as often as it is met; a slice's spare places count too). A statement '..UptoSaid' is the law's where the arguments, and the package variables that the reading takes, are together of bulk at most 1048576: NARROWER than '..Said'. Prove '..Said' where nothing that the law and all that it calls make is longer than what came in: it says more and counts as full. Else prove '..UptoSaid'. A law counts once. -/
mutual
def uptoBulk {H : Type} : DataW H → Nat
  | .lit (.string bytes) => bytes.length + 1
  | .lit _ => 1
  | .nil => 1
  | .ptr d => uptoBulk d + 1
  | .slice elems spare => uptoBulkAll elems + uptoBulkAll spare + 1
  | .agg parts => uptoBulkAll parts + 1
  | .iface _ d => uptoBulk d + 1
  | .map entries => uptoBulkEntries entries + 1
  | .held _ => 1
def uptoBulkAll {H : Type} : List (DataW H) → Nat
  | [] => 0
  | d :: r => uptoBulk d + uptoBulkAll r
def uptoBulkEntries {H : Type} : List (Lit × DataW H) → Nat
  | [] => 0
  | x :: r => uptoBulkEntry x + uptoBulkEntries r
def uptoBulkEntry {H : Type} : Lit × DataW H → Nat
  | (.string bytes, d) => bytes.length + uptoBulk d + 1
  | (_, d) => uptoBulk d + 1
 end
def uptoSmall : (H : Type) → List (DataW H) → Bool := fun _ ds => decide (uptoBulkAll ds ≤ 1048576)
def OpenSpec.upto (s : _root_.Go.ChangeSpec) : _root_.Go.OpenSpec := { _root_.Go.OpenSpec.ofChange s with cond := some uptoSmall }

/-- 'berthinglaw01.TickSums', WHERE WHAT IT READS IS OF BULK AT MOST 1048576: true; the input reads as it did. -/
def tickSumsUptoRow : OpenClaim := { program := "ytjpjlfdlhhnpnaa", sum := "78df0c4dd4b6c678c4e4a54d7e12bc03a8d7391da02ea141dd9a0ca00da4bc8c", func := "berthing/berthinglaw01.TickSums", spec := "tickSums", unfollowed := true, recurses := true, apart := false, narrowed := true }
def TickSumsUptoSaid : Prop := tickSumsUptoRow.holds Try.pinned (OpenSpec.upto tickSumsSpec)

/-- 'berthinglaw01.TickSpans', WHERE WHAT IT READS IS OF BULK AT MOST 1048576: true; the input reads as it did. -/
def tickSpansUptoRow : OpenClaim := { program := "ytjpjlfdlhhnpnaa", sum := "78df0c4dd4b6c678c4e4a54d7e12bc03a8d7391da02ea141dd9a0ca00da4bc8c", func := "berthing/berthinglaw01.TickSpans", spec := "tickSpans", unfollowed := true, recurses := true, apart := false, narrowed := true }
def TickSpansUptoSaid : Prop := tickSpansUptoRow.holds Try.pinned (OpenSpec.upto tickSpansSpec)

/-- 'berthinglaw01.TickJoins', WHERE WHAT IT READS IS OF BULK AT MOST 1048576: true; the input reads as it did. -/
def tickJoinsUptoRow : OpenClaim := { program := "ytjpjlfdlhhnpnaa", sum := "78df0c4dd4b6c678c4e4a54d7e12bc03a8d7391da02ea141dd9a0ca00da4bc8c", func := "berthing/berthinglaw01.TickJoins", spec := "tickJoins", unfollowed := true, recurses := true, apart := false, narrowed := true }
def TickJoinsUptoSaid : Prop := tickJoinsUptoRow.holds Try.pinned (OpenSpec.upto tickJoinsSpec)

/-- 'berthinglaw01.TickOrders', WHERE WHAT IT READS IS OF BULK AT MOST 1048576: true; the input reads as it did. -/
def tickOrdersUptoRow : OpenClaim := { program := "ytjpjlfdlhhnpnaa", sum := "78df0c4dd4b6c678c4e4a54d7e12bc03a8d7391da02ea141dd9a0ca00da4bc8c", func := "berthing/berthinglaw01.TickOrders", spec := "tickOrders", unfollowed := true, recurses := true, apart := false, narrowed := true }
def TickOrdersUptoSaid : Prop := tickOrdersUptoRow.holds Try.pinned (OpenSpec.upto tickOrdersSpec)

/-- 'berthinglaw01.TickHolds', WHERE WHAT IT READS IS OF BULK AT MOST 1048576: true; the input reads as it did. -/
def tickHoldsUptoRow : OpenClaim := { program := "ytjpjlfdlhhnpnaa", sum := "78df0c4dd4b6c678c4e4a54d7e12bc03a8d7391da02ea141dd9a0ca00da4bc8c", func := "berthing/berthinglaw01.TickHolds", spec := "tickHolds", unfollowed := true, recurses := true, apart := false, narrowed := true }
def TickHoldsUptoSaid : Prop := tickHoldsUptoRow.holds Try.pinned (OpenSpec.upto tickHoldsSpec)

/-- 'berthinglaw01.TickSteps', WHERE WHAT IT READS IS OF BULK AT MOST 1048576: true; the input reads as it did. -/
def tickStepsUptoRow : OpenClaim := { program := "ytjpjlfdlhhnpnaa", sum := "78df0c4dd4b6c678c4e4a54d7e12bc03a8d7391da02ea141dd9a0ca00da4bc8c", func := "berthing/berthinglaw01.TickSteps", spec := "tickSteps", unfollowed := true, recurses := true, apart := false, narrowed := true }
def TickStepsUptoSaid : Prop := tickStepsUptoRow.holds Try.pinned (OpenSpec.upto tickStepsSpec)

/-- 'berthinglaw03.SumTells', WHERE WHAT IT READS IS OF BULK AT MOST 1048576: true; the input reads as it did. -/
def sumTellsUptoRow : OpenClaim := { program := "ytjpjlfdlhhnpnaa", sum := "78df0c4dd4b6c678c4e4a54d7e12bc03a8d7391da02ea141dd9a0ca00da4bc8c", func := "berthing/berthinglaw03.SumTells", spec := "sumTells", unfollowed := true, recurses := true, apart := false, narrowed := true }
def SumTellsUptoSaid : Prop := sumTellsUptoRow.holds Try.pinned (OpenSpec.upto sumTellsSpec)

/-- 'berthinglaw03.SumParts', WHERE WHAT IT READS IS OF BULK AT MOST 1048576: true; the input reads as it did. -/
def sumPartsUptoRow : OpenClaim := { program := "ytjpjlfdlhhnpnaa", sum := "78df0c4dd4b6c678c4e4a54d7e12bc03a8d7391da02ea141dd9a0ca00da4bc8c", func := "berthing/berthinglaw03.SumParts", spec := "sumParts", unfollowed := true, recurses := true, apart := false, narrowed := true }
def SumPartsUptoSaid : Prop := sumPartsUptoRow.holds Try.pinned (OpenSpec.upto sumPartsSpec)

/-- 'berthinglaw03.SumTurned', WHERE WHAT IT READS IS OF BULK AT MOST 1048576: true; the input reads as it did. -/
def sumTurnedUptoRow : OpenClaim := { program := "ytjpjlfdlhhnpnaa", sum := "78df0c4dd4b6c678c4e4a54d7e12bc03a8d7391da02ea141dd9a0ca00da4bc8c", func := "berthing/berthinglaw03.SumTurned", spec := "sumTurned", unfollowed := true, recurses := true, apart := false, narrowed := true }
def SumTurnedUptoSaid : Prop := sumTurnedUptoRow.holds Try.pinned (OpenSpec.upto sumTurnedSpec)

/-- 'berthinglaw03.SumRuns', WHERE WHAT IT READS IS OF BULK AT MOST 1048576: true; the input reads as it did. -/
def sumRunsUptoRow : OpenClaim := { program := "ytjpjlfdlhhnpnaa", sum := "78df0c4dd4b6c678c4e4a54d7e12bc03a8d7391da02ea141dd9a0ca00da4bc8c", func := "berthing/berthinglaw03.SumRuns", spec := "sumRuns", unfollowed := true, recurses := true, apart := false, narrowed := true }
def SumRunsUptoSaid : Prop := sumRunsUptoRow.holds Try.pinned (OpenSpec.upto sumRunsSpec)

end Rows
end Go.Proofs.Ytjpjlfdlhhnpnaa
