/-
  No cell of these rows narrows 'for every input' (looked for: loops, veiled, ifaces, maps, wideKeys, modest, calm, conditions, laid).
  DERIVED. THE GIVEN ROWS OF THIS SEAT. 11 by the template 'for every input the law returns true; each argument reads behind the call as it read before'; 0 by the template 'total and deterministic' (their statements: YtnmhdodcfbjalaaTotals.lean).
  GIVEN WITH THE SEED: the statements are not yours to turn. If you find one false, say at which input.
  Laid BY PROGRAM, IN A SANDBOX (cutbox-rows.mjs): the forced cells as the released guide's own fill.sh prints them over the translation 52a5dbbf173cf39e… (all of the seat's roots in one cut). By AI agents, Wed Nov 11 2026. No macro, syntax, notation, axiom, sorry.
-/
import Derived.Test.YtnmhdodcfbjalaaChecked
import GoSem.Claim
import GoSem.ClaimJoined
import GoSem.ClaimMapViews
import Derived.JoinedTies
import Derived.KernelRfl
namespace Go.Proofs.Ytnmhdodcfbjalaa
/- THE CELL 'sum', in the pinned program and in every row, IS THE sha256 OF THE DUMP (.gsa) THAT YtnmhdodcfbjalaaProg.lean LOADS. Nothing in Lean hashes anything: it is a label: what it is worth is what the hold of that sum in a sandbox is worth. -/
noncomputable def Try.pinned : Pinned := { name := "ytnmhdodcfbjalaa", sum := "52a5dbbf173cf39eb19a7fb284d3ad1f553134ca6d59b70c50d1612fe7023149", checked := Try.checked }
namespace Rows
def none {H : Type} : Left H := { results := [], args := [] }

/-- 'berthinglaw01.TickSpans': WHATEVER THE INPUT: true; the input reads as it did. -/
def tickSpansSpec : ChangeSpec := { name := "tickSpans", fn := fun _ => fun
  | [d1, d2, d3] => { results := [.lit (.bool true)], args := [d1, d2, d3] }
  | _ => none }
def tickSpansRow : OpenClaim := { program := "ytnmhdodcfbjalaa", sum := "52a5dbbf173cf39eb19a7fb284d3ad1f553134ca6d59b70c50d1612fe7023149", func := "berthing/berthinglaw01.TickSpans", spec := "tickSpans", unfollowed := true, recurses := true, apart := false }
def TickSpansSaid : Prop := tickSpansRow.holds Try.pinned (OpenSpec.ofChange tickSpansSpec)

/-- ITS FALSE NEIGHBOUR: 'it returns false'. Refute it at one input. -/
def tickSpansWrong : ChangeSpec := { name := "tickSpans", fn := fun _ => fun
  | [d1, d2, d3] => { results := [.lit (.bool false)], args := [d1, d2, d3] }
  | _ => none }
def TickSpansWrongFalsely : Prop := tickSpansRow.holds Try.pinned (OpenSpec.ofChange tickSpansWrong)

/-- 'berthinglaw01.TickJoins': WHATEVER THE INPUT: true; the input reads as it did. -/
def tickJoinsSpec : ChangeSpec := { name := "tickJoins", fn := fun _ => fun
  | [d] => { results := [.lit (.bool true)], args := [d] }
  | _ => none }
def tickJoinsRow : OpenClaim := { program := "ytnmhdodcfbjalaa", sum := "52a5dbbf173cf39eb19a7fb284d3ad1f553134ca6d59b70c50d1612fe7023149", func := "berthing/berthinglaw01.TickJoins", spec := "tickJoins", unfollowed := true, recurses := true, apart := false }
def TickJoinsSaid : Prop := tickJoinsRow.holds Try.pinned (OpenSpec.ofChange tickJoinsSpec)

/-- ITS FALSE NEIGHBOUR: 'it returns false'. Refute it at one input. -/
def tickJoinsWrong : ChangeSpec := { name := "tickJoins", fn := fun _ => fun
  | [d] => { results := [.lit (.bool false)], args := [d] }
  | _ => none }
def TickJoinsWrongFalsely : Prop := tickJoinsRow.holds Try.pinned (OpenSpec.ofChange tickJoinsWrong)

/-- 'berthinglaw01.TickHolds': WHATEVER THE INPUT: true; the input reads as it did. -/
def tickHoldsSpec : ChangeSpec := { name := "tickHolds", fn := fun _ => fun
  | [d1, d2] => { results := [.lit (.bool true)], args := [d1, d2] }
  | _ => none }
def tickHoldsRow : OpenClaim := { program := "ytnmhdodcfbjalaa", sum := "52a5dbbf173cf39eb19a7fb284d3ad1f553134ca6d59b70c50d1612fe7023149", func := "berthing/berthinglaw01.TickHolds", spec := "tickHolds", unfollowed := true, recurses := true, apart := false }
def TickHoldsSaid : Prop := tickHoldsRow.holds Try.pinned (OpenSpec.ofChange tickHoldsSpec)

/-- ITS FALSE NEIGHBOUR: 'it returns false'. Refute it at one input. -/
def tickHoldsWrong : ChangeSpec := { name := "tickHolds", fn := fun _ => fun
  | [d1, d2] => { results := [.lit (.bool false)], args := [d1, d2] }
  | _ => none }
def TickHoldsWrongFalsely : Prop := tickHoldsRow.holds Try.pinned (OpenSpec.ofChange tickHoldsWrong)

/-- 'berthinglaw03.SumTurned': WHATEVER THE INPUT: true; the input reads as it did. -/
def sumTurnedSpec : ChangeSpec := { name := "sumTurned", fn := fun _ => fun
  | [d1, d2, d3] => { results := [.lit (.bool true)], args := [d1, d2, d3] }
  | _ => none }
def sumTurnedRow : OpenClaim := { program := "ytnmhdodcfbjalaa", sum := "52a5dbbf173cf39eb19a7fb284d3ad1f553134ca6d59b70c50d1612fe7023149", func := "berthing/berthinglaw03.SumTurned", spec := "sumTurned", unfollowed := true, recurses := true, apart := false }
def SumTurnedSaid : Prop := sumTurnedRow.holds Try.pinned (OpenSpec.ofChange sumTurnedSpec)

/-- ITS FALSE NEIGHBOUR: 'it returns false'. Refute it at one input. -/
def sumTurnedWrong : ChangeSpec := { name := "sumTurned", fn := fun _ => fun
  | [d1, d2, d3] => { results := [.lit (.bool false)], args := [d1, d2, d3] }
  | _ => none }
def SumTurnedWrongFalsely : Prop := sumTurnedRow.holds Try.pinned (OpenSpec.ofChange sumTurnedWrong)

/-- 'berthinglaw12.ShareTotals': WHATEVER THE INPUT: true; the input reads as it did. -/
def shareTotalsSpec : ChangeSpec := { name := "shareTotals", fn := fun _ => fun
  | [d1, d2, d3] => { results := [.lit (.bool true)], args := [d1, d2, d3] }
  | _ => none }
def shareTotalsRow : OpenClaim := { program := "ytnmhdodcfbjalaa", sum := "52a5dbbf173cf39eb19a7fb284d3ad1f553134ca6d59b70c50d1612fe7023149", func := "berthing/berthinglaw12.ShareTotals", spec := "shareTotals", unfollowed := true, recurses := true, named := ["math/bits.divideError", "math/bits.overflowError"], apart := false }
def ShareTotalsSaid : Prop := shareTotalsRow.holds Try.pinned (OpenSpec.ofChange shareTotalsSpec)

/-- ITS FALSE NEIGHBOUR: 'it returns false'. Refute it at one input. -/
def shareTotalsWrong : ChangeSpec := { name := "shareTotals", fn := fun _ => fun
  | [d1, d2, d3] => { results := [.lit (.bool false)], args := [d1, d2, d3] }
  | _ => none }
def ShareTotalsWrongFalsely : Prop := shareTotalsRow.holds Try.pinned (OpenSpec.ofChange shareTotalsWrong)

/-- 'berthinglaw12.ShareFalls': WHATEVER THE INPUT: true; the input reads as it did. -/
def shareFallsSpec : ChangeSpec := { name := "shareFalls", fn := fun _ => fun
  | [d1, d2, d3] => { results := [.lit (.bool true)], args := [d1, d2, d3] }
  | _ => none }
def shareFallsRow : OpenClaim := { program := "ytnmhdodcfbjalaa", sum := "52a5dbbf173cf39eb19a7fb284d3ad1f553134ca6d59b70c50d1612fe7023149", func := "berthing/berthinglaw12.ShareFalls", spec := "shareFalls", named := ["math/bits.divideError", "math/bits.overflowError"], apart := false }
def ShareFallsSaid : Prop := shareFallsRow.holds Try.pinned (OpenSpec.ofChange shareFallsSpec)

/-- ITS FALSE NEIGHBOUR: 'it returns false'. Refute it at one input. -/
def shareFallsWrong : ChangeSpec := { name := "shareFalls", fn := fun _ => fun
  | [d1, d2, d3] => { results := [.lit (.bool false)], args := [d1, d2, d3] }
  | _ => none }
def ShareFallsWrongFalsely : Prop := shareFallsRow.holds Try.pinned (OpenSpec.ofChange shareFallsWrong)

/-- 'berthinglaw12.ShareSplits': WHATEVER THE INPUT: true; the input reads as it did. -/
def shareSplitsSpec : ChangeSpec := { name := "shareSplits", fn := fun _ => fun
  | [d1, d2, d3] => { results := [.lit (.bool true)], args := [d1, d2, d3] }
  | _ => none }
def shareSplitsRow : OpenClaim := { program := "ytnmhdodcfbjalaa", sum := "52a5dbbf173cf39eb19a7fb284d3ad1f553134ca6d59b70c50d1612fe7023149", func := "berthing/berthinglaw12.ShareSplits", spec := "shareSplits", named := ["math/bits.divideError", "math/bits.overflowError"], apart := false }
def ShareSplitsSaid : Prop := shareSplitsRow.holds Try.pinned (OpenSpec.ofChange shareSplitsSpec)

/-- ITS FALSE NEIGHBOUR: 'it returns false'. Refute it at one input. -/
def shareSplitsWrong : ChangeSpec := { name := "shareSplits", fn := fun _ => fun
  | [d1, d2, d3] => { results := [.lit (.bool false)], args := [d1, d2, d3] }
  | _ => none }
def ShareSplitsWrongFalsely : Prop := shareSplitsRow.holds Try.pinned (OpenSpec.ofChange shareSplitsWrong)

/-- 'berthinglaw13.PrioTells': WHATEVER THE INPUT: true; the input reads as it did. -/
def prioTellsSpec : ChangeSpec := { name := "prioTells", fn := fun _ => fun
  | [d1, d2] => { results := [.lit (.bool true)], args := [d1, d2] }
  | _ => none }
def prioTellsRow : OpenClaim := { program := "ytnmhdodcfbjalaa", sum := "52a5dbbf173cf39eb19a7fb284d3ad1f553134ca6d59b70c50d1612fe7023149", func := "berthing/berthinglaw13.PrioTells", spec := "prioTells", unfollowed := true, recurses := true, apart := false }
def PrioTellsSaid : Prop := prioTellsRow.holds Try.pinned (OpenSpec.ofChange prioTellsSpec)

/-- ITS FALSE NEIGHBOUR: 'it returns false'. Refute it at one input. -/
def prioTellsWrong : ChangeSpec := { name := "prioTells", fn := fun _ => fun
  | [d1, d2] => { results := [.lit (.bool false)], args := [d1, d2] }
  | _ => none }
def PrioTellsWrongFalsely : Prop := prioTellsRow.holds Try.pinned (OpenSpec.ofChange prioTellsWrong)

/-- 'berthinglaw13.PrioSorts': WHATEVER THE INPUT: true; the input reads as it did. -/
def prioSortsSpec : ChangeSpec := { name := "prioSorts", fn := fun _ => fun
  | [d] => { results := [.lit (.bool true)], args := [d] }
  | _ => none }
def prioSortsRow : OpenClaim := { program := "ytnmhdodcfbjalaa", sum := "52a5dbbf173cf39eb19a7fb284d3ad1f553134ca6d59b70c50d1612fe7023149", func := "berthing/berthinglaw13.PrioSorts", spec := "prioSorts", unfollowed := true, recurses := true, apart := false }
def PrioSortsSaid : Prop := prioSortsRow.holds Try.pinned (OpenSpec.ofChange prioSortsSpec)

/-- ITS FALSE NEIGHBOUR: 'it returns false'. Refute it at one input. -/
def prioSortsWrong : ChangeSpec := { name := "prioSorts", fn := fun _ => fun
  | [d] => { results := [.lit (.bool false)], args := [d] }
  | _ => none }
def PrioSortsWrongFalsely : Prop := prioSortsRow.holds Try.pinned (OpenSpec.ofChange prioSortsWrong)

/-- 'berthinglaw13.PrioAges': WHATEVER THE INPUT: true; the input reads as it did. -/
def prioAgesSpec : ChangeSpec := { name := "prioAges", fn := fun _ => fun
  | [d1, d2, d3] => { results := [.lit (.bool true)], args := [d1, d2, d3] }
  | _ => none }
def prioAgesRow : OpenClaim := { program := "ytnmhdodcfbjalaa", sum := "52a5dbbf173cf39eb19a7fb284d3ad1f553134ca6d59b70c50d1612fe7023149", func := "berthing/berthinglaw13.PrioAges", spec := "prioAges", unfollowed := true, recurses := true, apart := false }
def PrioAgesSaid : Prop := prioAgesRow.holds Try.pinned (OpenSpec.ofChange prioAgesSpec)

/-- ITS FALSE NEIGHBOUR: 'it returns false'. Refute it at one input. -/
def prioAgesWrong : ChangeSpec := { name := "prioAges", fn := fun _ => fun
  | [d1, d2, d3] => { results := [.lit (.bool false)], args := [d1, d2, d3] }
  | _ => none }
def PrioAgesWrongFalsely : Prop := prioAgesRow.holds Try.pinned (OpenSpec.ofChange prioAgesWrong)

/-- 'berthinglaw13.PrioKeeps': WHATEVER THE INPUT: true; the input reads as it did. -/
def prioKeepsSpec : ChangeSpec := { name := "prioKeeps", fn := fun _ => fun
  | [d1, d2] => { results := [.lit (.bool true)], args := [d1, d2] }
  | _ => none }
def prioKeepsRow : OpenClaim := { program := "ytnmhdodcfbjalaa", sum := "52a5dbbf173cf39eb19a7fb284d3ad1f553134ca6d59b70c50d1612fe7023149", func := "berthing/berthinglaw13.PrioKeeps", spec := "prioKeeps", unfollowed := true, recurses := true, apart := false }
def PrioKeepsSaid : Prop := prioKeepsRow.holds Try.pinned (OpenSpec.ofChange prioKeepsSpec)

/-- ITS FALSE NEIGHBOUR: 'it returns false'. Refute it at one input. -/
def prioKeepsWrong : ChangeSpec := { name := "prioKeeps", fn := fun _ => fun
  | [d1, d2] => { results := [.lit (.bool false)], args := [d1, d2] }
  | _ => none }
def PrioKeepsWrongFalsely : Prop := prioKeepsRow.holds Try.pinned (OpenSpec.ofChange prioKeepsWrong)

/- THE SECOND FORM. 'bulk': how many values and letters a reading holds, each counted each time it is reached (what is shared counts as often as it is met; a slice's spare places count too). A statement '..UptoSaid' is the law's where the arguments, and the package variables that the reading takes, are together of bulk at most 1048576: NARROWER than '..Said'. Prove '..Said' where nothing that the law and all that it calls make is longer than what came in: it says more and counts as full. Else prove '..UptoSaid'. A law counts once. -/
mutual
def uptoBulk {H : Type} : DataW H → Nat
  | .lit (.string bytes) => bytes.length + 1
  | .lit _ => 1
  | .nil => 1
  | .ptr d => uptoBulk d + 1
  | .slice elems spare => uptoBulkAll elems + uptoBulkAll spare + 1
  | .agg parts => uptoBulkAll parts + 1
  | .iface _ d => uptoBulk d + 1
  | .map entries => uptoBulkEntries entries + 1
  | .held _ => 1
def uptoBulkAll {H : Type} : List (DataW H) → Nat
  | [] => 0
  | d :: r => uptoBulk d + uptoBulkAll r
def uptoBulkEntries {H : Type} : List (Lit × DataW H) → Nat
  | [] => 0
  | x :: r => uptoBulkEntry x + uptoBulkEntries r
def uptoBulkEntry {H : Type} : Lit × DataW H → Nat
  | (.string bytes, d) => bytes.length + uptoBulk d + 1
  | (_, d) => uptoBulk d + 1
 end
def uptoSmall : (H : Type) → List (DataW H) → Bool := fun _ ds => decide (uptoBulkAll ds ≤ 1048576)
def OpenSpec.upto (s : _root_.Go.ChangeSpec) : _root_.Go.OpenSpec := { _root_.Go.OpenSpec.ofChange s with cond := some uptoSmall }

/-- 'berthinglaw01.TickSpans', WHERE WHAT IT READS IS OF BULK AT MOST 1048576: true; the input reads as it did. -/
def tickSpansUptoRow : OpenClaim := { program := "ytnmhdodcfbjalaa", sum := "52a5dbbf173cf39eb19a7fb284d3ad1f553134ca6d59b70c50d1612fe7023149", func := "berthing/berthinglaw01.TickSpans", spec := "tickSpans", unfollowed := true, recurses := true, apart := false, narrowed := true }
def TickSpansUptoSaid : Prop := tickSpansUptoRow.holds Try.pinned (OpenSpec.upto tickSpansSpec)

/-- 'berthinglaw01.TickJoins', WHERE WHAT IT READS IS OF BULK AT MOST 1048576: true; the input reads as it did. -/
def tickJoinsUptoRow : OpenClaim := { program := "ytnmhdodcfbjalaa", sum := "52a5dbbf173cf39eb19a7fb284d3ad1f553134ca6d59b70c50d1612fe7023149", func := "berthing/berthinglaw01.TickJoins", spec := "tickJoins", unfollowed := true, recurses := true, apart := false, narrowed := true }
def TickJoinsUptoSaid : Prop := tickJoinsUptoRow.holds Try.pinned (OpenSpec.upto tickJoinsSpec)

/-- 'berthinglaw01.TickHolds', WHERE WHAT IT READS IS OF BULK AT MOST 1048576: true; the input reads as it did. -/
def tickHoldsUptoRow : OpenClaim := { program := "ytnmhdodcfbjalaa", sum := "52a5dbbf173cf39eb19a7fb284d3ad1f553134ca6d59b70c50d1612fe7023149", func := "berthing/berthinglaw01.TickHolds", spec := "tickHolds", unfollowed := true, recurses := true, apart := false, narrowed := true }
def TickHoldsUptoSaid : Prop := tickHoldsUptoRow.holds Try.pinned (OpenSpec.upto tickHoldsSpec)

/-- 'berthinglaw03.SumTurned', WHERE WHAT IT READS IS OF BULK AT MOST 1048576: true; the input reads as it did. -/
def sumTurnedUptoRow : OpenClaim := { program := "ytnmhdodcfbjalaa", sum := "52a5dbbf173cf39eb19a7fb284d3ad1f553134ca6d59b70c50d1612fe7023149", func := "berthing/berthinglaw03.SumTurned", spec := "sumTurned", unfollowed := true, recurses := true, apart := false, narrowed := true }
def SumTurnedUptoSaid : Prop := sumTurnedUptoRow.holds Try.pinned (OpenSpec.upto sumTurnedSpec)

/-- 'berthinglaw12.ShareTotals', WHERE WHAT IT READS IS OF BULK AT MOST 1048576: true; the input reads as it did. -/
def shareTotalsUptoRow : OpenClaim := { program := "ytnmhdodcfbjalaa", sum := "52a5dbbf173cf39eb19a7fb284d3ad1f553134ca6d59b70c50d1612fe7023149", func := "berthing/berthinglaw12.ShareTotals", spec := "shareTotals", unfollowed := true, recurses := true, named := ["math/bits.divideError", "math/bits.overflowError"], apart := false, narrowed := true }
def ShareTotalsUptoSaid : Prop := shareTotalsUptoRow.holds Try.pinned (OpenSpec.upto shareTotalsSpec)

/-- 'berthinglaw12.ShareFalls', WHERE WHAT IT READS IS OF BULK AT MOST 1048576: true; the input reads as it did. -/
def shareFallsUptoRow : OpenClaim := { program := "ytnmhdodcfbjalaa", sum := "52a5dbbf173cf39eb19a7fb284d3ad1f553134ca6d59b70c50d1612fe7023149", func := "berthing/berthinglaw12.ShareFalls", spec := "shareFalls", named := ["math/bits.divideError", "math/bits.overflowError"], apart := false, narrowed := true }
def ShareFallsUptoSaid : Prop := shareFallsUptoRow.holds Try.pinned (OpenSpec.upto shareFallsSpec)

/-- 'berthinglaw12.ShareSplits', WHERE WHAT IT READS IS OF BULK AT MOST 1048576: true; the input reads as it did. -/
def shareSplitsUptoRow : OpenClaim := { program := "ytnmhdodcfbjalaa", sum := "52a5dbbf173cf39eb19a7fb284d3ad1f553134ca6d59b70c50d1612fe7023149", func := "berthing/berthinglaw12.ShareSplits", spec := "shareSplits", named := ["math/bits.divideError", "math/bits.overflowError"], apart := false, narrowed := true }
def ShareSplitsUptoSaid : Prop := shareSplitsUptoRow.holds Try.pinned (OpenSpec.upto shareSplitsSpec)

/-- 'berthinglaw13.PrioTells', WHERE WHAT IT READS IS OF BULK AT MOST 1048576: true; the input reads as it did. -/
def prioTellsUptoRow : OpenClaim := { program := "ytnmhdodcfbjalaa", sum := "52a5dbbf173cf39eb19a7fb284d3ad1f553134ca6d59b70c50d1612fe7023149", func := "berthing/berthinglaw13.PrioTells", spec := "prioTells", unfollowed := true, recurses := true, apart := false, narrowed := true }
def PrioTellsUptoSaid : Prop := prioTellsUptoRow.holds Try.pinned (OpenSpec.upto prioTellsSpec)

/-- 'berthinglaw13.PrioSorts', WHERE WHAT IT READS IS OF BULK AT MOST 1048576: true; the input reads as it did. -/
def prioSortsUptoRow : OpenClaim := { program := "ytnmhdodcfbjalaa", sum := "52a5dbbf173cf39eb19a7fb284d3ad1f553134ca6d59b70c50d1612fe7023149", func := "berthing/berthinglaw13.PrioSorts", spec := "prioSorts", unfollowed := true, recurses := true, apart := false, narrowed := true }
def PrioSortsUptoSaid : Prop := prioSortsUptoRow.holds Try.pinned (OpenSpec.upto prioSortsSpec)

/-- 'berthinglaw13.PrioAges', WHERE WHAT IT READS IS OF BULK AT MOST 1048576: true; the input reads as it did. -/
def prioAgesUptoRow : OpenClaim := { program := "ytnmhdodcfbjalaa", sum := "52a5dbbf173cf39eb19a7fb284d3ad1f553134ca6d59b70c50d1612fe7023149", func := "berthing/berthinglaw13.PrioAges", spec := "prioAges", unfollowed := true, recurses := true, apart := false, narrowed := true }
def PrioAgesUptoSaid : Prop := prioAgesUptoRow.holds Try.pinned (OpenSpec.upto prioAgesSpec)

/-- 'berthinglaw13.PrioKeeps', WHERE WHAT IT READS IS OF BULK AT MOST 1048576: true; the input reads as it did. -/
def prioKeepsUptoRow : OpenClaim := { program := "ytnmhdodcfbjalaa", sum := "52a5dbbf173cf39eb19a7fb284d3ad1f553134ca6d59b70c50d1612fe7023149", func := "berthing/berthinglaw13.PrioKeeps", spec := "prioKeeps", unfollowed := true, recurses := true, apart := false, narrowed := true }
def PrioKeepsUptoSaid : Prop := prioKeepsUptoRow.holds Try.pinned (OpenSpec.upto prioKeepsSpec)

end Rows
end Go.Proofs.Ytnmhdodcfbjalaa
