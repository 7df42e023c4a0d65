/-
  DERIVED. GIVEN WITH THE SEED: THE CARDS: each row of YtddoknkmmchkmaaDoorRows.lean that lists a variable, with what it lists TIED to the program's text (the seventh form; the later family's looks); each row that meets fmt, with fmt's text TOLD by the authors' own Lean function (tested against real Go, not proved from fmt's source: count such statements apart). THE CARD IS WHAT COUNTS. Prove the row's statement (the work); the ties are given (YtddoknkmmchkmaaDoorTie.lean); close each card by the builder's one call (the guide's Derived/Test/ToyasCard.lean, 'card_holds'). Laid BY PROGRAM, IN A SANDBOX (cutbox-door.mjs). By AI agents, Wed Nov 11 2026. No macro, syntax, notation, axiom, sorry.
-/
import Derived.Test.YtddoknkmmchkmaaDoorRows
import GoSem.ClaimSeven
namespace Go.Proofs.YtddoknkmmchkmaaDoor
namespace Rows

/-- THE TIED CARD OF 'berthinglaw18.ResvReads'. -/
def resvReadsCard : Claim7 := { stood := { row := resvReadsRow, standIns := [], harness := (true, "f18cf9f03d683610b3006e74668cea8afd15617409385d81654a5303465f7b5d"), looks := true }, kinds := [], alts := [], laidByText := true, laidKinds := [.handle], laidTests := true, laidLooks := .later }
def ResvReadsCardSaid : Prop := Claim7.holds Tryd.pinned (.plain (OpenSpec.ofChange resvReadsSpec)) resvReadsCard

/-- THE TIED CARD OF 'berthinglaw18.ResvBack'. -/
def resvBackCard : Claim7 := { stood := { row := resvBackRow, standIns := [], harness := (true, "f18cf9f03d683610b3006e74668cea8afd15617409385d81654a5303465f7b5d"), looks := true }, kinds := [], alts := [], laidByText := true, laidKinds := [.handle], laidTests := true, laidLooks := .later }
def ResvBackCardSaid : Prop := Claim7.holds Tryd.pinned (.plain (OpenSpec.ofChange resvBackSpec)) resvBackCard

/-- THE SECOND FORM's CARD OF 'berthinglaw18.ResvReads'. -/
def resvReadsUptoCard : Claim7 := { stood := { row := resvReadsUptoRow, standIns := [], harness := (true, "f18cf9f03d683610b3006e74668cea8afd15617409385d81654a5303465f7b5d"), looks := true }, kinds := [], alts := [], laidByText := true, laidKinds := [.handle], laidTests := true, laidLooks := .later }
def ResvReadsUptoCardSaid : Prop := Claim7.holds Tryd.pinned (.plain (OpenSpec.upto resvReadsSpec)) resvReadsUptoCard

/-- THE SECOND FORM's CARD OF 'berthinglaw18.ResvBack'. -/
def resvBackUptoCard : Claim7 := { stood := { row := resvBackUptoRow, standIns := [], harness := (true, "f18cf9f03d683610b3006e74668cea8afd15617409385d81654a5303465f7b5d"), looks := true }, kinds := [], alts := [], laidByText := true, laidKinds := [.handle], laidTests := true, laidLooks := .later }
def ResvBackUptoCardSaid : Prop := Claim7.holds Tryd.pinned (.plain (OpenSpec.upto resvBackSpec)) resvBackUptoCard
end Rows
end Go.Proofs.YtddoknkmmchkmaaDoor
