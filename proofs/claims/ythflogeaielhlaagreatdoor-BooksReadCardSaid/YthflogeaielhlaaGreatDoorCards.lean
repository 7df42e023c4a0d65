/-
  DERIVED. GIVEN WITH THE SEED: THE CARDS: each row of YthflogeaielhlaaGreatDoorRows.lean that lists a variable, with what it lists TIED to the program's text (the seventh form; the later family's looks); each row that meets fmt, with fmt's text TOLD by the authors' own Lean function (tested against real Go, not proved from fmt's source: count such statements apart). THE CARD IS WHAT COUNTS. Prove the row's statement (the work); the ties are given (YthflogeaielhlaaGreatDoorTie.lean); close each card by the builder's one call (the guide's Derived/Test/ToyasCard.lean, 'card_holds'). Laid BY PROGRAM, IN A SANDBOX (cutbox-door.mjs). By AI agents, Wed Nov 11 2026. No macro, syntax, notation, axiom, sorry.
-/
import Derived.Test.YthflogeaielhlaaGreatDoorRows
import GoSem.ClaimSeven
namespace Go.Proofs.YthflogeaielhlaaGreatDoor
namespace Rows

/-- THE TIED CARD OF 'berthinglaw14.BooksRead'. -/
def booksReadCard : Claim7 := { stood := { row := booksReadRow, standIns := [], harness := (true, "c461a6a332bb3fb1f90b2f49d9a801224d558b911b97d2a34b2e53ee7dcd41fd"), looks := true }, kinds := [], alts := [], laidByText := true, laidKinds := [.handle], laidTests := true, laidLooks := .later }
def BooksReadCardSaid : Prop := Claim7.holds Tryz.pinned (.plain (OpenSpec.ofChange booksReadSpec)) booksReadCard

/-- THE SECOND FORM's CARD OF 'berthinglaw14.BooksRead'. -/
def booksReadUptoCard : Claim7 := { stood := { row := booksReadUptoRow, standIns := [], harness := (true, "c461a6a332bb3fb1f90b2f49d9a801224d558b911b97d2a34b2e53ee7dcd41fd"), looks := true }, kinds := [], alts := [], laidByText := true, laidKinds := [.handle], laidTests := true, laidLooks := .later }
def BooksReadUptoCardSaid : Prop := Claim7.holds Tryz.pinned (.plain (OpenSpec.upto booksReadSpec)) booksReadUptoCard
end Rows
end Go.Proofs.YthflogeaielhlaaGreatDoor
