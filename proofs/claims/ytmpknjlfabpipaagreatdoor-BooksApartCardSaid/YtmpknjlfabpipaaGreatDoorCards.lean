/-
  DERIVED. GIVEN WITH THE SEED: THE CARDS: each row of YtmpknjlfabpipaaGreatDoorRows.lean that lists a variable, with what it lists TIED to the program's text (the seventh form; the later family's looks); each row that meets fmt, with fmt's text TOLD by the authors' own Lean function (tested against real Go, not proved from fmt's source: count such statements apart). THE CARD IS WHAT COUNTS. Prove the row's statement (the work); the ties are given (YtmpknjlfabpipaaGreatDoorTie.lean); close each card by the builder's one call (the guide's Derived/Test/ToyasCard.lean, 'card_holds'). Laid BY PROGRAM, IN A SANDBOX (cutbox-door.mjs). By AI agents, Wed Nov 11 2026. No macro, syntax, notation, axiom, sorry.
-/
import Derived.Test.YtmpknjlfabpipaaGreatDoorRows
import GoSem.ClaimSeven
namespace Go.Proofs.YtmpknjlfabpipaaGreatDoor
namespace Rows

/-- THE TIED CARD OF 'berthinglaw14.BooksRead'. -/
def booksReadCard : Claim7 := { stood := { row := booksReadRow, standIns := [], harness := (true, "355281d3f688359b6fcd0e440390c702de004a1e13fab62ef891e1563ae06f7b"), looks := true }, kinds := [], alts := [], laidByText := true, laidKinds := [.handle], laidTests := true, laidLooks := .later }
def BooksReadCardSaid : Prop := Claim7.holds Tryz.pinned (.plain (OpenSpec.ofChange booksReadSpec)) booksReadCard

/-- THE TIED CARD OF 'berthinglaw14.BooksApart'. -/
def booksApartCard : Claim7 := { stood := { row := booksApartRow, standIns := [], harness := (true, "355281d3f688359b6fcd0e440390c702de004a1e13fab62ef891e1563ae06f7b"), looks := true }, kinds := [], alts := [], laidByText := true, laidKinds := [.handle], laidTests := true, laidLooks := .later }
def BooksApartCardSaid : Prop := Claim7.holds Tryz.pinned (.plain (OpenSpec.ofChange booksApartSpec)) booksApartCard

/-- THE SECOND FORM's CARD OF 'berthinglaw14.BooksRead'. -/
def booksReadUptoCard : Claim7 := { stood := { row := booksReadUptoRow, standIns := [], harness := (true, "355281d3f688359b6fcd0e440390c702de004a1e13fab62ef891e1563ae06f7b"), looks := true }, kinds := [], alts := [], laidByText := true, laidKinds := [.handle], laidTests := true, laidLooks := .later }
def BooksReadUptoCardSaid : Prop := Claim7.holds Tryz.pinned (.plain (OpenSpec.upto booksReadSpec)) booksReadUptoCard

/-- THE SECOND FORM's CARD OF 'berthinglaw14.BooksApart'. -/
def booksApartUptoCard : Claim7 := { stood := { row := booksApartUptoRow, standIns := [], harness := (true, "355281d3f688359b6fcd0e440390c702de004a1e13fab62ef891e1563ae06f7b"), looks := true }, kinds := [], alts := [], laidByText := true, laidKinds := [.handle], laidTests := true, laidLooks := .later }
def BooksApartUptoCardSaid : Prop := Claim7.holds Tryz.pinned (.plain (OpenSpec.upto booksApartSpec)) booksApartUptoCard
end Rows
end Go.Proofs.YtmpknjlfabpipaaGreatDoor
