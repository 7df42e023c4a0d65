/-
  DERIVED. GIVEN WITH THE SEED: THE CARDS: each row of YtdamemdfehopeaaDoorRows.lean that lists a variable, with what it lists TIED to the program's text (the seventh form; the later family's looks); each row that meets fmt, with fmt's text TOLD by the authors' own Lean function (tested against real Go, not proved from fmt's source: count such statements apart). THE CARD IS WHAT COUNTS. Prove the row's statement (the work); the ties are given (YtdamemdfehopeaaDoorTie.lean); close each card by the builder's one call (the guide's Derived/Test/ToyasCard.lean, 'card_holds'). Laid BY PROGRAM, IN A SANDBOX (cutbox-door.mjs). By AI agents, Wed Nov 11 2026. No macro, syntax, notation, axiom, sorry.
-/
import Derived.Test.YtdamemdfehopeaaDoorRows
import GoSem.ClaimSeven
namespace Go.Proofs.YtdamemdfehopeaaDoor
namespace Rows

/-- THE TIED CARD OF 'berthinglaw18.ResvReads'. -/
def resvReadsCard : Claim7 := { stood := { row := resvReadsRow, standIns := [], harness := (true, "e290a3ca3f149a849a86c2f2bc9384fb2264b333335e972f13002c1ebf8fdf7c"), looks := true }, kinds := [], alts := [], laidByText := true, laidKinds := [.handle], laidTests := true, laidLooks := .later }
def ResvReadsCardSaid : Prop := Claim7.holds Tryd.pinned (.plain (OpenSpec.ofChange resvReadsSpec)) resvReadsCard

/-- THE TIED CARD OF 'berthinglaw18.ResvBack'. -/
def resvBackCard : Claim7 := { stood := { row := resvBackRow, standIns := [], harness := (true, "e290a3ca3f149a849a86c2f2bc9384fb2264b333335e972f13002c1ebf8fdf7c"), looks := true }, kinds := [], alts := [], laidByText := true, laidKinds := [.handle], laidTests := true, laidLooks := .later }
def ResvBackCardSaid : Prop := Claim7.holds Tryd.pinned (.plain (OpenSpec.ofChange resvBackSpec)) resvBackCard

/-- THE TIED CARD OF 'berthinglaw21.RollTimes'. -/
def rollTimesCard : Claim7 := { stood := { row := rollTimesRow, standIns := [], harness := (true, "e290a3ca3f149a849a86c2f2bc9384fb2264b333335e972f13002c1ebf8fdf7c"), looks := true }, kinds := [], alts := [], laidByText := true, laidKinds := [.data], laidTests := true, laidLooks := .later }
def RollTimesCardSaid : Prop := Claim7.holds Tryd.pinned (.plain (OpenSpec.ofChange rollTimesSpec)) rollTimesCard

/-- THE TIED CARD OF 'berthinglaw21.RollReads'. -/
def rollReadsCard : Claim7 := { stood := { row := rollReadsRow, standIns := [], harness := (true, "e290a3ca3f149a849a86c2f2bc9384fb2264b333335e972f13002c1ebf8fdf7c"), looks := true }, kinds := [], alts := [], laidByText := true, laidKinds := [.data, .handle], laidTests := true, laidLooks := .later }
def RollReadsCardSaid : Prop := Claim7.holds Tryd.pinned (.plain (OpenSpec.ofChange rollReadsSpec)) rollReadsCard

/-- THE SECOND FORM's CARD OF 'berthinglaw18.ResvReads'. -/
def resvReadsUptoCard : Claim7 := { stood := { row := resvReadsUptoRow, standIns := [], harness := (true, "e290a3ca3f149a849a86c2f2bc9384fb2264b333335e972f13002c1ebf8fdf7c"), looks := true }, kinds := [], alts := [], laidByText := true, laidKinds := [.handle], laidTests := true, laidLooks := .later }
def ResvReadsUptoCardSaid : Prop := Claim7.holds Tryd.pinned (.plain (OpenSpec.upto resvReadsSpec)) resvReadsUptoCard

/-- THE SECOND FORM's CARD OF 'berthinglaw18.ResvBack'. -/
def resvBackUptoCard : Claim7 := { stood := { row := resvBackUptoRow, standIns := [], harness := (true, "e290a3ca3f149a849a86c2f2bc9384fb2264b333335e972f13002c1ebf8fdf7c"), looks := true }, kinds := [], alts := [], laidByText := true, laidKinds := [.handle], laidTests := true, laidLooks := .later }
def ResvBackUptoCardSaid : Prop := Claim7.holds Tryd.pinned (.plain (OpenSpec.upto resvBackSpec)) resvBackUptoCard

/-- THE SECOND FORM's CARD OF 'berthinglaw21.RollTimes'. -/
def rollTimesUptoCard : Claim7 := { stood := { row := rollTimesUptoRow, standIns := [], harness := (true, "e290a3ca3f149a849a86c2f2bc9384fb2264b333335e972f13002c1ebf8fdf7c"), looks := true }, kinds := [], alts := [], laidByText := true, laidKinds := [.data], laidTests := true, laidLooks := .later }
def RollTimesUptoCardSaid : Prop := Claim7.holds Tryd.pinned (.plain (OpenSpec.upto rollTimesSpec)) rollTimesUptoCard

/-- THE SECOND FORM's CARD OF 'berthinglaw21.RollReads'. -/
def rollReadsUptoCard : Claim7 := { stood := { row := rollReadsUptoRow, standIns := [], harness := (true, "e290a3ca3f149a849a86c2f2bc9384fb2264b333335e972f13002c1ebf8fdf7c"), looks := true }, kinds := [], alts := [], laidByText := true, laidKinds := [.data, .handle], laidTests := true, laidLooks := .later }
def RollReadsUptoCardSaid : Prop := Claim7.holds Tryd.pinned (.plain (OpenSpec.upto rollReadsSpec)) rollReadsUptoCard
end Rows
end Go.Proofs.YtdamemdfehopeaaDoor
