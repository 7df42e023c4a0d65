/-
  DERIVED. GIVEN WITH THE SEED: THE CARDS: each row of YtgeldpfojmkdbaaDoorRows.lean that lists a variable, with what it lists TIED to the program's text (the seventh form; the later family's looks); each row that meets fmt, with fmt's text TOLD by the authors' own Lean function (tested against real Go, not proved from fmt's source: count such statements apart). THE CARD IS WHAT COUNTS. Prove the row's statement (the work); the ties are given (YtgeldpfojmkdbaaDoorTie.lean); close each card by the builder's one call (the guide's Derived/Test/ToyasCard.lean, 'card_holds'). Laid BY PROGRAM, IN A SANDBOX (cutbox-door.mjs). By AI agents, Wed Nov 11 2026. No macro, syntax, notation, axiom, sorry.
-/
import Derived.Test.YtgeldpfojmkdbaaDoorRows
import GoSem.ClaimSeven
namespace Go.Proofs.YtgeldpfojmkdbaaDoor
namespace Rows

/-- THE TIED CARD OF 'berthinglaw15.JobReads'. -/
def jobReadsCard : Claim7 := { stood := { row := jobReadsRow, standIns := [], harness := (true, "a0bf1f21cabff1ef1dd1a70a18e7d581ca8a361e550c3bd4634a8e205b836395"), looks := true }, kinds := [], alts := [], laidByText := true, laidKinds := [.handle], laidTests := true, laidLooks := .later }
def JobReadsCardSaid : Prop := Claim7.holds Tryd.pinned (.plain (OpenSpec.ofChange jobReadsSpec)) jobReadsCard

/-- THE TIED CARD OF 'berthinglaw15.JobRight'. -/
def jobRightCard : Claim7 := { stood := { row := jobRightRow, standIns := [], harness := (true, "a0bf1f21cabff1ef1dd1a70a18e7d581ca8a361e550c3bd4634a8e205b836395"), looks := true }, kinds := [], alts := [], laidByText := true, laidKinds := [.handle], laidTests := true, laidLooks := .later }
def JobRightCardSaid : Prop := Claim7.holds Tryd.pinned (.plain (OpenSpec.ofChange jobRightSpec)) jobRightCard

/-- THE SECOND FORM's CARD OF 'berthinglaw15.JobReads'. -/
def jobReadsUptoCard : Claim7 := { stood := { row := jobReadsUptoRow, standIns := [], harness := (true, "a0bf1f21cabff1ef1dd1a70a18e7d581ca8a361e550c3bd4634a8e205b836395"), looks := true }, kinds := [], alts := [], laidByText := true, laidKinds := [.handle], laidTests := true, laidLooks := .later }
def JobReadsUptoCardSaid : Prop := Claim7.holds Tryd.pinned (.plain (OpenSpec.upto jobReadsSpec)) jobReadsUptoCard

/-- THE SECOND FORM's CARD OF 'berthinglaw15.JobRight'. -/
def jobRightUptoCard : Claim7 := { stood := { row := jobRightUptoRow, standIns := [], harness := (true, "a0bf1f21cabff1ef1dd1a70a18e7d581ca8a361e550c3bd4634a8e205b836395"), looks := true }, kinds := [], alts := [], laidByText := true, laidKinds := [.handle], laidTests := true, laidLooks := .later }
def JobRightUptoCardSaid : Prop := Claim7.holds Tryd.pinned (.plain (OpenSpec.upto jobRightSpec)) jobRightUptoCard
end Rows
end Go.Proofs.YtgeldpfojmkdbaaDoor
