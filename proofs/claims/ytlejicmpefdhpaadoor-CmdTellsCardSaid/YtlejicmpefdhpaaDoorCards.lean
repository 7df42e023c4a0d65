/-
  DERIVED. GIVEN WITH THE SEED: THE CARDS: each row of YtlejicmpefdhpaaDoorRows.lean that lists a variable, with what it lists TIED to the program's text (the seventh form; the later family's looks); each row that meets fmt, with fmt's text TOLD by the authors' own Lean function (tested against real Go, not proved from fmt's source: count such statements apart). THE CARD IS WHAT COUNTS. Prove the row's statement (the work); the ties are given (YtlejicmpefdhpaaDoorTie.lean); close each card by the builder's one call (the guide's Derived/Test/ToyasCard.lean, 'card_holds'). Laid BY PROGRAM, IN A SANDBOX (cutbox-door.mjs). By AI agents, Wed Nov 11 2026. No macro, syntax, notation, axiom, sorry.
-/
import Derived.Test.YtlejicmpefdhpaaDoorRows
import GoSem.ClaimSeven
namespace Go.Proofs.YtlejicmpefdhpaaDoor
namespace Rows

/-- THE TIED CARD OF 'berthinglaw22.CmdTells'. -/
def cmdTellsCard : Claim7 := { stood := { row := cmdTellsRow, standIns := [], harness := (true, "84cd399e150b5f69bd0b100ae6875a06f3118974ea60869b2ce357bb0e351c90"), looks := true }, kinds := [], alts := [], laidByText := true, laidKinds := [.handle, .data], laidTests := true, laidLooks := .later }
def CmdTellsCardSaid : Prop := Claim7.holds Tryd.pinned (.plain (OpenSpec.ofChange cmdTellsSpec)) cmdTellsCard

/-- THE TIED CARD OF 'berthinglaw22.CmdReads'. -/
def cmdReadsCard : Claim7 := { stood := { row := cmdReadsRow, standIns := [], harness := (true, "84cd399e150b5f69bd0b100ae6875a06f3118974ea60869b2ce357bb0e351c90"), looks := true }, kinds := [], alts := [], laidByText := true, laidKinds := [.handle, .data], laidTests := true, laidLooks := .later }
def CmdReadsCardSaid : Prop := Claim7.holds Tryd.pinned (.plain (OpenSpec.ofChange cmdReadsSpec)) cmdReadsCard

/-- THE TIED CARD OF 'berthinglaw22.CmdBack'. -/
def cmdBackCard : Claim7 := { stood := { row := cmdBackRow, standIns := [], harness := (true, "84cd399e150b5f69bd0b100ae6875a06f3118974ea60869b2ce357bb0e351c90"), looks := true }, kinds := [], alts := [], laidByText := true, laidKinds := [.handle, .data], laidTests := true, laidLooks := .later }
def CmdBackCardSaid : Prop := Claim7.holds Tryd.pinned (.plain (OpenSpec.ofChange cmdBackSpec)) cmdBackCard

/-- THE TIED CARD OF 'berthinglaw22.CmdReplies'. -/
def cmdRepliesCard : Claim7 := { stood := { row := cmdRepliesRow, standIns := [], harness := (true, "84cd399e150b5f69bd0b100ae6875a06f3118974ea60869b2ce357bb0e351c90"), looks := true }, kinds := [], alts := [], laidByText := true, laidKinds := [.handle, .data], laidTests := true, laidLooks := .later }
def CmdRepliesCardSaid : Prop := Claim7.holds Tryd.pinned (.plain (OpenSpec.ofChange cmdRepliesSpec)) cmdRepliesCard

/-- THE TIED CARD OF 'berthinglaw22.CmdNames'. -/
def cmdNamesCard : Claim7 := { stood := { row := cmdNamesRow, standIns := [], harness := (true, "84cd399e150b5f69bd0b100ae6875a06f3118974ea60869b2ce357bb0e351c90"), looks := true }, kinds := [], alts := [], laidByText := true, laidKinds := [.handle, .data], laidTests := true, laidLooks := .later }
def CmdNamesCardSaid : Prop := Claim7.holds Tryd.pinned (.plain (OpenSpec.ofChange cmdNamesSpec)) cmdNamesCard

/-- THE TIED CARD OF 'berthinglaw22.CmdAlters'. -/
def cmdAltersCard : Claim7 := { stood := { row := cmdAltersRow, standIns := [], harness := (true, "84cd399e150b5f69bd0b100ae6875a06f3118974ea60869b2ce357bb0e351c90"), looks := true }, kinds := [], alts := [], laidByText := true, laidKinds := [.handle, .data], laidTests := true, laidLooks := .later }
def CmdAltersCardSaid : Prop := Claim7.holds Tryd.pinned (.plain (OpenSpec.ofChange cmdAltersSpec)) cmdAltersCard

/-- THE SECOND FORM's CARD OF 'berthinglaw22.CmdTells'. -/
def cmdTellsUptoCard : Claim7 := { stood := { row := cmdTellsUptoRow, standIns := [], harness := (true, "84cd399e150b5f69bd0b100ae6875a06f3118974ea60869b2ce357bb0e351c90"), looks := true }, kinds := [], alts := [], laidByText := true, laidKinds := [.handle, .data], laidTests := true, laidLooks := .later }
def CmdTellsUptoCardSaid : Prop := Claim7.holds Tryd.pinned (.plain (OpenSpec.upto cmdTellsSpec)) cmdTellsUptoCard

/-- THE SECOND FORM's CARD OF 'berthinglaw22.CmdReads'. -/
def cmdReadsUptoCard : Claim7 := { stood := { row := cmdReadsUptoRow, standIns := [], harness := (true, "84cd399e150b5f69bd0b100ae6875a06f3118974ea60869b2ce357bb0e351c90"), looks := true }, kinds := [], alts := [], laidByText := true, laidKinds := [.handle, .data], laidTests := true, laidLooks := .later }
def CmdReadsUptoCardSaid : Prop := Claim7.holds Tryd.pinned (.plain (OpenSpec.upto cmdReadsSpec)) cmdReadsUptoCard

/-- THE SECOND FORM's CARD OF 'berthinglaw22.CmdBack'. -/
def cmdBackUptoCard : Claim7 := { stood := { row := cmdBackUptoRow, standIns := [], harness := (true, "84cd399e150b5f69bd0b100ae6875a06f3118974ea60869b2ce357bb0e351c90"), looks := true }, kinds := [], alts := [], laidByText := true, laidKinds := [.handle, .data], laidTests := true, laidLooks := .later }
def CmdBackUptoCardSaid : Prop := Claim7.holds Tryd.pinned (.plain (OpenSpec.upto cmdBackSpec)) cmdBackUptoCard

/-- THE SECOND FORM's CARD OF 'berthinglaw22.CmdReplies'. -/
def cmdRepliesUptoCard : Claim7 := { stood := { row := cmdRepliesUptoRow, standIns := [], harness := (true, "84cd399e150b5f69bd0b100ae6875a06f3118974ea60869b2ce357bb0e351c90"), looks := true }, kinds := [], alts := [], laidByText := true, laidKinds := [.handle, .data], laidTests := true, laidLooks := .later }
def CmdRepliesUptoCardSaid : Prop := Claim7.holds Tryd.pinned (.plain (OpenSpec.upto cmdRepliesSpec)) cmdRepliesUptoCard

/-- THE SECOND FORM's CARD OF 'berthinglaw22.CmdNames'. -/
def cmdNamesUptoCard : Claim7 := { stood := { row := cmdNamesUptoRow, standIns := [], harness := (true, "84cd399e150b5f69bd0b100ae6875a06f3118974ea60869b2ce357bb0e351c90"), looks := true }, kinds := [], alts := [], laidByText := true, laidKinds := [.handle, .data], laidTests := true, laidLooks := .later }
def CmdNamesUptoCardSaid : Prop := Claim7.holds Tryd.pinned (.plain (OpenSpec.upto cmdNamesSpec)) cmdNamesUptoCard

/-- THE SECOND FORM's CARD OF 'berthinglaw22.CmdAlters'. -/
def cmdAltersUptoCard : Claim7 := { stood := { row := cmdAltersUptoRow, standIns := [], harness := (true, "84cd399e150b5f69bd0b100ae6875a06f3118974ea60869b2ce357bb0e351c90"), looks := true }, kinds := [], alts := [], laidByText := true, laidKinds := [.handle, .data], laidTests := true, laidLooks := .later }
def CmdAltersUptoCardSaid : Prop := Claim7.holds Tryd.pinned (.plain (OpenSpec.upto cmdAltersSpec)) cmdAltersUptoCard
end Rows
end Go.Proofs.YtlejicmpefdhpaaDoor
