/-
  DERIVED. GIVEN WITH THE SEED: THE CARDS: each row of YtnofgffkfapodaaDoorRows.lean that lists a variable, with what it lists TIED to the program's text (the seventh form; the later family's looks); each row that meets fmt, with fmt's text TOLD by the authors' own Lean function (tested against real Go, not proved from fmt's source: count such statements apart). THE CARD IS WHAT COUNTS. Prove the row's statement (the work); the ties are given (YtnofgffkfapodaaDoorTie.lean); close each card by the builder's one call (the guide's Derived/Test/ToyasCard.lean, 'card_holds'). Laid BY PROGRAM, IN A SANDBOX (cutbox-door.mjs). By AI agents, Wed Nov 11 2026. No macro, syntax, notation, axiom, sorry.
-/
import Derived.Test.YtnofgffkfapodaaDoorRows
import GoSem.ClaimSeven
namespace Go.Proofs.YtnofgffkfapodaaDoor
namespace Rows

/-- THE TIED CARD OF 'berthinglaw09.FleetPlays'. -/
def fleetPlaysCard : Claim7 := { stood := { row := fleetPlaysRow, standIns := [], harness := (true, "6d3be96fb3ee3c31f17c7a17e3e9fd236c9e91f5e0a1d6591d41ca336da45bd2"), looks := true }, kinds := [], alts := [], laidByText := true, laidKinds := [.data], laidTests := true, laidLooks := .later }
def FleetPlaysCardSaid : Prop := Claim7.holds Tryd.pinned (.plain (OpenSpec.ofChange fleetPlaysSpec)) fleetPlaysCard

/-- THE TIED CARD OF 'berthinglaw09.FleetReads'. -/
def fleetReadsCard : Claim7 := { stood := { row := fleetReadsRow, standIns := [], harness := (true, "6d3be96fb3ee3c31f17c7a17e3e9fd236c9e91f5e0a1d6591d41ca336da45bd2"), looks := true }, kinds := [], alts := [], laidByText := true, laidKinds := [.data, .handle], laidTests := true, laidLooks := .later }
def FleetReadsCardSaid : Prop := Claim7.holds Tryd.pinned (.plain (OpenSpec.ofChange fleetReadsSpec)) fleetReadsCard

/-- THE TIED CARD OF 'berthinglaw09.FleetSpares'. -/
def fleetSparesCard : Claim7 := { stood := { row := fleetSparesRow, standIns := [], harness := (true, "6d3be96fb3ee3c31f17c7a17e3e9fd236c9e91f5e0a1d6591d41ca336da45bd2"), looks := true }, kinds := [], alts := [], laidByText := true, laidKinds := [.data, .handle], laidTests := true, laidLooks := .later }
def FleetSparesCardSaid : Prop := Claim7.holds Tryd.pinned (.plain (OpenSpec.ofChange fleetSparesSpec)) fleetSparesCard

/-- THE TIED CARD OF 'berthinglaw09.FleetNobody'. -/
def fleetNobodyCard : Claim7 := { stood := { row := fleetNobodyRow, standIns := [], harness := (true, "6d3be96fb3ee3c31f17c7a17e3e9fd236c9e91f5e0a1d6591d41ca336da45bd2"), looks := true }, kinds := [], alts := [], laidByText := true, laidKinds := [.data], laidTests := true, laidLooks := .later }
def FleetNobodyCardSaid : Prop := Claim7.holds Tryd.pinned (.plain (OpenSpec.ofChange fleetNobodySpec)) fleetNobodyCard

/-- THE TIED CARD OF 'berthinglaw09.FleetFails'. -/
def fleetFailsCard : Claim7 := { stood := { row := fleetFailsRow, standIns := [], harness := (true, "6d3be96fb3ee3c31f17c7a17e3e9fd236c9e91f5e0a1d6591d41ca336da45bd2"), looks := true }, kinds := [], alts := [], laidByText := true, laidKinds := [.data], laidTests := true, laidLooks := .later }
def FleetFailsCardSaid : Prop := Claim7.holds Tryd.pinned (.plain (OpenSpec.ofChange fleetFailsSpec)) fleetFailsCard

/-- THE SECOND FORM's CARD OF 'berthinglaw09.FleetPlays'. -/
def fleetPlaysUptoCard : Claim7 := { stood := { row := fleetPlaysUptoRow, standIns := [], harness := (true, "6d3be96fb3ee3c31f17c7a17e3e9fd236c9e91f5e0a1d6591d41ca336da45bd2"), looks := true }, kinds := [], alts := [], laidByText := true, laidKinds := [.data], laidTests := true, laidLooks := .later }
def FleetPlaysUptoCardSaid : Prop := Claim7.holds Tryd.pinned (.plain (OpenSpec.upto fleetPlaysSpec)) fleetPlaysUptoCard

/-- THE SECOND FORM's CARD OF 'berthinglaw09.FleetReads'. -/
def fleetReadsUptoCard : Claim7 := { stood := { row := fleetReadsUptoRow, standIns := [], harness := (true, "6d3be96fb3ee3c31f17c7a17e3e9fd236c9e91f5e0a1d6591d41ca336da45bd2"), looks := true }, kinds := [], alts := [], laidByText := true, laidKinds := [.data, .handle], laidTests := true, laidLooks := .later }
def FleetReadsUptoCardSaid : Prop := Claim7.holds Tryd.pinned (.plain (OpenSpec.upto fleetReadsSpec)) fleetReadsUptoCard

/-- THE SECOND FORM's CARD OF 'berthinglaw09.FleetSpares'. -/
def fleetSparesUptoCard : Claim7 := { stood := { row := fleetSparesUptoRow, standIns := [], harness := (true, "6d3be96fb3ee3c31f17c7a17e3e9fd236c9e91f5e0a1d6591d41ca336da45bd2"), looks := true }, kinds := [], alts := [], laidByText := true, laidKinds := [.data, .handle], laidTests := true, laidLooks := .later }
def FleetSparesUptoCardSaid : Prop := Claim7.holds Tryd.pinned (.plain (OpenSpec.upto fleetSparesSpec)) fleetSparesUptoCard

/-- THE SECOND FORM's CARD OF 'berthinglaw09.FleetNobody'. -/
def fleetNobodyUptoCard : Claim7 := { stood := { row := fleetNobodyUptoRow, standIns := [], harness := (true, "6d3be96fb3ee3c31f17c7a17e3e9fd236c9e91f5e0a1d6591d41ca336da45bd2"), looks := true }, kinds := [], alts := [], laidByText := true, laidKinds := [.data], laidTests := true, laidLooks := .later }
def FleetNobodyUptoCardSaid : Prop := Claim7.holds Tryd.pinned (.plain (OpenSpec.upto fleetNobodySpec)) fleetNobodyUptoCard

/-- THE SECOND FORM's CARD OF 'berthinglaw09.FleetFails'. -/
def fleetFailsUptoCard : Claim7 := { stood := { row := fleetFailsUptoRow, standIns := [], harness := (true, "6d3be96fb3ee3c31f17c7a17e3e9fd236c9e91f5e0a1d6591d41ca336da45bd2"), looks := true }, kinds := [], alts := [], laidByText := true, laidKinds := [.data], laidTests := true, laidLooks := .later }
def FleetFailsUptoCardSaid : Prop := Claim7.holds Tryd.pinned (.plain (OpenSpec.upto fleetFailsSpec)) fleetFailsUptoCard
end Rows
end Go.Proofs.YtnofgffkfapodaaDoor
