/-
  DERIVED. GIVEN WITH THE SEED: THE CARDS: each row of YtcmmfpfdjhfdaaaDoorRows.lean that lists a variable, with what it lists TIED to the program's text (the seventh form; the later family's looks); each row that meets fmt, with fmt's text TOLD by the authors' own Lean function (tested against real Go, not proved from fmt's source: count such statements apart). THE CARD IS WHAT COUNTS. Prove the row's statement (the work); the ties are given (YtcmmfpfdjhfdaaaDoorTie.lean); close each card by the builder's one call (the guide's Derived/Test/ToyasCard.lean, 'card_holds'). Laid BY PROGRAM, IN A SANDBOX (cutbox-door.mjs). By AI agents, Wed Nov 11 2026. No macro, syntax, notation, axiom, sorry.
-/
import Derived.Test.YtcmmfpfdjhfdaaaDoorRows
import GoSem.ClaimSeven
namespace Go.Proofs.YtcmmfpfdjhfdaaaDoor
namespace Rows

/-- THE TIED CARD OF 'berthinglaw08.HealthNames'. -/
def healthNamesCard : Claim7 := { stood := { row := healthNamesRow, standIns := [], harness := (true, "ae674be754290b089a494cfacd1d88e1c953dd7cd797a2983a1eb18bd8b40060"), looks := false }, kinds := [], alts := [], laidByText := true, laidKinds := [.data], laidTests := true, laidLooks := .later }
def HealthNamesCardSaid : Prop := Claim7.holds Tryd.pinned (.plain (OpenSpec.ofChange healthNamesSpec)) healthNamesCard

/-- THE TIED CARD OF 'berthinglaw08.HealthFar'. -/
def healthFarCard : Claim7 := { stood := { row := healthFarRow, standIns := [], harness := (true, "ae674be754290b089a494cfacd1d88e1c953dd7cd797a2983a1eb18bd8b40060"), looks := false }, kinds := [], alts := [], laidByText := true, laidKinds := [.data], laidTests := true, laidLooks := .later }
def HealthFarCardSaid : Prop := Claim7.holds Tryd.pinned (.plain (OpenSpec.ofChange healthFarSpec)) healthFarCard

/-- THE TIED CARD OF 'berthinglaw08.HealthTells'. -/
def healthTellsCard : Claim7 := { stood := { row := healthTellsRow, standIns := [], harness := (true, "ae674be754290b089a494cfacd1d88e1c953dd7cd797a2983a1eb18bd8b40060"), looks := false }, kinds := [], alts := [], laidByText := true, laidKinds := [.data], laidTests := true, laidLooks := .later }
def HealthTellsCardSaid : Prop := Claim7.holds Tryd.pinned (.plain (OpenSpec.ofChange healthTellsSpec)) healthTellsCard

/-- THE SECOND FORM's CARD OF 'berthinglaw08.HealthNames'. -/
def healthNamesUptoCard : Claim7 := { stood := { row := healthNamesUptoRow, standIns := [], harness := (true, "ae674be754290b089a494cfacd1d88e1c953dd7cd797a2983a1eb18bd8b40060"), looks := false }, kinds := [], alts := [], laidByText := true, laidKinds := [.data], laidTests := true, laidLooks := .later }
def HealthNamesUptoCardSaid : Prop := Claim7.holds Tryd.pinned (.plain (OpenSpec.upto healthNamesSpec)) healthNamesUptoCard

/-- THE SECOND FORM's CARD OF 'berthinglaw08.HealthFar'. -/
def healthFarUptoCard : Claim7 := { stood := { row := healthFarUptoRow, standIns := [], harness := (true, "ae674be754290b089a494cfacd1d88e1c953dd7cd797a2983a1eb18bd8b40060"), looks := false }, kinds := [], alts := [], laidByText := true, laidKinds := [.data], laidTests := true, laidLooks := .later }
def HealthFarUptoCardSaid : Prop := Claim7.holds Tryd.pinned (.plain (OpenSpec.upto healthFarSpec)) healthFarUptoCard

/-- THE SECOND FORM's CARD OF 'berthinglaw08.HealthTells'. -/
def healthTellsUptoCard : Claim7 := { stood := { row := healthTellsUptoRow, standIns := [], harness := (true, "ae674be754290b089a494cfacd1d88e1c953dd7cd797a2983a1eb18bd8b40060"), looks := false }, kinds := [], alts := [], laidByText := true, laidKinds := [.data], laidTests := true, laidLooks := .later }
def HealthTellsUptoCardSaid : Prop := Claim7.holds Tryd.pinned (.plain (OpenSpec.upto healthTellsSpec)) healthTellsUptoCard
end Rows
end Go.Proofs.YtcmmfpfdjhfdaaaDoor
