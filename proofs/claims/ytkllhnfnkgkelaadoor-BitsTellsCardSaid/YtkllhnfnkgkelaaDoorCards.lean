/-
  DERIVED. GIVEN WITH THE SEED: THE CARDS: each row of YtkllhnfnkgkelaaDoorRows.lean that lists a variable, with what it lists TIED to the program's text (the seventh form; the later family's looks); each row that meets fmt, with fmt's text TOLD by the authors' own Lean function (tested against real Go, not proved from fmt's source: count such statements apart). THE CARD IS WHAT COUNTS. Prove the row's statement (the work); the ties are given (YtkllhnfnkgkelaaDoorTie.lean); close each card by the builder's one call (the guide's Derived/Test/ToyasCard.lean, 'card_holds'). Laid BY PROGRAM, IN A SANDBOX (cutbox-door.mjs). By AI agents, Wed Nov 11 2026. No macro, syntax, notation, axiom, sorry.
-/
import Derived.Test.YtkllhnfnkgkelaaDoorRows
import GoSem.ClaimSeven
namespace Go.Proofs.YtkllhnfnkgkelaaDoor
namespace Rows

/-- THE TIED CARD OF 'berthinglaw07.BitsMakes'. -/
def bitsMakesCard : Claim7 := { stood := { row := bitsMakesRow, standIns := [], harness := (true, "3c147952ce2c7bfa432dfcd5c083b8733c5a2a366351ccfbdbb26a44881a0ba9"), looks := false }, kinds := [], alts := [], laidByText := true, laidKinds := [.data, .data, .data], laidTests := true, laidLooks := .later }
def BitsMakesCardSaid : Prop := Claim7.holds Tryd.pinned (.plain (OpenSpec.ofChange bitsMakesSpec)) bitsMakesCard

/-- THE TIED CARD OF 'berthinglaw07.BitsTells'. -/
def bitsTellsCard : Claim7 := { stood := { row := bitsTellsRow, standIns := [], harness := (true, "3c147952ce2c7bfa432dfcd5c083b8733c5a2a366351ccfbdbb26a44881a0ba9"), looks := false }, kinds := [], alts := [], laidByText := true, laidKinds := [.data, .data, .data], laidTests := true, laidLooks := .later }
def BitsTellsCardSaid : Prop := Claim7.holds Tryd.pinned (.plain (OpenSpec.ofChange bitsTellsSpec)) bitsTellsCard

/-- THE TIED CARD OF 'berthinglaw07.BitsSets'. -/
def bitsSetsCard : Claim7 := { stood := { row := bitsSetsRow, standIns := [], harness := (true, "3c147952ce2c7bfa432dfcd5c083b8733c5a2a366351ccfbdbb26a44881a0ba9"), looks := false }, kinds := [], alts := [], laidByText := true, laidKinds := [.data, .data, .data], laidTests := true, laidLooks := .later }
def BitsSetsCardSaid : Prop := Claim7.holds Tryd.pinned (.plain (OpenSpec.ofChange bitsSetsSpec)) bitsSetsCard

/-- THE TIED CARD OF 'berthinglaw07.BitsOrders'. -/
def bitsOrdersCard : Claim7 := { stood := { row := bitsOrdersRow, standIns := [], harness := (true, "3c147952ce2c7bfa432dfcd5c083b8733c5a2a366351ccfbdbb26a44881a0ba9"), looks := false }, kinds := [], alts := [], laidByText := true, laidKinds := [.data, .data, .data], laidTests := true, laidLooks := .later }
def BitsOrdersCardSaid : Prop := Claim7.holds Tryd.pinned (.plain (OpenSpec.ofChange bitsOrdersSpec)) bitsOrdersCard

/-- THE TIED CARD OF 'berthinglaw15.JobTexts'. -/
def jobTextsCard : Claim7 := { stood := { row := jobTextsRow, standIns := [], harness := (true, "3c147952ce2c7bfa432dfcd5c083b8733c5a2a366351ccfbdbb26a44881a0ba9"), looks := false }, kinds := [], alts := [], laidByText := true, laidKinds := [.data], laidTests := true, laidLooks := .later }
def JobTextsCardSaid : Prop := Claim7.holds Tryd.pinned (.plain (OpenSpec.ofChange jobTextsSpec)) jobTextsCard

/-- THE TIED CARD OF 'berthinglaw20.PickChooses'. -/
def pickChoosesCard : Claim7 := { stood := { row := pickChoosesRow, standIns := [], harness := (true, "3c147952ce2c7bfa432dfcd5c083b8733c5a2a366351ccfbdbb26a44881a0ba9"), looks := false }, kinds := [], alts := [], laidByText := true, laidKinds := [.data], laidTests := true, laidLooks := .later }
def PickChoosesCardSaid : Prop := Claim7.holds Tryd.pinned (.plain (OpenSpec.ofChange pickChoosesSpec)) pickChoosesCard

/-- THE TIED CARD OF 'berthinglaw20.PickBest'. -/
def pickBestCard : Claim7 := { stood := { row := pickBestRow, standIns := [], harness := (true, "3c147952ce2c7bfa432dfcd5c083b8733c5a2a366351ccfbdbb26a44881a0ba9"), looks := false }, kinds := [], alts := [], laidByText := true, laidKinds := [.data], laidTests := true, laidLooks := .later }
def PickBestCardSaid : Prop := Claim7.holds Tryd.pinned (.plain (OpenSpec.ofChange pickBestSpec)) pickBestCard

/-- THE TIED CARD OF 'berthinglaw21.RollEnds'. -/
def rollEndsCard : Claim7 := { stood := { row := rollEndsRow, standIns := [], harness := (true, "3c147952ce2c7bfa432dfcd5c083b8733c5a2a366351ccfbdbb26a44881a0ba9"), looks := false }, kinds := [], alts := [], laidByText := true, laidKinds := [.data], laidTests := true, laidLooks := .later }
def RollEndsCardSaid : Prop := Claim7.holds Tryd.pinned (.plain (OpenSpec.ofChange rollEndsSpec)) rollEndsCard

/-- THE SECOND FORM's CARD OF 'berthinglaw07.BitsMakes'. -/
def bitsMakesUptoCard : Claim7 := { stood := { row := bitsMakesUptoRow, standIns := [], harness := (true, "3c147952ce2c7bfa432dfcd5c083b8733c5a2a366351ccfbdbb26a44881a0ba9"), looks := false }, kinds := [], alts := [], laidByText := true, laidKinds := [.data, .data, .data], laidTests := true, laidLooks := .later }
def BitsMakesUptoCardSaid : Prop := Claim7.holds Tryd.pinned (.plain (OpenSpec.upto bitsMakesSpec)) bitsMakesUptoCard

/-- THE SECOND FORM's CARD OF 'berthinglaw07.BitsTells'. -/
def bitsTellsUptoCard : Claim7 := { stood := { row := bitsTellsUptoRow, standIns := [], harness := (true, "3c147952ce2c7bfa432dfcd5c083b8733c5a2a366351ccfbdbb26a44881a0ba9"), looks := false }, kinds := [], alts := [], laidByText := true, laidKinds := [.data, .data, .data], laidTests := true, laidLooks := .later }
def BitsTellsUptoCardSaid : Prop := Claim7.holds Tryd.pinned (.plain (OpenSpec.upto bitsTellsSpec)) bitsTellsUptoCard

/-- THE SECOND FORM's CARD OF 'berthinglaw07.BitsSets'. -/
def bitsSetsUptoCard : Claim7 := { stood := { row := bitsSetsUptoRow, standIns := [], harness := (true, "3c147952ce2c7bfa432dfcd5c083b8733c5a2a366351ccfbdbb26a44881a0ba9"), looks := false }, kinds := [], alts := [], laidByText := true, laidKinds := [.data, .data, .data], laidTests := true, laidLooks := .later }
def BitsSetsUptoCardSaid : Prop := Claim7.holds Tryd.pinned (.plain (OpenSpec.upto bitsSetsSpec)) bitsSetsUptoCard

/-- THE SECOND FORM's CARD OF 'berthinglaw07.BitsOrders'. -/
def bitsOrdersUptoCard : Claim7 := { stood := { row := bitsOrdersUptoRow, standIns := [], harness := (true, "3c147952ce2c7bfa432dfcd5c083b8733c5a2a366351ccfbdbb26a44881a0ba9"), looks := false }, kinds := [], alts := [], laidByText := true, laidKinds := [.data, .data, .data], laidTests := true, laidLooks := .later }
def BitsOrdersUptoCardSaid : Prop := Claim7.holds Tryd.pinned (.plain (OpenSpec.upto bitsOrdersSpec)) bitsOrdersUptoCard

/-- THE SECOND FORM's CARD OF 'berthinglaw15.JobTexts'. -/
def jobTextsUptoCard : Claim7 := { stood := { row := jobTextsUptoRow, standIns := [], harness := (true, "3c147952ce2c7bfa432dfcd5c083b8733c5a2a366351ccfbdbb26a44881a0ba9"), looks := false }, kinds := [], alts := [], laidByText := true, laidKinds := [.data], laidTests := true, laidLooks := .later }
def JobTextsUptoCardSaid : Prop := Claim7.holds Tryd.pinned (.plain (OpenSpec.upto jobTextsSpec)) jobTextsUptoCard

/-- THE SECOND FORM's CARD OF 'berthinglaw20.PickChooses'. -/
def pickChoosesUptoCard : Claim7 := { stood := { row := pickChoosesUptoRow, standIns := [], harness := (true, "3c147952ce2c7bfa432dfcd5c083b8733c5a2a366351ccfbdbb26a44881a0ba9"), looks := false }, kinds := [], alts := [], laidByText := true, laidKinds := [.data], laidTests := true, laidLooks := .later }
def PickChoosesUptoCardSaid : Prop := Claim7.holds Tryd.pinned (.plain (OpenSpec.upto pickChoosesSpec)) pickChoosesUptoCard

/-- THE SECOND FORM's CARD OF 'berthinglaw20.PickBest'. -/
def pickBestUptoCard : Claim7 := { stood := { row := pickBestUptoRow, standIns := [], harness := (true, "3c147952ce2c7bfa432dfcd5c083b8733c5a2a366351ccfbdbb26a44881a0ba9"), looks := false }, kinds := [], alts := [], laidByText := true, laidKinds := [.data], laidTests := true, laidLooks := .later }
def PickBestUptoCardSaid : Prop := Claim7.holds Tryd.pinned (.plain (OpenSpec.upto pickBestSpec)) pickBestUptoCard

/-- THE SECOND FORM's CARD OF 'berthinglaw21.RollEnds'. -/
def rollEndsUptoCard : Claim7 := { stood := { row := rollEndsUptoRow, standIns := [], harness := (true, "3c147952ce2c7bfa432dfcd5c083b8733c5a2a366351ccfbdbb26a44881a0ba9"), looks := false }, kinds := [], alts := [], laidByText := true, laidKinds := [.data], laidTests := true, laidLooks := .later }
def RollEndsUptoCardSaid : Prop := Claim7.holds Tryd.pinned (.plain (OpenSpec.upto rollEndsSpec)) rollEndsUptoCard
end Rows
end Go.Proofs.YtkllhnfnkgkelaaDoor
