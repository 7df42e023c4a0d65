/-
  NARROWER THAN 'FOR EVERY INPUT', by the rows' own cells (each row's printed sentence says how): HealthNames: laid · HealthFar: laid · HealthTells: laid.
  DERIVED. THE GIVEN ROWS OF THIS SEAT. 3 by the template 'for every input the law returns true; each argument reads behind the call as it read before'; 0 by the template 'total and deterministic' (their statements: YtcmmfpfdjhfdaaaDoorTotals.lean).
  GIVEN WITH THE SEED: the statements are not yours to turn. If you find one false, say at which input.
  Laid BY PROGRAM, IN A SANDBOX (cutbox-rows.mjs): the forced cells as the released guide's own fill.sh prints them over the translation dd0ee3aa2b02f5a3… (all of the seat's roots in one cut). By AI agents, Wed Nov 11 2026. No macro, syntax, notation, axiom, sorry.
-/
import Derived.Test.YtcmmfpfdjhfdaaaDoorChecked
import GoSem.Claim
import GoSem.ClaimJoined
import GoSem.ClaimMapViews
import Derived.JoinedTies
import Derived.KernelRfl
namespace Go.Proofs.YtcmmfpfdjhfdaaaDoor
/- THE CELL 'sum', in the pinned program and in every row, IS THE sha256 OF THE DUMP (.gsa) THAT YtcmmfpfdjhfdaaaDoorProg.lean LOADS. Nothing in Lean hashes anything: it is a label: what it is worth is what the hold of that sum in a sandbox is worth. -/
noncomputable def Tryd.pinned : Pinned := { name := "ytcmmfpfdjhfdaaadoor", sum := "dd0ee3aa2b02f5a3fcc32bf61986c50987f25e8171bda2de856899cb8a726302", checked := Tryd.checked }
namespace Rows
def none {H : Type} : Left H := { results := [], args := [] }

/- WHAT THE LISTED PACKAGE-LEVEL VARIABLES READ AS WHEN THE CALL BEGINS. Each datum BY PROGRAM (the guide's laid-datum.mjs) off the statement by which the dump's own 'gosem.cut.vars' lays the variable. In a bare row this is a premise. The card (YtcmmfpfdjhfdaaaDoorCards.lean) ties it to the program's text. -/
def laid_berthing_health_names {H : Type} : DataW H := .agg [.lit (.string [117, 112]), .lit (.string [115, 117, 115, 112, 101, 99, 116]), .lit (.string [100, 111, 119, 110]), .lit (.string [100, 114, 97, 105, 110]), .lit (.string [114, 101, 112, 97, 105, 114])]

/-- 'berthinglaw08.HealthNames': WHATEVER THE INPUT: true; the input reads as it did. -/
def healthNamesSpec : ChangeSpec := { name := "healthNames", fn := fun _ => fun
  | [d1, d2] => { results := [.lit (.bool true)], args := [d1, d2] }
  | _ => none }
def healthNamesRow : OpenClaim := { program := "ytcmmfpfdjhfdaaadoor", sum := "dd0ee3aa2b02f5a3fcc32bf61986c50987f25e8171bda2de856899cb8a726302", func := "berthing/berthinglaw08.HealthNames", spec := "healthNames", named := ["berthing/health.names"], apart := false, laid := [("berthing/health.names", laid_berthing_health_names)] }
def HealthNamesSaid : Prop := healthNamesRow.holds Tryd.pinned (OpenSpec.ofChange healthNamesSpec)

/-- ITS FALSE NEIGHBOUR: 'it returns false'. Refute it at one input. -/
def healthNamesWrong : ChangeSpec := { name := "healthNames", fn := fun _ => fun
  | [d1, d2] => { results := [.lit (.bool false)], args := [d1, d2] }
  | _ => none }
def HealthNamesWrongFalsely : Prop := healthNamesRow.holds Tryd.pinned (OpenSpec.ofChange healthNamesWrong)

/-- 'berthinglaw08.HealthFar': WHATEVER THE INPUT: true; the input reads as it did. -/
def healthFarSpec : ChangeSpec := { name := "healthFar", fn := fun _ => fun
  | [d1, d2] => { results := [.lit (.bool true)], args := [d1, d2] }
  | _ => none }
def healthFarRow : OpenClaim := { program := "ytcmmfpfdjhfdaaadoor", sum := "dd0ee3aa2b02f5a3fcc32bf61986c50987f25e8171bda2de856899cb8a726302", func := "berthing/berthinglaw08.HealthFar", spec := "healthFar", named := ["berthing/health.names"], apart := false, laid := [("berthing/health.names", laid_berthing_health_names)] }
def HealthFarSaid : Prop := healthFarRow.holds Tryd.pinned (OpenSpec.ofChange healthFarSpec)

/-- ITS FALSE NEIGHBOUR: 'it returns false'. Refute it at one input. -/
def healthFarWrong : ChangeSpec := { name := "healthFar", fn := fun _ => fun
  | [d1, d2] => { results := [.lit (.bool false)], args := [d1, d2] }
  | _ => none }
def HealthFarWrongFalsely : Prop := healthFarRow.holds Tryd.pinned (OpenSpec.ofChange healthFarWrong)

/-- 'berthinglaw08.HealthTells': WHATEVER THE INPUT: true; the input reads as it did. -/
def healthTellsSpec : ChangeSpec := { name := "healthTells", fn := fun _ => fun
  | [d1, d2, d3] => { results := [.lit (.bool true)], args := [d1, d2, d3] }
  | _ => none }
def healthTellsRow : OpenClaim := { program := "ytcmmfpfdjhfdaaadoor", sum := "dd0ee3aa2b02f5a3fcc32bf61986c50987f25e8171bda2de856899cb8a726302", func := "berthing/berthinglaw08.HealthTells", spec := "healthTells", named := ["berthing/health.names"], apart := false, laid := [("berthing/health.names", laid_berthing_health_names)] }
def HealthTellsSaid : Prop := healthTellsRow.holds Tryd.pinned (OpenSpec.ofChange healthTellsSpec)

/-- ITS FALSE NEIGHBOUR: 'it returns false'. Refute it at one input. -/
def healthTellsWrong : ChangeSpec := { name := "healthTells", fn := fun _ => fun
  | [d1, d2, d3] => { results := [.lit (.bool false)], args := [d1, d2, d3] }
  | _ => none }
def HealthTellsWrongFalsely : Prop := healthTellsRow.holds Tryd.pinned (OpenSpec.ofChange healthTellsWrong)

/- THE SECOND FORM. 'bulk': how many values and letters a reading holds, each counted each time it is reached (what is shared counts as often as it is met; a slice's spare places count too). A statement '..UptoSaid' is the law's where the arguments, and the package variables that the reading takes, are together of bulk at most 1048576: NARROWER than '..Said'. Prove '..Said' where nothing that the law and all that it calls make is longer than what came in: it says more and counts as full. Else prove '..UptoSaid'. A law counts once. -/
mutual
def uptoBulk {H : Type} : DataW H → Nat
  | .lit (.string bytes) => bytes.length + 1
  | .lit _ => 1
  | .nil => 1
  | .ptr d => uptoBulk d + 1
  | .slice elems spare => uptoBulkAll elems + uptoBulkAll spare + 1
  | .agg parts => uptoBulkAll parts + 1
  | .iface _ d => uptoBulk d + 1
  | .map entries => uptoBulkEntries entries + 1
  | .held _ => 1
def uptoBulkAll {H : Type} : List (DataW H) → Nat
  | [] => 0
  | d :: r => uptoBulk d + uptoBulkAll r
def uptoBulkEntries {H : Type} : List (Lit × DataW H) → Nat
  | [] => 0
  | x :: r => uptoBulkEntry x + uptoBulkEntries r
def uptoBulkEntry {H : Type} : Lit × DataW H → Nat
  | (.string bytes, d) => bytes.length + uptoBulk d + 1
  | (_, d) => uptoBulk d + 1
 end
def uptoSmall : (H : Type) → List (DataW H) → Bool := fun _ ds => decide (uptoBulkAll ds ≤ 1048576)
def OpenSpec.upto (s : _root_.Go.ChangeSpec) : _root_.Go.OpenSpec := { _root_.Go.OpenSpec.ofChange s with cond := some uptoSmall }

/-- 'berthinglaw08.HealthNames', WHERE WHAT IT READS IS OF BULK AT MOST 1048576: true; the input reads as it did. -/
def healthNamesUptoRow : OpenClaim := { program := "ytcmmfpfdjhfdaaadoor", sum := "dd0ee3aa2b02f5a3fcc32bf61986c50987f25e8171bda2de856899cb8a726302", func := "berthing/berthinglaw08.HealthNames", spec := "healthNames", named := ["berthing/health.names"], apart := false, laid := [("berthing/health.names", laid_berthing_health_names)], narrowed := true }
def HealthNamesUptoSaid : Prop := healthNamesUptoRow.holds Tryd.pinned (OpenSpec.upto healthNamesSpec)

/-- 'berthinglaw08.HealthFar', WHERE WHAT IT READS IS OF BULK AT MOST 1048576: true; the input reads as it did. -/
def healthFarUptoRow : OpenClaim := { program := "ytcmmfpfdjhfdaaadoor", sum := "dd0ee3aa2b02f5a3fcc32bf61986c50987f25e8171bda2de856899cb8a726302", func := "berthing/berthinglaw08.HealthFar", spec := "healthFar", named := ["berthing/health.names"], apart := false, laid := [("berthing/health.names", laid_berthing_health_names)], narrowed := true }
def HealthFarUptoSaid : Prop := healthFarUptoRow.holds Tryd.pinned (OpenSpec.upto healthFarSpec)

/-- 'berthinglaw08.HealthTells', WHERE WHAT IT READS IS OF BULK AT MOST 1048576: true; the input reads as it did. -/
def healthTellsUptoRow : OpenClaim := { program := "ytcmmfpfdjhfdaaadoor", sum := "dd0ee3aa2b02f5a3fcc32bf61986c50987f25e8171bda2de856899cb8a726302", func := "berthing/berthinglaw08.HealthTells", spec := "healthTells", named := ["berthing/health.names"], apart := false, laid := [("berthing/health.names", laid_berthing_health_names)], narrowed := true }
def HealthTellsUptoSaid : Prop := healthTellsUptoRow.holds Tryd.pinned (OpenSpec.upto healthTellsSpec)

end Rows
end Go.Proofs.YtcmmfpfdjhfdaaaDoor
