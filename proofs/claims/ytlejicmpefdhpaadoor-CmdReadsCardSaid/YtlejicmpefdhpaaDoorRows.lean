/-
  NARROWER THAN 'FOR EVERY INPUT', by the rows' own cells (each row's printed sentence says how): CmdTells: laid · CmdReads: laid · CmdBack: laid · CmdReplies: laid · CmdNames: laid · CmdAlters: laid.
  DERIVED. THE GIVEN ROWS OF THIS SEAT. 6 by the template 'for every input the law returns true; each argument reads behind the call as it read before'; 0 by the template 'total and deterministic' (their statements: YtlejicmpefdhpaaDoorTotals.lean).
  GIVEN WITH THE SEED: the statements are not yours to turn. If you find one false, say at which input.
  Laid BY PROGRAM, IN A SANDBOX (cutbox-rows.mjs): the forced cells as the released guide's own fill.sh prints them over the translation efa86aaa74356f53… (all of the seat's roots in one cut). By AI agents, Wed Nov 11 2026. No macro, syntax, notation, axiom, sorry.
-/
import Derived.Test.YtlejicmpefdhpaaDoorChecked
import GoSem.Claim
import GoSem.ClaimJoined
import GoSem.ClaimMapViews
import Derived.JoinedTies
import Derived.KernelRfl
namespace Go.Proofs.YtlejicmpefdhpaaDoor
/- THE CELL 'sum', in the pinned program and in every row, IS THE sha256 OF THE DUMP (.gsa) THAT YtlejicmpefdhpaaDoorProg.lean LOADS. Nothing in Lean hashes anything: it is a label: what it is worth is what the hold of that sum in a sandbox is worth. -/
noncomputable def Tryd.pinned : Pinned := { name := "ytlejicmpefdhpaadoor", sum := "efa86aaa74356f534eec92c34d9fdec3cdf353683e3fa43a525a4a01149160b0", checked := Tryd.checked }
namespace Rows
def none {H : Type} : Left H := { results := [], args := [] }

/- WHAT THE LISTED PACKAGE-LEVEL VARIABLES READ AS WHEN THE CALL BEGINS. Each datum BY PROGRAM (the guide's laid-datum.mjs) off the statement by which the dump's own 'gosem.cut.vars' lays the variable. In a bare row this is a premise. The card (YtlejicmpefdhpaaDoorCards.lean) ties it to the program's text. -/
def laid_errors_errorType {H : Type} : DataW H := .iface "internal/reflectlite.rtype" (.agg [.ptr (.lit (.string [101, 114, 114, 111, 114]))])
def laid_berthing_cmd_names {H : Type} : DataW H := .agg [.lit (.string []), .lit (.string [115, 117, 98, 109, 105, 116]), .lit (.string [99, 97, 110, 99, 101, 108]), .lit (.string [104, 111, 108, 100]), .lit (.string [114, 101, 108, 101, 97, 115, 101]), .lit (.string [108, 105, 109, 105, 116]), .lit (.string [114, 101, 115, 101, 114, 118, 101]), .lit (.string [117, 110, 114, 101, 115, 101, 114, 118, 101]), .lit (.string [100, 114, 97, 105, 110]), .lit (.string [117, 110, 100, 114, 97, 105, 110]), .lit (.string [116, 105, 99, 107]), .lit (.string [116, 101, 108, 108]), .lit (.string [101, 120, 105, 116])]

/-- 'berthinglaw22.CmdTells': WHATEVER THE INPUT: true; the input reads as it did. -/
def cmdTellsSpec : ChangeSpec := { name := "cmdTells", fn := fun _ => fun
  | [d] => { results := [.lit (.bool true)], args := [d] }
  | _ => none }
def cmdTellsRow : OpenClaim := { program := "ytlejicmpefdhpaadoor", sum := "efa86aaa74356f534eec92c34d9fdec3cdf353683e3fa43a525a4a01149160b0", func := "berthing/berthinglaw22.CmdTells", spec := "cmdTells", inPlace := ["internal/reflectlite.ValueOf", "(internal/reflectlite.Value).Type", "(internal/reflectlite.Value).IsNil", "internal/reflectlite.TypeOf", "(internal/reflectlite.Value).Elem", "(internal/reflectlite.Value).Set"], unfollowed := true, recurses := true, named := ["errors.errorType", "berthing/cmd.names"], apart := false, laid := [("errors.errorType", laid_errors_errorType), ("berthing/cmd.names", laid_berthing_cmd_names)] }
def CmdTellsSaid : Prop := cmdTellsRow.holds Tryd.pinned (OpenSpec.ofChange cmdTellsSpec)

/-- ITS FALSE NEIGHBOUR: 'it returns false'. Refute it at one input. -/
def cmdTellsWrong : ChangeSpec := { name := "cmdTells", fn := fun _ => fun
  | [d] => { results := [.lit (.bool false)], args := [d] }
  | _ => none }
def CmdTellsWrongFalsely : Prop := cmdTellsRow.holds Tryd.pinned (OpenSpec.ofChange cmdTellsWrong)

/-- 'berthinglaw22.CmdReads': WHATEVER THE INPUT: true; the input reads as it did. -/
def cmdReadsSpec : ChangeSpec := { name := "cmdReads", fn := fun _ => fun
  | [d] => { results := [.lit (.bool true)], args := [d] }
  | _ => none }
def cmdReadsRow : OpenClaim := { program := "ytlejicmpefdhpaadoor", sum := "efa86aaa74356f534eec92c34d9fdec3cdf353683e3fa43a525a4a01149160b0", func := "berthing/berthinglaw22.CmdReads", spec := "cmdReads", inPlace := ["internal/reflectlite.ValueOf", "(internal/reflectlite.Value).Type", "(internal/reflectlite.Value).IsNil", "internal/reflectlite.TypeOf", "(internal/reflectlite.Value).Elem", "(internal/reflectlite.Value).Set"], unfollowed := true, recurses := true, named := ["errors.errorType", "berthing/cmd.names"], apart := false, laid := [("errors.errorType", laid_errors_errorType), ("berthing/cmd.names", laid_berthing_cmd_names)] }
def CmdReadsSaid : Prop := cmdReadsRow.holds Tryd.pinned (OpenSpec.ofChange cmdReadsSpec)

/-- ITS FALSE NEIGHBOUR: 'it returns false'. Refute it at one input. -/
def cmdReadsWrong : ChangeSpec := { name := "cmdReads", fn := fun _ => fun
  | [d] => { results := [.lit (.bool false)], args := [d] }
  | _ => none }
def CmdReadsWrongFalsely : Prop := cmdReadsRow.holds Tryd.pinned (OpenSpec.ofChange cmdReadsWrong)

/-- 'berthinglaw22.CmdBack': WHATEVER THE INPUT: true; the input reads as it did. -/
def cmdBackSpec : ChangeSpec := { name := "cmdBack", fn := fun _ => fun
  | [d1, d2] => { results := [.lit (.bool true)], args := [d1, d2] }
  | _ => none }
def cmdBackRow : OpenClaim := { program := "ytlejicmpefdhpaadoor", sum := "efa86aaa74356f534eec92c34d9fdec3cdf353683e3fa43a525a4a01149160b0", func := "berthing/berthinglaw22.CmdBack", spec := "cmdBack", inPlace := ["internal/reflectlite.ValueOf", "(internal/reflectlite.Value).Type", "(internal/reflectlite.Value).IsNil", "internal/reflectlite.TypeOf", "(internal/reflectlite.Value).Elem", "(internal/reflectlite.Value).Set"], unfollowed := true, recurses := true, named := ["errors.errorType", "berthing/cmd.names"], apart := false, laid := [("errors.errorType", laid_errors_errorType), ("berthing/cmd.names", laid_berthing_cmd_names)] }
def CmdBackSaid : Prop := cmdBackRow.holds Tryd.pinned (OpenSpec.ofChange cmdBackSpec)

/-- ITS FALSE NEIGHBOUR: 'it returns false'. Refute it at one input. -/
def cmdBackWrong : ChangeSpec := { name := "cmdBack", fn := fun _ => fun
  | [d1, d2] => { results := [.lit (.bool false)], args := [d1, d2] }
  | _ => none }
def CmdBackWrongFalsely : Prop := cmdBackRow.holds Tryd.pinned (OpenSpec.ofChange cmdBackWrong)

/-- 'berthinglaw22.CmdReplies': WHATEVER THE INPUT: true; the input reads as it did. -/
def cmdRepliesSpec : ChangeSpec := { name := "cmdReplies", fn := fun _ => fun
  | [d1, d2] => { results := [.lit (.bool true)], args := [d1, d2] }
  | _ => none }
def cmdRepliesRow : OpenClaim := { program := "ytlejicmpefdhpaadoor", sum := "efa86aaa74356f534eec92c34d9fdec3cdf353683e3fa43a525a4a01149160b0", func := "berthing/berthinglaw22.CmdReplies", spec := "cmdReplies", inPlace := ["internal/reflectlite.ValueOf", "(internal/reflectlite.Value).Type", "(internal/reflectlite.Value).IsNil", "internal/reflectlite.TypeOf", "(internal/reflectlite.Value).Elem", "(internal/reflectlite.Value).Set"], unfollowed := true, recurses := true, named := ["errors.errorType", "berthing/cmd.names"], apart := false, laid := [("errors.errorType", laid_errors_errorType), ("berthing/cmd.names", laid_berthing_cmd_names)] }
def CmdRepliesSaid : Prop := cmdRepliesRow.holds Tryd.pinned (OpenSpec.ofChange cmdRepliesSpec)

/-- ITS FALSE NEIGHBOUR: 'it returns false'. Refute it at one input. -/
def cmdRepliesWrong : ChangeSpec := { name := "cmdReplies", fn := fun _ => fun
  | [d1, d2] => { results := [.lit (.bool false)], args := [d1, d2] }
  | _ => none }
def CmdRepliesWrongFalsely : Prop := cmdRepliesRow.holds Tryd.pinned (OpenSpec.ofChange cmdRepliesWrong)

/-- 'berthinglaw22.CmdNames': WHATEVER THE INPUT: true; the input reads as it did. -/
def cmdNamesSpec : ChangeSpec := { name := "cmdNames", fn := fun _ => fun
  | [d1, d2] => { results := [.lit (.bool true)], args := [d1, d2] }
  | _ => none }
def cmdNamesRow : OpenClaim := { program := "ytlejicmpefdhpaadoor", sum := "efa86aaa74356f534eec92c34d9fdec3cdf353683e3fa43a525a4a01149160b0", func := "berthing/berthinglaw22.CmdNames", spec := "cmdNames", inPlace := ["internal/reflectlite.ValueOf", "(internal/reflectlite.Value).Type", "(internal/reflectlite.Value).IsNil", "internal/reflectlite.TypeOf", "(internal/reflectlite.Value).Elem", "(internal/reflectlite.Value).Set"], unfollowed := true, recurses := true, named := ["berthing/cmd.names", "errors.errorType"], apart := false, laid := [("errors.errorType", laid_errors_errorType), ("berthing/cmd.names", laid_berthing_cmd_names)] }
def CmdNamesSaid : Prop := cmdNamesRow.holds Tryd.pinned (OpenSpec.ofChange cmdNamesSpec)

/-- ITS FALSE NEIGHBOUR: 'it returns false'. Refute it at one input. -/
def cmdNamesWrong : ChangeSpec := { name := "cmdNames", fn := fun _ => fun
  | [d1, d2] => { results := [.lit (.bool false)], args := [d1, d2] }
  | _ => none }
def CmdNamesWrongFalsely : Prop := cmdNamesRow.holds Tryd.pinned (OpenSpec.ofChange cmdNamesWrong)

/-- 'berthinglaw22.CmdAlters': WHATEVER THE INPUT: true; the input reads as it did. -/
def cmdAltersSpec : ChangeSpec := { name := "cmdAlters", fn := fun _ => fun
  | [d1, d2] => { results := [.lit (.bool true)], args := [d1, d2] }
  | _ => none }
def cmdAltersRow : OpenClaim := { program := "ytlejicmpefdhpaadoor", sum := "efa86aaa74356f534eec92c34d9fdec3cdf353683e3fa43a525a4a01149160b0", func := "berthing/berthinglaw22.CmdAlters", spec := "cmdAlters", inPlace := ["internal/reflectlite.ValueOf", "(internal/reflectlite.Value).Type", "(internal/reflectlite.Value).IsNil", "internal/reflectlite.TypeOf", "(internal/reflectlite.Value).Elem", "(internal/reflectlite.Value).Set"], unfollowed := true, recurses := true, named := ["errors.errorType", "berthing/cmd.names"], apart := false, laid := [("errors.errorType", laid_errors_errorType), ("berthing/cmd.names", laid_berthing_cmd_names)] }
def CmdAltersSaid : Prop := cmdAltersRow.holds Tryd.pinned (OpenSpec.ofChange cmdAltersSpec)

/-- ITS FALSE NEIGHBOUR: 'it returns false'. Refute it at one input. -/
def cmdAltersWrong : ChangeSpec := { name := "cmdAlters", fn := fun _ => fun
  | [d1, d2] => { results := [.lit (.bool false)], args := [d1, d2] }
  | _ => none }
def CmdAltersWrongFalsely : Prop := cmdAltersRow.holds Tryd.pinned (OpenSpec.ofChange cmdAltersWrong)

/- THE SECOND FORM. 'bulk': how many values and letters a reading holds, each counted each time it is reached (what is shared counts as often as it is met; a slice's spare places count too). A statement '..UptoSaid' is the law's where the arguments, and the package variables that the reading takes, are together of bulk at most 1048576: NARROWER than '..Said'. Prove '..Said' where nothing that the law and all that it calls make is longer than what came in: it says more and counts as full. Else prove '..UptoSaid'. A law counts once. -/
mutual
def uptoBulk {H : Type} : DataW H → Nat
  | .lit (.string bytes) => bytes.length + 1
  | .lit _ => 1
  | .nil => 1
  | .ptr d => uptoBulk d + 1
  | .slice elems spare => uptoBulkAll elems + uptoBulkAll spare + 1
  | .agg parts => uptoBulkAll parts + 1
  | .iface _ d => uptoBulk d + 1
  | .map entries => uptoBulkEntries entries + 1
  | .held _ => 1
def uptoBulkAll {H : Type} : List (DataW H) → Nat
  | [] => 0
  | d :: r => uptoBulk d + uptoBulkAll r
def uptoBulkEntries {H : Type} : List (Lit × DataW H) → Nat
  | [] => 0
  | x :: r => uptoBulkEntry x + uptoBulkEntries r
def uptoBulkEntry {H : Type} : Lit × DataW H → Nat
  | (.string bytes, d) => bytes.length + uptoBulk d + 1
  | (_, d) => uptoBulk d + 1
 end
def uptoSmall : (H : Type) → List (DataW H) → Bool := fun _ ds => decide (uptoBulkAll ds ≤ 1048576)
def OpenSpec.upto (s : _root_.Go.ChangeSpec) : _root_.Go.OpenSpec := { _root_.Go.OpenSpec.ofChange s with cond := some uptoSmall }

/-- 'berthinglaw22.CmdTells', WHERE WHAT IT READS IS OF BULK AT MOST 1048576: true; the input reads as it did. -/
def cmdTellsUptoRow : OpenClaim := { program := "ytlejicmpefdhpaadoor", sum := "efa86aaa74356f534eec92c34d9fdec3cdf353683e3fa43a525a4a01149160b0", func := "berthing/berthinglaw22.CmdTells", spec := "cmdTells", inPlace := ["internal/reflectlite.ValueOf", "(internal/reflectlite.Value).Type", "(internal/reflectlite.Value).IsNil", "internal/reflectlite.TypeOf", "(internal/reflectlite.Value).Elem", "(internal/reflectlite.Value).Set"], unfollowed := true, recurses := true, named := ["errors.errorType", "berthing/cmd.names"], apart := false, laid := [("errors.errorType", laid_errors_errorType), ("berthing/cmd.names", laid_berthing_cmd_names)], narrowed := true }
def CmdTellsUptoSaid : Prop := cmdTellsUptoRow.holds Tryd.pinned (OpenSpec.upto cmdTellsSpec)

/-- 'berthinglaw22.CmdReads', WHERE WHAT IT READS IS OF BULK AT MOST 1048576: true; the input reads as it did. -/
def cmdReadsUptoRow : OpenClaim := { program := "ytlejicmpefdhpaadoor", sum := "efa86aaa74356f534eec92c34d9fdec3cdf353683e3fa43a525a4a01149160b0", func := "berthing/berthinglaw22.CmdReads", spec := "cmdReads", inPlace := ["internal/reflectlite.ValueOf", "(internal/reflectlite.Value).Type", "(internal/reflectlite.Value).IsNil", "internal/reflectlite.TypeOf", "(internal/reflectlite.Value).Elem", "(internal/reflectlite.Value).Set"], unfollowed := true, recurses := true, named := ["errors.errorType", "berthing/cmd.names"], apart := false, laid := [("errors.errorType", laid_errors_errorType), ("berthing/cmd.names", laid_berthing_cmd_names)], narrowed := true }
def CmdReadsUptoSaid : Prop := cmdReadsUptoRow.holds Tryd.pinned (OpenSpec.upto cmdReadsSpec)

/-- 'berthinglaw22.CmdBack', WHERE WHAT IT READS IS OF BULK AT MOST 1048576: true; the input reads as it did. -/
def cmdBackUptoRow : OpenClaim := { program := "ytlejicmpefdhpaadoor", sum := "efa86aaa74356f534eec92c34d9fdec3cdf353683e3fa43a525a4a01149160b0", func := "berthing/berthinglaw22.CmdBack", spec := "cmdBack", inPlace := ["internal/reflectlite.ValueOf", "(internal/reflectlite.Value).Type", "(internal/reflectlite.Value).IsNil", "internal/reflectlite.TypeOf", "(internal/reflectlite.Value).Elem", "(internal/reflectlite.Value).Set"], unfollowed := true, recurses := true, named := ["errors.errorType", "berthing/cmd.names"], apart := false, laid := [("errors.errorType", laid_errors_errorType), ("berthing/cmd.names", laid_berthing_cmd_names)], narrowed := true }
def CmdBackUptoSaid : Prop := cmdBackUptoRow.holds Tryd.pinned (OpenSpec.upto cmdBackSpec)

/-- 'berthinglaw22.CmdReplies', WHERE WHAT IT READS IS OF BULK AT MOST 1048576: true; the input reads as it did. -/
def cmdRepliesUptoRow : OpenClaim := { program := "ytlejicmpefdhpaadoor", sum := "efa86aaa74356f534eec92c34d9fdec3cdf353683e3fa43a525a4a01149160b0", func := "berthing/berthinglaw22.CmdReplies", spec := "cmdReplies", inPlace := ["internal/reflectlite.ValueOf", "(internal/reflectlite.Value).Type", "(internal/reflectlite.Value).IsNil", "internal/reflectlite.TypeOf", "(internal/reflectlite.Value).Elem", "(internal/reflectlite.Value).Set"], unfollowed := true, recurses := true, named := ["errors.errorType", "berthing/cmd.names"], apart := false, laid := [("errors.errorType", laid_errors_errorType), ("berthing/cmd.names", laid_berthing_cmd_names)], narrowed := true }
def CmdRepliesUptoSaid : Prop := cmdRepliesUptoRow.holds Tryd.pinned (OpenSpec.upto cmdRepliesSpec)

/-- 'berthinglaw22.CmdNames', WHERE WHAT IT READS IS OF BULK AT MOST 1048576: true; the input reads as it did. -/
def cmdNamesUptoRow : OpenClaim := { program := "ytlejicmpefdhpaadoor", sum := "efa86aaa74356f534eec92c34d9fdec3cdf353683e3fa43a525a4a01149160b0", func := "berthing/berthinglaw22.CmdNames", spec := "cmdNames", inPlace := ["internal/reflectlite.ValueOf", "(internal/reflectlite.Value).Type", "(internal/reflectlite.Value).IsNil", "internal/reflectlite.TypeOf", "(internal/reflectlite.Value).Elem", "(internal/reflectlite.Value).Set"], unfollowed := true, recurses := true, named := ["berthing/cmd.names", "errors.errorType"], apart := false, laid := [("errors.errorType", laid_errors_errorType), ("berthing/cmd.names", laid_berthing_cmd_names)], narrowed := true }
def CmdNamesUptoSaid : Prop := cmdNamesUptoRow.holds Tryd.pinned (OpenSpec.upto cmdNamesSpec)

/-- 'berthinglaw22.CmdAlters', WHERE WHAT IT READS IS OF BULK AT MOST 1048576: true; the input reads as it did. -/
def cmdAltersUptoRow : OpenClaim := { program := "ytlejicmpefdhpaadoor", sum := "efa86aaa74356f534eec92c34d9fdec3cdf353683e3fa43a525a4a01149160b0", func := "berthing/berthinglaw22.CmdAlters", spec := "cmdAlters", inPlace := ["internal/reflectlite.ValueOf", "(internal/reflectlite.Value).Type", "(internal/reflectlite.Value).IsNil", "internal/reflectlite.TypeOf", "(internal/reflectlite.Value).Elem", "(internal/reflectlite.Value).Set"], unfollowed := true, recurses := true, named := ["errors.errorType", "berthing/cmd.names"], apart := false, laid := [("errors.errorType", laid_errors_errorType), ("berthing/cmd.names", laid_berthing_cmd_names)], narrowed := true }
def CmdAltersUptoSaid : Prop := cmdAltersUptoRow.holds Tryd.pinned (OpenSpec.upto cmdAltersSpec)

end Rows
end Go.Proofs.YtlejicmpefdhpaaDoor
