/-
  No cell of these rows narrows 'for every input' (looked for: loops, veiled, ifaces, maps, wideKeys, modest, calm, conditions, laid).
  DERIVED. THE GIVEN ROWS OF THIS SEAT. 8 by the template 'for every input the law returns true; each argument reads behind the call as it read before'; 0 by the template 'total and deterministic' (their statements: YtbhnjmdlagjfbaaTotals.lean).
  GIVEN WITH THE SEED: the statements are not yours to turn. If you find one false, say at which input.
  Laid BY PROGRAM, IN A SANDBOX (cutbox-rows.mjs): the forced cells as the released guide's own fill.sh prints them over the translation b18ce048f2d0aeb9… (all of the seat's roots in one cut). By AI agents, Wed Nov 11 2026. No macro, syntax, notation, axiom, sorry.
-/
import Derived.Test.YtbhnjmdlagjfbaaChecked
import GoSem.Claim
import GoSem.ClaimJoined
import GoSem.ClaimMapViews
import Derived.JoinedTies
import Derived.KernelRfl
namespace Go.Proofs.Ytbhnjmdlagjfbaa
/- THE CELL 'sum', in the pinned program and in every row, IS THE sha256 OF THE DUMP (.gsa) THAT YtbhnjmdlagjfbaaProg.lean LOADS. Nothing in Lean hashes anything: it is a label: what it is worth is what the hold of that sum in a sandbox is worth. -/
noncomputable def Try.pinned : Pinned := { name := "ytbhnjmdlagjfbaa", sum := "b18ce048f2d0aeb9fd822d1a8921afafb718f1e763c2d35eef9419a7db57afc8", checked := Try.checked }
namespace Rows
def none {H : Type} : Left H := { results := [], args := [] }

/-- 'berthinglaw18.ResvPlays': WHATEVER THE INPUT: true; the input reads as it did. -/
def resvPlaysSpec : ChangeSpec := { name := "resvPlays", fn := fun _ => fun
  | [d1, d2, d3] => { results := [.lit (.bool true)], args := [d1, d2, d3] }
  | _ => none }
def resvPlaysRow : OpenClaim := { program := "ytbhnjmdlagjfbaa", sum := "b18ce048f2d0aeb9fd822d1a8921afafb718f1e763c2d35eef9419a7db57afc8", func := "berthing/berthinglaw18.ResvPlays", spec := "resvPlays", unfollowed := true, recurses := true, apart := false }
def ResvPlaysSaid : Prop := resvPlaysRow.holds Try.pinned (OpenSpec.ofChange resvPlaysSpec)

/-- ITS FALSE NEIGHBOUR: 'it returns false'. Refute it at one input. -/
def resvPlaysWrong : ChangeSpec := { name := "resvPlays", fn := fun _ => fun
  | [d1, d2, d3] => { results := [.lit (.bool false)], args := [d1, d2, d3] }
  | _ => none }
def ResvPlaysWrongFalsely : Prop := resvPlaysRow.holds Try.pinned (OpenSpec.ofChange resvPlaysWrong)

/-- 'berthinglaw19.PlanNobody': WHATEVER THE INPUT: true; the input reads as it did. -/
def planNobodySpec : ChangeSpec := { name := "planNobody", fn := fun _ => fun
  | [d] => { results := [.lit (.bool true)], args := [d] }
  | _ => none }
def planNobodyRow : OpenClaim := { program := "ytbhnjmdlagjfbaa", sum := "b18ce048f2d0aeb9fd822d1a8921afafb718f1e763c2d35eef9419a7db57afc8", func := "berthing/berthinglaw19.PlanNobody", spec := "planNobody", unfollowed := true, recurses := true, apart := false }
def PlanNobodySaid : Prop := planNobodyRow.holds Try.pinned (OpenSpec.ofChange planNobodySpec)

/-- ITS FALSE NEIGHBOUR: 'it returns false'. Refute it at one input. -/
def planNobodyWrong : ChangeSpec := { name := "planNobody", fn := fun _ => fun
  | [d] => { results := [.lit (.bool false)], args := [d] }
  | _ => none }
def PlanNobodyWrongFalsely : Prop := planNobodyRow.holds Try.pinned (OpenSpec.ofChange planNobodyWrong)

/-- 'berthinglaw19.PlanTells': WHATEVER THE INPUT: true; the input reads as it did. -/
def planTellsSpec : ChangeSpec := { name := "planTells", fn := fun _ => fun
  | [d1, d2] => { results := [.lit (.bool true)], args := [d1, d2] }
  | _ => none }
def planTellsRow : OpenClaim := { program := "ytbhnjmdlagjfbaa", sum := "b18ce048f2d0aeb9fd822d1a8921afafb718f1e763c2d35eef9419a7db57afc8", func := "berthing/berthinglaw19.PlanTells", spec := "planTells", unfollowed := true, recurses := true, apart := false }
def PlanTellsSaid : Prop := planTellsRow.holds Try.pinned (OpenSpec.ofChange planTellsSpec)

/-- ITS FALSE NEIGHBOUR: 'it returns false'. Refute it at one input. -/
def planTellsWrong : ChangeSpec := { name := "planTells", fn := fun _ => fun
  | [d1, d2] => { results := [.lit (.bool false)], args := [d1, d2] }
  | _ => none }
def PlanTellsWrongFalsely : Prop := planTellsRow.holds Try.pinned (OpenSpec.ofChange planTellsWrong)

/-- 'berthinglaw19.PlanKeeps': WHATEVER THE INPUT: true; the input reads as it did. -/
def planKeepsSpec : ChangeSpec := { name := "planKeeps", fn := fun _ => fun
  | [d1, d2, d3] => { results := [.lit (.bool true)], args := [d1, d2, d3] }
  | _ => none }
def planKeepsRow : OpenClaim := { program := "ytbhnjmdlagjfbaa", sum := "b18ce048f2d0aeb9fd822d1a8921afafb718f1e763c2d35eef9419a7db57afc8", func := "berthing/berthinglaw19.PlanKeeps", spec := "planKeeps", unfollowed := true, recurses := true, apart := false }
def PlanKeepsSaid : Prop := planKeepsRow.holds Try.pinned (OpenSpec.ofChange planKeepsSpec)

/-- ITS FALSE NEIGHBOUR: 'it returns false'. Refute it at one input. -/
def planKeepsWrong : ChangeSpec := { name := "planKeeps", fn := fun _ => fun
  | [d1, d2, d3] => { results := [.lit (.bool false)], args := [d1, d2, d3] }
  | _ => none }
def PlanKeepsWrongFalsely : Prop := planKeepsRow.holds Try.pinned (OpenSpec.ofChange planKeepsWrong)

/-- 'berthinglaw19.PlanRoom': WHATEVER THE INPUT: true; the input reads as it did. -/
def planRoomSpec : ChangeSpec := { name := "planRoom", fn := fun _ => fun
  | [d1, d2, d3] => { results := [.lit (.bool true)], args := [d1, d2, d3] }
  | _ => none }
def planRoomRow : OpenClaim := { program := "ytbhnjmdlagjfbaa", sum := "b18ce048f2d0aeb9fd822d1a8921afafb718f1e763c2d35eef9419a7db57afc8", func := "berthing/berthinglaw19.PlanRoom", spec := "planRoom", unfollowed := true, recurses := true, apart := false }
def PlanRoomSaid : Prop := planRoomRow.holds Try.pinned (OpenSpec.ofChange planRoomSpec)

/-- ITS FALSE NEIGHBOUR: 'it returns false'. Refute it at one input. -/
def planRoomWrong : ChangeSpec := { name := "planRoom", fn := fun _ => fun
  | [d1, d2, d3] => { results := [.lit (.bool false)], args := [d1, d2, d3] }
  | _ => none }
def PlanRoomWrongFalsely : Prop := planRoomRow.holds Try.pinned (OpenSpec.ofChange planRoomWrong)

/-- 'berthinglaw19.PlanIssues': WHATEVER THE INPUT: true; the input reads as it did. -/
def planIssuesSpec : ChangeSpec := { name := "planIssues", fn := fun _ => fun
  | [d1, d2, d3] => { results := [.lit (.bool true)], args := [d1, d2, d3] }
  | _ => none }
def planIssuesRow : OpenClaim := { program := "ytbhnjmdlagjfbaa", sum := "b18ce048f2d0aeb9fd822d1a8921afafb718f1e763c2d35eef9419a7db57afc8", func := "berthing/berthinglaw19.PlanIssues", spec := "planIssues", unfollowed := true, recurses := true, apart := false }
def PlanIssuesSaid : Prop := planIssuesRow.holds Try.pinned (OpenSpec.ofChange planIssuesSpec)

/-- ITS FALSE NEIGHBOUR: 'it returns false'. Refute it at one input. -/
def planIssuesWrong : ChangeSpec := { name := "planIssues", fn := fun _ => fun
  | [d1, d2, d3] => { results := [.lit (.bool false)], args := [d1, d2, d3] }
  | _ => none }
def PlanIssuesWrongFalsely : Prop := planIssuesRow.holds Try.pinned (OpenSpec.ofChange planIssuesWrong)

/-- 'berthinglaw13.PrioSorts': WHATEVER THE INPUT: true; the input reads as it did. -/
def prioSortsSpec : ChangeSpec := { name := "prioSorts", fn := fun _ => fun
  | [d] => { results := [.lit (.bool true)], args := [d] }
  | _ => none }
def prioSortsRow : OpenClaim := { program := "ytbhnjmdlagjfbaa", sum := "b18ce048f2d0aeb9fd822d1a8921afafb718f1e763c2d35eef9419a7db57afc8", func := "berthing/berthinglaw13.PrioSorts", spec := "prioSorts", unfollowed := true, recurses := true, apart := false }
def PrioSortsSaid : Prop := prioSortsRow.holds Try.pinned (OpenSpec.ofChange prioSortsSpec)

/-- ITS FALSE NEIGHBOUR: 'it returns false'. Refute it at one input. -/
def prioSortsWrong : ChangeSpec := { name := "prioSorts", fn := fun _ => fun
  | [d] => { results := [.lit (.bool false)], args := [d] }
  | _ => none }
def PrioSortsWrongFalsely : Prop := prioSortsRow.holds Try.pinned (OpenSpec.ofChange prioSortsWrong)

/-- 'berthinglaw13.PrioKeeps': WHATEVER THE INPUT: true; the input reads as it did. -/
def prioKeepsSpec : ChangeSpec := { name := "prioKeeps", fn := fun _ => fun
  | [d1, d2] => { results := [.lit (.bool true)], args := [d1, d2] }
  | _ => none }
def prioKeepsRow : OpenClaim := { program := "ytbhnjmdlagjfbaa", sum := "b18ce048f2d0aeb9fd822d1a8921afafb718f1e763c2d35eef9419a7db57afc8", func := "berthing/berthinglaw13.PrioKeeps", spec := "prioKeeps", unfollowed := true, recurses := true, apart := false }
def PrioKeepsSaid : Prop := prioKeepsRow.holds Try.pinned (OpenSpec.ofChange prioKeepsSpec)

/-- ITS FALSE NEIGHBOUR: 'it returns false'. Refute it at one input. -/
def prioKeepsWrong : ChangeSpec := { name := "prioKeeps", fn := fun _ => fun
  | [d1, d2] => { results := [.lit (.bool false)], args := [d1, d2] }
  | _ => none }
def PrioKeepsWrongFalsely : Prop := prioKeepsRow.holds Try.pinned (OpenSpec.ofChange prioKeepsWrong)

/- THE SECOND FORM. 'bulk': how many values and letters a reading holds, each counted each time it is reached (what is shared counts as often as it is met; a slice's spare places count too). A statement '..UptoSaid' is the law's where the arguments, and the package variables that the reading takes, are together of bulk at most 1048576: NARROWER than '..Said'. Prove '..Said' where nothing that the law and all that it calls make is longer than what came in: it says more and counts as full. Else prove '..UptoSaid'. A law counts once. -/
mutual
def uptoBulk {H : Type} : DataW H → Nat
  | .lit (.string bytes) => bytes.length + 1
  | .lit _ => 1
  | .nil => 1
  | .ptr d => uptoBulk d + 1
  | .slice elems spare => uptoBulkAll elems + uptoBulkAll spare + 1
  | .agg parts => uptoBulkAll parts + 1
  | .iface _ d => uptoBulk d + 1
  | .map entries => uptoBulkEntries entries + 1
  | .held _ => 1
def uptoBulkAll {H : Type} : List (DataW H) → Nat
  | [] => 0
  | d :: r => uptoBulk d + uptoBulkAll r
def uptoBulkEntries {H : Type} : List (Lit × DataW H) → Nat
  | [] => 0
  | x :: r => uptoBulkEntry x + uptoBulkEntries r
def uptoBulkEntry {H : Type} : Lit × DataW H → Nat
  | (.string bytes, d) => bytes.length + uptoBulk d + 1
  | (_, d) => uptoBulk d + 1
 end
def uptoSmall : (H : Type) → List (DataW H) → Bool := fun _ ds => decide (uptoBulkAll ds ≤ 1048576)
def OpenSpec.upto (s : _root_.Go.ChangeSpec) : _root_.Go.OpenSpec := { _root_.Go.OpenSpec.ofChange s with cond := some uptoSmall }

/-- 'berthinglaw18.ResvPlays', WHERE WHAT IT READS IS OF BULK AT MOST 1048576: true; the input reads as it did. -/
def resvPlaysUptoRow : OpenClaim := { program := "ytbhnjmdlagjfbaa", sum := "b18ce048f2d0aeb9fd822d1a8921afafb718f1e763c2d35eef9419a7db57afc8", func := "berthing/berthinglaw18.ResvPlays", spec := "resvPlays", unfollowed := true, recurses := true, apart := false, narrowed := true }
def ResvPlaysUptoSaid : Prop := resvPlaysUptoRow.holds Try.pinned (OpenSpec.upto resvPlaysSpec)

/-- 'berthinglaw19.PlanNobody', WHERE WHAT IT READS IS OF BULK AT MOST 1048576: true; the input reads as it did. -/
def planNobodyUptoRow : OpenClaim := { program := "ytbhnjmdlagjfbaa", sum := "b18ce048f2d0aeb9fd822d1a8921afafb718f1e763c2d35eef9419a7db57afc8", func := "berthing/berthinglaw19.PlanNobody", spec := "planNobody", unfollowed := true, recurses := true, apart := false, narrowed := true }
def PlanNobodyUptoSaid : Prop := planNobodyUptoRow.holds Try.pinned (OpenSpec.upto planNobodySpec)

/-- 'berthinglaw19.PlanTells', WHERE WHAT IT READS IS OF BULK AT MOST 1048576: true; the input reads as it did. -/
def planTellsUptoRow : OpenClaim := { program := "ytbhnjmdlagjfbaa", sum := "b18ce048f2d0aeb9fd822d1a8921afafb718f1e763c2d35eef9419a7db57afc8", func := "berthing/berthinglaw19.PlanTells", spec := "planTells", unfollowed := true, recurses := true, apart := false, narrowed := true }
def PlanTellsUptoSaid : Prop := planTellsUptoRow.holds Try.pinned (OpenSpec.upto planTellsSpec)

/-- 'berthinglaw19.PlanKeeps', WHERE WHAT IT READS IS OF BULK AT MOST 1048576: true; the input reads as it did. -/
def planKeepsUptoRow : OpenClaim := { program := "ytbhnjmdlagjfbaa", sum := "b18ce048f2d0aeb9fd822d1a8921afafb718f1e763c2d35eef9419a7db57afc8", func := "berthing/berthinglaw19.PlanKeeps", spec := "planKeeps", unfollowed := true, recurses := true, apart := false, narrowed := true }
def PlanKeepsUptoSaid : Prop := planKeepsUptoRow.holds Try.pinned (OpenSpec.upto planKeepsSpec)

/-- 'berthinglaw19.PlanRoom', WHERE WHAT IT READS IS OF BULK AT MOST 1048576: true; the input reads as it did. -/
def planRoomUptoRow : OpenClaim := { program := "ytbhnjmdlagjfbaa", sum := "b18ce048f2d0aeb9fd822d1a8921afafb718f1e763c2d35eef9419a7db57afc8", func := "berthing/berthinglaw19.PlanRoom", spec := "planRoom", unfollowed := true, recurses := true, apart := false, narrowed := true }
def PlanRoomUptoSaid : Prop := planRoomUptoRow.holds Try.pinned (OpenSpec.upto planRoomSpec)

/-- 'berthinglaw19.PlanIssues', WHERE WHAT IT READS IS OF BULK AT MOST 1048576: true; the input reads as it did. -/
def planIssuesUptoRow : OpenClaim := { program := "ytbhnjmdlagjfbaa", sum := "b18ce048f2d0aeb9fd822d1a8921afafb718f1e763c2d35eef9419a7db57afc8", func := "berthing/berthinglaw19.PlanIssues", spec := "planIssues", unfollowed := true, recurses := true, apart := false, narrowed := true }
def PlanIssuesUptoSaid : Prop := planIssuesUptoRow.holds Try.pinned (OpenSpec.upto planIssuesSpec)

/-- 'berthinglaw13.PrioSorts', WHERE WHAT IT READS IS OF BULK AT MOST 1048576: true; the input reads as it did. -/
def prioSortsUptoRow : OpenClaim := { program := "ytbhnjmdlagjfbaa", sum := "b18ce048f2d0aeb9fd822d1a8921afafb718f1e763c2d35eef9419a7db57afc8", func := "berthing/berthinglaw13.PrioSorts", spec := "prioSorts", unfollowed := true, recurses := true, apart := false, narrowed := true }
def PrioSortsUptoSaid : Prop := prioSortsUptoRow.holds Try.pinned (OpenSpec.upto prioSortsSpec)

/-- 'berthinglaw13.PrioKeeps', WHERE WHAT IT READS IS OF BULK AT MOST 1048576: true; the input reads as it did. -/
def prioKeepsUptoRow : OpenClaim := { program := "ytbhnjmdlagjfbaa", sum := "b18ce048f2d0aeb9fd822d1a8921afafb718f1e763c2d35eef9419a7db57afc8", func := "berthing/berthinglaw13.PrioKeeps", spec := "prioKeeps", unfollowed := true, recurses := true, apart := false, narrowed := true }
def PrioKeepsUptoSaid : Prop := prioKeepsUptoRow.holds Try.pinned (OpenSpec.upto prioKeepsSpec)

end Rows
end Go.Proofs.Ytbhnjmdlagjfbaa
