/-
  No cell of these rows narrows 'for every input' (looked for: loops, veiled, ifaces, maps, wideKeys, modest, calm, conditions, laid).
  DERIVED. THE GIVEN ROWS OF THIS SEAT. 3 by the template 'for every input the law returns true; each argument reads behind the call as it read before'; 0 by the template 'total and deterministic' (their statements: YtddoknkmmchkmaaTotals.lean).
  GIVEN WITH THE SEED: the statements are not yours to turn. If you find one false, say at which input.
  Laid BY PROGRAM, IN A SANDBOX (cutbox-rows.mjs): the forced cells as the released guide's own fill.sh prints them over the translation 34d35fca1df2f235… (all of the seat's roots in one cut). By AI agents, Wed Nov 11 2026. No macro, syntax, notation, axiom, sorry.
-/
import Derived.Test.YtddoknkmmchkmaaChecked
import GoSem.Claim
import GoSem.ClaimJoined
import GoSem.ClaimMapViews
import Derived.JoinedTies
import Derived.KernelRfl
namespace Go.Proofs.Ytddoknkmmchkmaa
/- THE CELL 'sum', in the pinned program and in every row, IS THE sha256 OF THE DUMP (.gsa) THAT YtddoknkmmchkmaaProg.lean LOADS. Nothing in Lean hashes anything: it is a label: what it is worth is what the hold of that sum in a sandbox is worth. -/
noncomputable def Try.pinned : Pinned := { name := "ytddoknkmmchkmaa", sum := "34d35fca1df2f23541bb9821a119d4217872b7206b85f430136c8371c803206f", checked := Try.checked }
namespace Rows
def none {H : Type} : Left H := { results := [], args := [] }

/-- 'berthinglaw18.ResvPlays': WHATEVER THE INPUT: true; the input reads as it did. -/
def resvPlaysSpec : ChangeSpec := { name := "resvPlays", fn := fun _ => fun
  | [d1, d2, d3] => { results := [.lit (.bool true)], args := [d1, d2, d3] }
  | _ => none }
def resvPlaysRow : OpenClaim := { program := "ytddoknkmmchkmaa", sum := "34d35fca1df2f23541bb9821a119d4217872b7206b85f430136c8371c803206f", func := "berthing/berthinglaw18.ResvPlays", spec := "resvPlays", unfollowed := true, recurses := true, apart := false }
def ResvPlaysSaid : Prop := resvPlaysRow.holds Try.pinned (OpenSpec.ofChange resvPlaysSpec)

/-- ITS FALSE NEIGHBOUR: 'it returns false'. Refute it at one input. -/
def resvPlaysWrong : ChangeSpec := { name := "resvPlays", fn := fun _ => fun
  | [d1, d2, d3] => { results := [.lit (.bool false)], args := [d1, d2, d3] }
  | _ => none }
def ResvPlaysWrongFalsely : Prop := resvPlaysRow.holds Try.pinned (OpenSpec.ofChange resvPlaysWrong)

/-- 'berthinglaw18.ResvRoom': WHATEVER THE INPUT: true; the input reads as it did. -/
def resvRoomSpec : ChangeSpec := { name := "resvRoom", fn := fun _ => fun
  | [d1, d2, d3] => { results := [.lit (.bool true)], args := [d1, d2, d3] }
  | _ => none }
def resvRoomRow : OpenClaim := { program := "ytddoknkmmchkmaa", sum := "34d35fca1df2f23541bb9821a119d4217872b7206b85f430136c8371c803206f", func := "berthing/berthinglaw18.ResvRoom", spec := "resvRoom", unfollowed := true, recurses := true, apart := false }
def ResvRoomSaid : Prop := resvRoomRow.holds Try.pinned (OpenSpec.ofChange resvRoomSpec)

/-- ITS FALSE NEIGHBOUR: 'it returns false'. Refute it at one input. -/
def resvRoomWrong : ChangeSpec := { name := "resvRoom", fn := fun _ => fun
  | [d1, d2, d3] => { results := [.lit (.bool false)], args := [d1, d2, d3] }
  | _ => none }
def ResvRoomWrongFalsely : Prop := resvRoomRow.holds Try.pinned (OpenSpec.ofChange resvRoomWrong)

/-- 'berthinglaw19.PlanNobody': WHATEVER THE INPUT: true; the input reads as it did. -/
def planNobodySpec : ChangeSpec := { name := "planNobody", fn := fun _ => fun
  | [d] => { results := [.lit (.bool true)], args := [d] }
  | _ => none }
def planNobodyRow : OpenClaim := { program := "ytddoknkmmchkmaa", sum := "34d35fca1df2f23541bb9821a119d4217872b7206b85f430136c8371c803206f", func := "berthing/berthinglaw19.PlanNobody", spec := "planNobody", unfollowed := true, recurses := true, apart := false }
def PlanNobodySaid : Prop := planNobodyRow.holds Try.pinned (OpenSpec.ofChange planNobodySpec)

/-- ITS FALSE NEIGHBOUR: 'it returns false'. Refute it at one input. -/
def planNobodyWrong : ChangeSpec := { name := "planNobody", fn := fun _ => fun
  | [d] => { results := [.lit (.bool false)], args := [d] }
  | _ => none }
def PlanNobodyWrongFalsely : Prop := planNobodyRow.holds Try.pinned (OpenSpec.ofChange planNobodyWrong)

/- THE SECOND FORM. 'bulk': how many values and letters a reading holds, each counted each time it is reached (what is shared counts as often as it is met; a slice's spare places count too). A statement '..UptoSaid' is the law's where the arguments, and the package variables that the reading takes, are together of bulk at most 1048576: NARROWER than '..Said'. Prove '..Said' where nothing that the law and all that it calls make is longer than what came in: it says more and counts as full. Else prove '..UptoSaid'. A law counts once. -/
mutual
def uptoBulk {H : Type} : DataW H → Nat
  | .lit (.string bytes) => bytes.length + 1
  | .lit _ => 1
  | .nil => 1
  | .ptr d => uptoBulk d + 1
  | .slice elems spare => uptoBulkAll elems + uptoBulkAll spare + 1
  | .agg parts => uptoBulkAll parts + 1
  | .iface _ d => uptoBulk d + 1
  | .map entries => uptoBulkEntries entries + 1
  | .held _ => 1
def uptoBulkAll {H : Type} : List (DataW H) → Nat
  | [] => 0
  | d :: r => uptoBulk d + uptoBulkAll r
def uptoBulkEntries {H : Type} : List (Lit × DataW H) → Nat
  | [] => 0
  | x :: r => uptoBulkEntry x + uptoBulkEntries r
def uptoBulkEntry {H : Type} : Lit × DataW H → Nat
  | (.string bytes, d) => bytes.length + uptoBulk d + 1
  | (_, d) => uptoBulk d + 1
 end
def uptoSmall : (H : Type) → List (DataW H) → Bool := fun _ ds => decide (uptoBulkAll ds ≤ 1048576)
def OpenSpec.upto (s : _root_.Go.ChangeSpec) : _root_.Go.OpenSpec := { _root_.Go.OpenSpec.ofChange s with cond := some uptoSmall }

/-- 'berthinglaw18.ResvPlays', WHERE WHAT IT READS IS OF BULK AT MOST 1048576: true; the input reads as it did. -/
def resvPlaysUptoRow : OpenClaim := { program := "ytddoknkmmchkmaa", sum := "34d35fca1df2f23541bb9821a119d4217872b7206b85f430136c8371c803206f", func := "berthing/berthinglaw18.ResvPlays", spec := "resvPlays", unfollowed := true, recurses := true, apart := false, narrowed := true }
def ResvPlaysUptoSaid : Prop := resvPlaysUptoRow.holds Try.pinned (OpenSpec.upto resvPlaysSpec)

/-- 'berthinglaw18.ResvRoom', WHERE WHAT IT READS IS OF BULK AT MOST 1048576: true; the input reads as it did. -/
def resvRoomUptoRow : OpenClaim := { program := "ytddoknkmmchkmaa", sum := "34d35fca1df2f23541bb9821a119d4217872b7206b85f430136c8371c803206f", func := "berthing/berthinglaw18.ResvRoom", spec := "resvRoom", unfollowed := true, recurses := true, apart := false, narrowed := true }
def ResvRoomUptoSaid : Prop := resvRoomUptoRow.holds Try.pinned (OpenSpec.upto resvRoomSpec)

/-- 'berthinglaw19.PlanNobody', WHERE WHAT IT READS IS OF BULK AT MOST 1048576: true; the input reads as it did. -/
def planNobodyUptoRow : OpenClaim := { program := "ytddoknkmmchkmaa", sum := "34d35fca1df2f23541bb9821a119d4217872b7206b85f430136c8371c803206f", func := "berthing/berthinglaw19.PlanNobody", spec := "planNobody", unfollowed := true, recurses := true, apart := false, narrowed := true }
def PlanNobodyUptoSaid : Prop := planNobodyUptoRow.holds Try.pinned (OpenSpec.upto planNobodySpec)

end Rows
end Go.Proofs.Ytddoknkmmchkmaa
