/-
  No cell of these rows narrows 'for every input' (looked for: loops, veiled, ifaces, maps, wideKeys, modest, calm, conditions, laid).
  DERIVED. THE GIVEN ROWS OF THIS SEAT. 2 by the template 'for every input the law returns true; each argument reads behind the call as it read before'; 0 by the template 'total and deterministic' (their statements: YtmpknjlfabpipaaTotals.lean).
  GIVEN WITH THE SEED: the statements are not yours to turn. If you find one false, say at which input.
  Laid BY PROGRAM, IN A SANDBOX (cutbox-rows.mjs): the forced cells as the released guide's own fill.sh prints them over the translation fb6b6d9f03272fe4… (all of the seat's roots in one cut). By AI agents, Wed Nov 11 2026. No macro, syntax, notation, axiom, sorry.
-/
import Derived.Test.YtmpknjlfabpipaaChecked
import GoSem.Claim
import GoSem.ClaimJoined
import GoSem.ClaimMapViews
import Derived.JoinedTies
import Derived.KernelRfl
namespace Go.Proofs.Ytmpknjlfabpipaa
/- THE CELL 'sum', in the pinned program and in every row, IS THE sha256 OF THE DUMP (.gsa) THAT YtmpknjlfabpipaaProg.lean LOADS. Nothing in Lean hashes anything: it is a label: what it is worth is what the hold of that sum in a sandbox is worth. -/
noncomputable def Try.pinned : Pinned := { name := "ytmpknjlfabpipaa", sum := "fb6b6d9f03272fe43a857af89094cddf134bad0a8dffbda157c05a1b29bbf800", checked := Try.checked }
namespace Rows
def none {H : Type} : Left H := { results := [], args := [] }

/-- 'berthinglaw14.BooksNobody': WHATEVER THE INPUT: true; the input reads as it did. -/
def booksNobodySpec : ChangeSpec := { name := "booksNobody", fn := fun _ => fun
  | [d] => { results := [.lit (.bool true)], args := [d] }
  | _ => none }
def booksNobodyRow : OpenClaim := { program := "ytmpknjlfabpipaa", sum := "fb6b6d9f03272fe43a857af89094cddf134bad0a8dffbda157c05a1b29bbf800", func := "berthing/berthinglaw14.BooksNobody", spec := "booksNobody", inPlace := ["maps.clone"], unfollowed := true, recurses := true, named := ["math/bits.divideError", "math/bits.overflowError"], apart := false }
def BooksNobodySaid : Prop := booksNobodyRow.holds Try.pinned (OpenSpec.ofChange booksNobodySpec)

/-- ITS FALSE NEIGHBOUR: 'it returns false'. Refute it at one input. -/
def booksNobodyWrong : ChangeSpec := { name := "booksNobody", fn := fun _ => fun
  | [d] => { results := [.lit (.bool false)], args := [d] }
  | _ => none }
def BooksNobodyWrongFalsely : Prop := booksNobodyRow.holds Try.pinned (OpenSpec.ofChange booksNobodyWrong)

/-- 'berthinglaw14.BooksCount': WHATEVER THE INPUT: true; the input reads as it did. -/
def booksCountSpec : ChangeSpec := { name := "booksCount", fn := fun _ => fun
  | [d1, d2] => { results := [.lit (.bool true)], args := [d1, d2] }
  | _ => none }
def booksCountRow : OpenClaim := { program := "ytmpknjlfabpipaa", sum := "fb6b6d9f03272fe43a857af89094cddf134bad0a8dffbda157c05a1b29bbf800", func := "berthing/berthinglaw14.BooksCount", spec := "booksCount", unfollowed := true, recurses := true, named := ["math/bits.divideError", "math/bits.overflowError"], apart := false }
def BooksCountSaid : Prop := booksCountRow.holds Try.pinned (OpenSpec.ofChange booksCountSpec)

/-- ITS FALSE NEIGHBOUR: 'it returns false'. Refute it at one input. -/
def booksCountWrong : ChangeSpec := { name := "booksCount", fn := fun _ => fun
  | [d1, d2] => { results := [.lit (.bool false)], args := [d1, d2] }
  | _ => none }
def BooksCountWrongFalsely : Prop := booksCountRow.holds Try.pinned (OpenSpec.ofChange booksCountWrong)

/- THE SECOND FORM. 'bulk': how many values and letters a reading holds, each counted each time it is reached (what is shared counts as often as it is met; a slice's spare places count too). A statement '..UptoSaid' is the law's where the arguments, and the package variables that the reading takes, are together of bulk at most 1048576: NARROWER than '..Said'. Prove '..Said' where nothing that the law and all that it calls make is longer than what came in: it says more and counts as full. Else prove '..UptoSaid'. A law counts once. -/
mutual
def uptoBulk {H : Type} : DataW H → Nat
  | .lit (.string bytes) => bytes.length + 1
  | .lit _ => 1
  | .nil => 1
  | .ptr d => uptoBulk d + 1
  | .slice elems spare => uptoBulkAll elems + uptoBulkAll spare + 1
  | .agg parts => uptoBulkAll parts + 1
  | .iface _ d => uptoBulk d + 1
  | .map entries => uptoBulkEntries entries + 1
  | .held _ => 1
def uptoBulkAll {H : Type} : List (DataW H) → Nat
  | [] => 0
  | d :: r => uptoBulk d + uptoBulkAll r
def uptoBulkEntries {H : Type} : List (Lit × DataW H) → Nat
  | [] => 0
  | x :: r => uptoBulkEntry x + uptoBulkEntries r
def uptoBulkEntry {H : Type} : Lit × DataW H → Nat
  | (.string bytes, d) => bytes.length + uptoBulk d + 1
  | (_, d) => uptoBulk d + 1
 end
def uptoSmall : (H : Type) → List (DataW H) → Bool := fun _ ds => decide (uptoBulkAll ds ≤ 1048576)
def OpenSpec.upto (s : _root_.Go.ChangeSpec) : _root_.Go.OpenSpec := { _root_.Go.OpenSpec.ofChange s with cond := some uptoSmall }

/-- 'berthinglaw14.BooksNobody', WHERE WHAT IT READS IS OF BULK AT MOST 1048576: true; the input reads as it did. -/
def booksNobodyUptoRow : OpenClaim := { program := "ytmpknjlfabpipaa", sum := "fb6b6d9f03272fe43a857af89094cddf134bad0a8dffbda157c05a1b29bbf800", func := "berthing/berthinglaw14.BooksNobody", spec := "booksNobody", inPlace := ["maps.clone"], unfollowed := true, recurses := true, named := ["math/bits.divideError", "math/bits.overflowError"], apart := false, narrowed := true }
def BooksNobodyUptoSaid : Prop := booksNobodyUptoRow.holds Try.pinned (OpenSpec.upto booksNobodySpec)

/-- 'berthinglaw14.BooksCount', WHERE WHAT IT READS IS OF BULK AT MOST 1048576: true; the input reads as it did. -/
def booksCountUptoRow : OpenClaim := { program := "ytmpknjlfabpipaa", sum := "fb6b6d9f03272fe43a857af89094cddf134bad0a8dffbda157c05a1b29bbf800", func := "berthing/berthinglaw14.BooksCount", spec := "booksCount", unfollowed := true, recurses := true, named := ["math/bits.divideError", "math/bits.overflowError"], apart := false, narrowed := true }
def BooksCountUptoSaid : Prop := booksCountUptoRow.holds Try.pinned (OpenSpec.upto booksCountSpec)

end Rows
end Go.Proofs.Ytmpknjlfabpipaa
