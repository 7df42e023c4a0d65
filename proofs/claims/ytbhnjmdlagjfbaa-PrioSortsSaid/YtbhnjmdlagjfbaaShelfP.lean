/-
  DERIVED: THE SHELF's CONTRACTS AT THIS DUMP, IN PLAIN WORDS (tools/lay-plain.mjs out of 'YtbhnjmdlagjfbaaShelfP.lean', which tools/lay-shelf.mjs wrote): THE SAME DECLARATIONS UNDER THE SAME NAMES: 'import', 'namespace', 'open', 'def', 'theorem' AND NOTHING ELSE: no command of the shelf's: FOR A HAND-IN. Each laying: the table of numbers ('.._ren') and one theorem, a field a fact of the dump's own or the kernel's comparison; each contract: ONE APPLICATION.
-/
import Derived.Shelf.SlGeneric
import Derived.Shelf.SlSortCmp.InsertionK
import Derived.Shelf.SlicesE.Clone
import Derived.Ground.SlsfProg
import Derived.Ground.SlgnProg
import Derived.Test.YtbhnjmdlagjfbaaProg
namespace Go.Proofs
open Go.Shelf
def Try.insItem_ren : Go.Shelf.Ren := ⟨fun | 20 => 160 | n => n, fun | 24 => 97 | 22 => 94 | 3 => 3 | 25 => 167 | 4 => 4 | 0 => 0 | n => n, fun | n => n⟩
theorem Try.insItem : Go.Proofs.SlLaysF0.n20 Try.prog Try.insItem_ren := {
  mixed := by kernel_rfl
  f20 := ⟨Try.f160.name, by decide, Try.func160.trans (congrArg some (by kernel_rfl))⟩
  t0 := Try.underlying0
  a0 := Try.isAgg0
  z0 := Try.sizeOf0
  v0 := Try.zeroValue0
  t3 := Try.underlying3
  a3 := Try.isAgg3
  z3 := Try.sizeOf3
  v3 := Try.zeroValue3
  t4 := Try.underlying4
  a4 := Try.isAgg4
  z4 := Try.sizeOf4
  v4 := Try.zeroValue4
  t22 := Try.underlying94
  a22 := Try.isAgg94
  z22 := Try.sizeOf94
  v22 := Try.zeroValue94
  t25 := Try.underlying167
  a25 := Try.isAgg167
  z25 := Try.sizeOf167
  v25 := Try.zeroValue167 }
def Try.cloneItem_ren : Go.Shelf.Ren := ⟨fun | 41 => 106 | n => n, fun | 22 => 94 | 23 => 97 | 4 => 4 | n => n, fun | n => n⟩
theorem Try.cloneItem : Go.Proofs.SlLaysE0.n41 Try.prog Try.cloneItem_ren := {
  mixed := by kernel_rfl
  f41 := ⟨Try.f106.name, by decide, Try.func106.trans (congrArg some (by kernel_rfl))⟩
  t4 := Try.underlying4
  a4 := Try.isAgg4
  z4 := Try.sizeOf4
  v4 := Try.zeroValue4
  t22 := Try.underlying94
  a22 := Try.isAgg94
  z22 := Try.sizeOf94
  v22 := Try.zeroValue94 }
end Go.Proofs
