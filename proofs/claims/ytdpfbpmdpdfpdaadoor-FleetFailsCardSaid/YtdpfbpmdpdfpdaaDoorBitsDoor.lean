/- Where the row's variables are laid, math/bits' table of trailing zeros lies as its text lays it. -/
import Derived.Test.YtdpfbpmdpdfpdaaDoorBitsLow
namespace Go.Proofs.YtdpfbpmdpdfpdaaDoor
set_option linter.unusedVariables false
open Go.ChangeShapes Go.WideShapes Go.ChangeAt Go.RowKit Go.Shelf

theorem gTabZ : Tryd.prog.globalNamed "math/bits.deBruijn64tab" = some 1 := by kernel_rfl
theorem gTabZType : (Tryd.prog.globals[1]?).map (·.type) = some 164 := by kernel_rfl
theorem cellsTabZ : Tryd.prog.cellsOf 164 = 64 := by kernel_rfl
theorem cellsU8 : Tryd.prog.cellsOf 5 = 1 := by kernel_rfl
theorem tabz_data {H : Type} : (Rows.laid_math_bits_deBruijn64tab : DataW H) = Lib.tabData .u8 (Lib.deBruijn64tab.map Int.ofNat) := rfl
theorem tabz_at {W : World} (h : laidMet Tryd.prog [("math/bits.deBruijn64tab", Rows.laid_math_bits_deBruijn64tab)] W) : TabZ W := by
  obtain ⟨ps, ⟨g, t, cs, fuel, p, q, hg, ht, hvar, hd, _, _⟩, _⟩ := h
  obtain rfl := Option.some.inj (gTabZ.symm.trans hg)
  obtain rfl := Option.some.inj (gTabZType.symm.trans ht)
  rw [tabz_data] at hd
  have hcs := Lib.cells_of_tab (zs := Lib.deBruijn64tab.map Int.ofNat) Tryd.underlying164 Tryd.underlying5 cellsU8 cellsTabZ hd
  have hv : W.var? Tryd.prog "math/bits.deBruijn64tab" = some ((Lib.deBruijn64tab.map Int.ofNat).map fun z => Value.int .u8 z).toArray := by rw [hvar, ← hcs]
  have hT : TabAt 1 Lib.deBruijn64tab W := by
    intro j hj
    have := World.var?_cell gTabZ hv j
    simpa [List.getD, hj] using this
  exact ⟨World.block_lt_of_cell? W _ (hT 0 (by decide)), hT⟩
end Go.Proofs.YtdpfbpmdpdfpdaaDoor
