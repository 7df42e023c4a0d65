/- The door: errors.errorType and math/bits' table of trailing zeros read as the program's text lays them. -/
import Derived.Test.YtnofgffkfapodaaDoorErrAt
import Derived.Test.YtnofgffkfapodaaDoorMag
namespace Go.Proofs.YtnofgffkfapodaaDoor
set_option linter.unusedVariables false
open Go.ChangeShapes Go.WideShapes Go.ChangeAt Go.RowKit
theorem errtab_at {W : World} (h : laidMetH Tryd.prog [("math/bits.deBruijn64tab", Rows.laid_math_bits_deBruijn64tab), ("errors.errorType", Rows.laid_errors_errorType)] W) : ErrAt W ∧ TabZ W := by
  have h' : laidMet Tryd.prog [("math/bits.deBruijn64tab", Rows.laid_math_bits_deBruijn64tab)] W ∧ handlesMet Tryd.prog [("errors.errorType", Rows.laid_errors_errorType)] W := h
  refine ⟨errat_at (W := W) ?_, tabz_at h'.1⟩
  have h0 : laidMet Tryd.prog [] W := laidMet_nil _ _
  exact (show laidMet Tryd.prog [] W ∧ handlesMet Tryd.prog [("errors.errorType", Rows.laid_errors_errorType)] W from ⟨h0, h'.2⟩)
end Go.Proofs.YtnofgffkfapodaaDoor
