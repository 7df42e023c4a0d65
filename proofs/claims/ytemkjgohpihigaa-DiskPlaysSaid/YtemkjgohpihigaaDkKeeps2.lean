/- DiskKeeps walked, more than 500 bytes given. No condition but the lengths' bounds. -/
import Derived.Test.YtemkjgohpihigaaDkKeeps
namespace Go.Proofs.Ytemkjgohpihigaa
set_option linter.unusedVariables false
open Go.ChangeShapes Go.WideShapes Go.ChangeAt Go.RowKit
attribute [local go_sem ↓] Go.wp_at_zero Go.wp_at_succ comesTo_value_eq comesTo_skip_eq comesTo_enter_eq

end Go.Proofs.Ytemkjgohpihigaa
