/- Contracts of sets of nodes (layer 7, bits): Lowest, Take. Condition: math/bits' table of trailing zeros lies as its text lays it. -/
import Derived.Test.YtgeldpfojmkdbaaBits
import Derived.Shelf.Spec.TrailingZeros
import Derived.Deep.DeepHandedRow
import Derived.Lib.LaidTab
namespace Go.Proofs.Ytgeldpfojmkdbaa
set_option linter.unusedVariables false
open Go.ChangeShapes Go.WideShapes Go.ChangeAt Go.RowKit Go.Shelf
attribute [local go_sem ↓] Go.wp_at_zero Go.wp_at_succ comesTo_value_eq comesTo_skip_eq comesTo_enter_eq

/-- what Take tells -/
def takeS (s : NSet) (n : Int) : NSet := if (card s : Int) < n then 0#64 else tk n.toNat s
end Go.Proofs.Ytgeldpfojmkdbaa
