/- The iterator of a set's nodes (All): each, rising, till a round says 'no more'. Condition: math/bits' table of trailing zeros lies as its text lays it. -/
import Derived.RangeFuncNested
import Derived.RangeFuncBound
import Derived.RangeFuncCalls
import Derived.RangeFuncLeaves
import Derived.Shelf.Abstract
import Derived.Shelf.RegionOpen
import Derived.WalkKit
import Derived.OwnWalkIn
import Derived.TacticsInMore
import Derived.LoopNIn
import Derived.LoopIn
import Derived.Test.YtgeldpfojmkdbaaBitsLow
import Derived.Test.YtgeldpfojmkdbaaBitsNodes
namespace Go.Proofs.Ytgeldpfojmkdbaa
set_option linter.unusedVariables false
open Go.RowKit Go.Shelf
attribute [local go_sem] Oper.semAt_some

end Go.Proofs.Ytgeldpfojmkdbaa
