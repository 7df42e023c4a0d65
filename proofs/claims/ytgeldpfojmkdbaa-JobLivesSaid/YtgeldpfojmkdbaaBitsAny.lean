/- Any (bits): the sets of a row together. No condition. -/
import Derived.Test.YtgeldpfojmkdbaaBits
namespace Go.Proofs.Ytgeldpfojmkdbaa
set_option linter.unusedVariables false
open Go.ChangeShapes Go.WideShapes Go.ChangeAt Go.RowKit
attribute [local go_sem ↓] Go.wp_at_zero Go.wp_at_succ

/-- sets together -/
def orS (l : List NSet) : NSet := l.foldl (· ||| ·) 0#64
theorem orS_snoc (l : List NSet) (s : NSet) : orS (l ++ [s]) = orS l ||| s := by unfold orS; rw [List.foldl_append]; rfl
end Go.Proofs.Ytgeldpfojmkdbaa
