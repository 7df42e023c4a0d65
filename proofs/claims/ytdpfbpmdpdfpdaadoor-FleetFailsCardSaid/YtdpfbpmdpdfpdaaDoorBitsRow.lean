/- bits.row: the words of nodes that follow one another. Condition: both are nodes (0 to 63). -/
import Derived.Test.YtdpfbpmdpdfpdaaDoorBitsIter
import Derived.Test.YtdpfbpmdpdfpdaaDoorBitsToks
import Derived.Test.YtdpfbpmdpdfpdaaDoorShelfB
import Derived.RangeFuncBox
import Derived.Maps.AppendAt
namespace Go.Proofs.YtdpfbpmdpdfpdaaDoor
set_option linter.unusedVariables false
open Go.ChangeShapes Go.WideShapes Go.ChangeAt Go.RowKit Go.Shelf
attribute [local go_sem ↓] Go.wp_at_zero Go.wp_at_succ comesTo_value_eq comesTo_skip_eq comesTo_enter_eq

/-- bytes as a text -/
def strB (t : List UInt8) : ByteArray := ⟨t.toArray⟩
def strV (t : List UInt8) : Value := .string (strB t)
theorem strB_data (t : List UInt8) : (strB t).data.toList = t := rfl
theorem strB_app (a b : List UInt8) : strB a ++ strB b = strB (a ++ b) := by
  apply ByteArray.ext
  simp [strB, ByteArray.data_append]
theorem strB_inj {a b : List UInt8} (h : strB a = strB b) : a = b := by rw [← strB_data a, h, strB_data]
end Go.Proofs.YtdpfbpmdpdfpdaaDoor
