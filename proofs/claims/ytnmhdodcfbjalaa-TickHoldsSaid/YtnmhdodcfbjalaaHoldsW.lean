/- The walk of TickHolds at any number of spans. No condition but lengths. -/
import Derived.Test.YtnmhdodcfbjalaaHolds
import Derived.Test.YtnmhdodcfbjalaaHoldsL
namespace Go.Proofs.Ytnmhdodcfbjalaa
set_option linter.unusedVariables false
open Go.ChangeShapes Go.WideShapes Go.ChangeAt Go.RowKit
theorem times_walk (a : Option Addr) (cap : Nat) (zs : List (Int × Int)) (t : Int) (hc : zs.length ≤ cap) (h9 : zs.length ≤ 9223372036854775807) (w : World) (hz : 0 < zs.length → ∃ b off, a = some ⟨b, off, none⟩ ∧ SpanRow w b off zs) :
    Calls Try.prog 5 #[.slice a zs.length cap, .int .i64 t] w fun e w' => e = .returned (.bool true) ∧ Below w.heap.size w w' := by
  by_cases hl : zs.length ≤ 40
  · exact times_short a cap zs t hl w hz
  · obtain ⟨b, off, rfl, hr⟩ := hz (by omega)
    have hl2 : (zs.take 40).length = 40 := by simp; omega
    exact times_long b off cap zs.length (zs.take 40) t hl2 (by omega) hc h9 (by omega) w (take_rowS hr (by omega))
end Go.Proofs.Ytnmhdodcfbjalaa
