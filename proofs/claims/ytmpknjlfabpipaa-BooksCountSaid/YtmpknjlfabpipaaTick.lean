/- Contracts of the functions of layer 1 (tick) on integers, and of the reference's. No condition but that arguments fit their kinds. -/
import Derived.Test.YtmpknjlfabpipaaRows
import Derived.WalkKit
import Derived.ProofKit
import Derived.OpenShut
import Derived.Below
import Derived.Outline
import Derived.WalkLawsBesides
namespace Go.Proofs.Ytmpknjlfabpipaa
set_option linter.unusedVariables false
open Go.ChangeShapes Go.WideShapes Go.ChangeAt Go.RowKit

theorem ret_int {k : IntKind} {a b : Int} (h : a = b) : Ending.returned (.int k a) = .returned (.int k b) := by rw [h]
theorem ret_bool {a b : Bool} (h : a = b) : Ending.returned (.bool a) = .returned (.bool b) := by rw [h]

/-- the nearest time -/
def clampI (n : Int) : Int := if n < 0 then 0 else if 1099511627776 < n then 1099511627776 else n
def addI (a b : Int) : Int := clampI (clampI a + clampI b)
def subI (a b : Int) : Int := if clampI b = 1099511627776 then 0 else if clampI a = 1099511627776 then 1099511627776 else clampI (clampI a - clampI b)
def timesI (a n : Int) : Int := if n < 1 then 0 else if clampI a = 0 then 0 else if 1099511627776 / clampI a < n then 1099511627776 else clampI a * n
def upI (a s : Int) : Int := if clampI s < 1 then clampI a else if clampI a = 1099511627776 then clampI a else clampI ((clampI a + clampI s - 1) / clampI s * clampI s)

theorem clampI_bd (n : Int) : 0 ≤ clampI n ∧ clampI n ≤ 1099511627776 := by unfold clampI; split <;> (try split) <;> omega
theorem clampI_id {n : Int} (h0 : 0 ≤ n) (h1 : n ≤ 1099511627776) : clampI n = n := by unfold clampI; split <;> (try split) <;> omega
theorem clampI_nonpos {n : Int} (h : n ≤ 0) : clampI n = 0 := by unfold clampI; split <;> (try split) <;> omega
theorem clampI_clampI (n : Int) : clampI (clampI n) = clampI n := clampI_id (clampI_bd n).1 (clampI_bd n).2

theorem clamp_any (n : Int) (w : World) :
    Calls Try.prog 31 #[.int .i64 n] w fun e w' => e = .returned (.int .i64 (clampI n)) ∧ w = w' := by
  go_enter Try.func31, Try.ntmps31
  go_wp2
  all_goals go_ret
  all_goals exact ⟨ret_int (by unfold clampI; split <;> (try split) <;> (try split at *) <;> omega), rfl⟩
end Go.Proofs.Ytmpknjlfabpipaa
