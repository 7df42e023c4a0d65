/- What the known share comes to (one); At where its answer is known. -/
import Derived.Test.YtmpknjlfabpipaaShareF
namespace Go.Proofs.Ytmpknjlfabpipaa
set_option linter.unusedVariables false
open Go.ChangeShapes Go.WideShapes Go.ChangeAt Go.RowKit
attribute [local go_sem ↓] Go.wp_at_zero Go.wp_at_succ

theorem at_is {u s n h : Int} (x0 x1 : Int) (e : atI u s n h = (x0, x1)) (w : World) :
    Calls Try.prog 29 #[.agg #[.int .i64 u, .int .i64 s], .int .i64 n, .int .i64 h] w fun e w' => e = .returned (.agg #[.int .i64 x0, .int .i64 x1]) ∧ Below w.heap.size w w' := by
  have := at_any u s n h w
  rw [e] at this
  exact this
theorem factor_is {u t : Int} (x : Int) (e : factI u t = x) (u1 : u ≤ 1125899906842624) (t1 : t ≤ 9223372036854775807) (w : World) :
    Calls Try.prog 28 #[.int .i64 u, .int .i64 t] w fun e w' => e = .returned (.int .i64 x) ∧ Below w.heap.size w w' := by
  have := factor_any u t u1 t1 w
  rw [e] at this
  exact this
end Go.Proofs.Ytmpknjlfabpipaa
