/- What the known share comes to (one); At where its answer is known. -/
import Derived.Test.YtnmhdodcfbjalaaShareF
namespace Go.Proofs.Ytnmhdodcfbjalaa
set_option linter.unusedVariables false
open Go.ChangeShapes Go.WideShapes Go.ChangeAt Go.RowKit
attribute [local go_sem ↓] Go.wp_at_zero Go.wp_at_succ

theorem at_is {u s n h : Int} (x0 x1 : Int) (e : atI u s n h = (x0, x1)) (w : World) :
    Calls Try.prog 39 #[.agg #[.int .i64 u, .int .i64 s], .int .i64 n, .int .i64 h] w fun e w' => e = .returned (.agg #[.int .i64 x0, .int .i64 x1]) ∧ Below w.heap.size w w' := by
  have := at_any u s n h w
  rw [e] at this
  exact this
theorem factor_is {u t : Int} (x : Int) (e : factI u t = x) (u1 : u ≤ 1125899906842624) (t1 : t ≤ 9223372036854775807) (w : World) :
    Calls Try.prog 40 #[.int .i64 u, .int .i64 t] w fun e w' => e = .returned (.int .i64 x) ∧ Below w.heap.size w w' := by
  have := factor_any u t u1 t1 w
  rw [e] at this
  exact this
set_option maxHeartbeats 1000000 in
theorem share_one (w : World) :
    Calls Try.prog 38 #[] w fun e w' => e = .returned (.bool true) ∧ Below w.heap.size w w' := by
  have k1 := Lib.hid (fun W => at_is (u := 100) (s := 0) (n := 25) (h := 10) 25 20 (by decide) W)
  have k2 := Lib.hid (fun W => factor_is (u := 1) (t := 4) 750 (by decide) (by decide) (by decide) W)
  go_enter Try.func38, Try.ntmps38
  go_wp2_with (first | (go_at_call 39; refine (k1.out _).mono ?_; rintro e w1 ⟨rfl, hb1⟩) | (go_at_call 40; refine (k2.out _).mono ?_; rintro e w2 ⟨rfl, hb2⟩))
  go_ret
  exact ⟨rfl, below_next hb1 hb2⟩
end Go.Proofs.Ytnmhdodcfbjalaa
