/- A clock that nobody made (layer 17). No condition. -/
import Derived.Test.YtfakejfpicjedaaTmF
namespace Go.Proofs.Ytfakejfpicjedaa
set_option linter.unusedVariables false
open Go.ChangeShapes Go.WideShapes Go.ChangeAt Go.RowKit Tm
attribute [local go_sem ↓] Go.wp_at_zero Go.wp_at_succ comesTo_value_eq comesTo_skip_eq comesTo_enter_eq

/-- nil, or a plain one -/
def NoC (w : World) (p : Value) : Prop := p = .pointer none ∨ ∃ c, p = .pointer (some ⟨c, 0, none⟩) ∧ w.heap[c]? = some (.cells #[.pointer none] 54 (0, 0))
theorem no_there {w : World} {p : Value} (h : NoC w p) : Calls Try.prog 20 #[p] w fun e w' => e = .returned (.bool false) ∧ w' = w := by
  rcases h with rfl | ⟨c, rfl, hb⟩
  · go_enter Try.func20, Try.ntmps20
    go_wp2_with fail
    go_ret
    exact ⟨rfl, rfl⟩
  · have q0 : w.cell? ⟨c, 0, none⟩ = some (.pointer none) := cell_of_block (o := 0) hb rfl
    clear hb
    go_enter Try.func20, Try.ntmps20
    go_wp2_with fail
    go_ret
    exact ⟨rfl, rfl⟩
theorem no_len {w : World} {p : Value} (h : NoC w p) : Calls Try.prog 16 #[p] w fun e w' => e = .returned (.int .i64 0) ∧ w' = w := by
  have K0 := Lib.hid (no_there h)
  clear h
  go_enter Try.func16, Try.ntmps16
  go_wp2_with fail
  refine K0.out.mono ?_
  rintro e w1 ⟨rfl, hw⟩
  obtain rfl := hw
  go_wp2_with fail
  go_ret
  exact ⟨rfl, rfl⟩
theorem no_next {w : World} {p : Value} (h : NoC w p) : Calls Try.prog 17 #[p] w fun e w' => e = .returned (.int .i64 1099511627776) ∧ w' = w := by
  have K0 := Lib.hid (no_len h)
  clear h
  go_enter Try.func17, Try.ntmps17
  go_wp2_with fail
  refine K0.out.mono ?_
  rintro e w1 ⟨rfl, hw⟩
  obtain rfl := hw
  go_wp2_with fail
  go_ret
  exact ⟨rfl, rfl⟩
theorem no_at {w : World} {p : Value} (h : NoC w p) (id : Int) : Calls Try.prog 15 #[p, .int .i64 id] w fun e w' => e = .returned (.tuple #[.int .i64 0, .bool false]) ∧ w' = w := by
  have K0 := Lib.hid (no_there h)
  clear h
  go_enter Try.func15, Try.ntmps15
  go_wp2_with fail
  refine K0.out.mono ?_
  rintro e w1 ⟨rfl, hw⟩
  obtain rfl := hw
  go_wp2_with fail
  go_ret2
  exact ⟨rfl, rfl⟩
theorem no_set {w : World} {p : Value} (h : NoC w p) (id t : Int) : Calls Try.prog 10 #[p, .int .i64 id, .int .i64 t] w fun e w' => e = .returned (.int .i64 1) ∧ w' = w := by
  have K0 := Lib.hid (no_there h)
  clear h
  go_enter Try.func10, Try.ntmps10
  go_wp2_with fail
  refine K0.out.mono ?_
  rintro e w1 ⟨rfl, hw⟩
  obtain rfl := hw
  go_wp2_with fail
  go_ret
  exact ⟨rfl, rfl⟩
theorem no_drop {w : World} {p : Value} (h : NoC w p) (id : Int) : Calls Try.prog 12 #[p, .int .i64 id] w fun e w' => e = .returned (.bool false) ∧ w' = w := by
  have K0 := Lib.hid (no_there h)
  clear h
  go_enter Try.func12, Try.ntmps12
  go_wp2_with fail
  refine K0.out.mono ?_
  rintro e w1 ⟨rfl, hw⟩
  obtain rfl := hw
  go_wp2_with fail
  go_ret
  exact ⟨rfl, rfl⟩
theorem no_clone {w : World} {p : Value} (h : NoC w p) : Calls Try.prog 19 #[p] w fun e w' => e = .returned (.pointer none) ∧ w' = w := by
  have K0 := Lib.hid (no_there h)
  clear h
  go_enter Try.func19, Try.ntmps19
  go_wp2_with fail
  refine K0.out.mono ?_
  rintro e w1 ⟨rfl, hw⟩
  obtain rfl := hw
  go_wp2_with fail
  go_ret
  exact ⟨rfl, rfl⟩
theorem no_due {w : World} {p : Value} (h : NoC w p) (t : Int) : Calls Try.prog 14 #[p, .int .i64 t] w fun e w' => e = .returned (.slice none 0 0) ∧ w' = w := by
  have K0 := Lib.hid (no_len h)
  clear h
  go_enter Try.func14, Try.ntmps14
  go_wp2_with fail
  go_loopw [5] (fun jv wr => jv = .slice none 0 0 ∧ wr = w) (fun _ _ => 0)
  case atStart => exact ⟨rfl, rfl⟩
  case round =>
    obtain ⟨rfl, rfl⟩ := hrel
    go_wp2_with fail
    refine K0.out.mono ?_
    rintro e w1 ⟨rfl, hw⟩
    obtain rfl := hw
    go_wp2_with fail
    go_ret
    exact ⟨rfl, rfl⟩
end Go.Proofs.Ytfakejfpicjedaa
