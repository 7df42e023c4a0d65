/- Levels (layer 10): the level at a time; what levels that nobody made tell. No condition but the lengths' bound. -/
import Derived.Test.YthdljigcfhjikaaUsc
namespace Go.Proofs.Ythdljigcfhjikaa
set_option linter.unusedVariables false
open Go.ChangeShapes Go.WideShapes Go.ChangeAt Go.RowKit
attribute [local go_sem ↓] Go.wp_at_zero Go.wp_at_succ comesTo_value_eq comesTo_skip_eq comesTo_enter_eq

set_option maxHeartbeats 1000000 in
theorem at_any {w : World} {S : Nat} {L : List (Int × Int)} (h : USt w S L) (t : Int) : Calls Try.prog 16 #[.pointer (some ⟨S, 0, none⟩), .int .i64 t] w fun e w' => e = .returned (.int .i64 (atU L t)) ∧ Below w.heap.size w w' := by
  have KT := Lib.hid (there_any h)
  have KL := Lib.hid (fun W f t (hb : Below w.heap.size w W) => least_any (h.below hb) f t)
  have E := Lib.hid (show atU L t = chooseU minU L (clampI (minU (clampI t) 1099511627775), addI (minU (clampI t) 1099511627775) 1) from rfl)
  clear h
  have hm : (clampI t ≤ 1099511627775 ∧ minU (clampI t) 1099511627775 = clampI t) ∨ (1099511627775 < clampI t ∧ minU (clampI t) 1099511627775 = 1099511627775) := by
    by_cases h : clampI t ≤ 1099511627775
    · exact .inl ⟨h, if_pos h⟩
    · exact .inr ⟨by omega, if_neg h⟩
  generalize atU L t = R at *
  generalize minU (clampI t) 1099511627775 = m at *
  have KC := Lib.hid (fun W => clamp_any t W)
  generalize clampI t = c at *
  have KO := Lib.hid (fun W => of_any m 1 W)
  generalize clampI m = cm at *
  generalize addI m 1 = am at *
  rcases hm with ⟨h1, rfl⟩ | ⟨h1, rfl⟩
  all_goals (
    go_enter Try.func16, Try.ntmps16
    go_wp2_with fail
    refine KT.out.mono ?_
    rintro e w' ⟨rfl, rfl⟩
    go_wp2_with fail
    refine (KC.out _).mono ?_
    rintro e w' ⟨rfl, rfl⟩
    go_wp2_with fail
    refine (KO.out _).mono ?_
    rintro e w2 ⟨rfl, hb⟩
    go_wp2_with fail
    refine (KL.out _ _ _ hb).mono ?_
    rintro e w3 ⟨rfl, hb3⟩
    have HB := below_next hb hb3
    clear hb hb3
    go_wp2_with fail
    go_ret
    exact ⟨by rw [E.out]; rfl, HB⟩)
/-- levels that nobody made -/
def NoU (w : World) (v : Value) : Prop := v = .pointer none ∨ ∃ S, v = .pointer (some ⟨S, 0, none⟩) ∧ w.heap[S]? = some (.cells #[.slice none 0 0] 63 (0, 0))
theorem NoU.below {w w' : World} {v : Value} (h : NoU w v) (hb : Below w.heap.size w w') : NoU w' v := by
  rcases h with h | ⟨S, h, hS⟩
  · exact .inl h
  · exact .inr ⟨S, h, (hb.block _ (Array.getElem?_eq_some_iff.1 hS).1).trans hS⟩
theorem there_no {w : World} {v : Value} (h : NoU w v) : Calls Try.prog 55 #[v] w fun e w' => e = .returned (.bool false) ∧ w = w' := by
  rcases h with rfl | ⟨S, rfl, hS⟩
  · exact there_nil w
  · exact there_none (cell_of_block (o := 0) hS rfl)
theorem at_no {w : World} {v : Value} (h : NoU w v) (t : Int) : Calls Try.prog 16 #[v, .int .i64 t] w fun e w' => e = .returned (.int .i64 0) ∧ Below w.heap.size w w' := by
  have KT := Lib.hid (there_no h)
  clear h
  go_enter Try.func16, Try.ntmps16
  go_wp2_with (go_at_call 55; refine KT.out.mono ?_; rintro e w' ⟨rfl, rfl⟩)
  go_ret
  exact ⟨rfl, Below.refl _ _⟩
theorem forget_no {w : World} {v : Value} (h : NoU w v) (t : Int) : Calls Try.prog 31 #[v, .int .i64 t] w fun e w' => e = .returned (.int .i64 1) ∧ Below w.heap.size w w' := by
  have KT := Lib.hid (there_no h)
  clear h
  go_enter Try.func31, Try.ntmps31
  go_wp2_with (go_at_call 55; refine KT.out.mono ?_; rintro e w' ⟨rfl, rfl⟩)
  go_ret
  exact ⟨rfl, Below.refl _ _⟩
theorem list_no {w : World} {v : Value} (h : NoU w v) : Calls Try.prog 28 #[v] w fun e w' => e = .returned (.slice none 0 0) ∧ Below w.heap.size w w' := by
  have KT := Lib.hid (there_no h)
  clear h
  go_enter Try.func28, Try.ntmps28
  go_wp2_with (go_at_call 55; refine KT.out.mono ?_; rintro e w' ⟨rfl, rfl⟩)
  go_ret
  exact ⟨rfl, Below.refl _ _⟩
theorem clone_no {w : World} {v : Value} (h : NoU w v) : Calls Try.prog 23 #[v] w fun e w' => e = .returned (.pointer none) ∧ Below w.heap.size w w' := by
  have KT := Lib.hid (there_no h)
  clear h
  go_enter Try.func23, Try.ntmps23
  go_wp2_with (go_at_call 55; refine KT.out.mono ?_; rintro e w' ⟨rfl, rfl⟩)
  go_ret
  exact ⟨rfl, Below.refl _ _⟩
theorem area_no {w : World} {v : Value} (h : NoU w v) (f t : Int) : Calls Try.prog 20 #[v, .agg #[.int .i64 f, .int .i64 t]] w fun e w' => e = .returned (.int .i64 0) ∧ Below w.heap.size w w' := by
  have HB := below_alloc (Below.refl _ w) (.cells #[.int .i64 f, .int .i64 t] 25)
  have KT := Lib.hid (there_no (h.below HB))
  clear h
  go_enter Try.func20, Try.ntmps20
  go_wp2_with (go_at_call 55; refine KT.out.mono ?_; rintro e w' ⟨rfl, rfl⟩)
  go_ret
  exact ⟨rfl, HB⟩
theorem choose_no {w : World} {v : Value} (h : NoU w v) (f t : Int) (fb : FuncId) : Calls Try.prog 59 #[v, .agg #[.int .i64 f, .int .i64 t], .func (.func fb) #[] #[]] w fun e w' => e = .returned (.int .i64 0) ∧ Below w.heap.size w w' := by
  have HB := below_alloc (below_alloc (Below.refl _ w) (.cells #[.int .i64 f, .int .i64 t] 25)) (.cells #[.func (.func fb) #[] #[]] 103)
  have KT := Lib.hid (there_no (h.below HB))
  clear h
  go_enter Try.func59, Try.ntmps59
  go_wp2_with (go_at_call 55; refine KT.out.mono ?_; rintro e w' ⟨rfl, rfl⟩)
  go_ret
  exact ⟨rfl, HB⟩
theorem least_no {w : World} {v : Value} (h : NoU w v) (f t : Int) : Calls Try.prog 18 #[v, .agg #[.int .i64 f, .int .i64 t]] w fun e w' => e = .returned (.int .i64 0) ∧ Below w.heap.size w w' := by
  have HB := below_alloc (Below.refl _ w) (.cells #[.int .i64 f, .int .i64 t] 25)
  have KT := Lib.hid (choose_no (h.below HB) f t 60)
  clear h
  go_enter Try.func18, Try.ntmps18
  go_wp2_with (go_at_call 59; ((with_reducible refine KT.out.mono ?_)); rintro e w' ⟨rfl, hb⟩)
  go_ret
  exact ⟨rfl, below_next HB hb⟩
theorem most_no {w : World} {v : Value} (h : NoU w v) (f t : Int) : Calls Try.prog 19 #[v, .agg #[.int .i64 f, .int .i64 t]] w fun e w' => e = .returned (.int .i64 0) ∧ Below w.heap.size w w' := by
  have HB := below_alloc (Below.refl _ w) (.cells #[.int .i64 f, .int .i64 t] 25)
  have KT := Lib.hid (choose_no (h.below HB) f t 61)
  clear h
  go_enter Try.func19, Try.ntmps19
  go_wp2_with (go_at_call 59; ((with_reducible refine KT.out.mono ?_)); rintro e w' ⟨rfl, hb⟩)
  go_ret
  exact ⟨rfl, below_next HB hb⟩
theorem change_none {w : World} {v : Value} (h : NoU w v) (f t : Int) (fn : FuncId) (caps : Array Value) : Calls Try.prog 65 #[v, .agg #[.int .i64 f, .int .i64 t], .func (.func fn) #[] caps] w fun e w' => e = .returned (.int .i64 1) ∧ Below w.heap.size w w' := by
  have HB := below_alloc (below_alloc (Below.refl _ w) (.cells #[.int .i64 f, .int .i64 t] 25)) (.cells #[.func (.func fn) #[] caps] 98)
  have KT := Lib.hid (there_no (h.below HB))
  clear h
  go_enter Try.func65, Try.ntmps65
  go_wp2_with (go_at_call 55; refine KT.out.mono ?_; rintro e w' ⟨rfl, rfl⟩)
  go_ret
  exact ⟨rfl, HB⟩
theorem set_no {w : World} {v : Value} (h : NoU w v) (f t n : Int) : Calls Try.prog 30 #[v, .agg #[.int .i64 f, .int .i64 t], .int .i64 n] w fun e w' => e = .returned (.int .i64 1) ∧ Below w.heap.size w w' := by
  have HB := below_alloc (below_alloc (Below.refl _ w) (.cells #[.int .i64 f, .int .i64 t] 25)) (.cells #[.int .i64 n] 3)
  have KT := Lib.hid (fun fn caps => change_none (h.below HB) f t fn caps)
  clear h
  go_enter Try.func30, Try.ntmps30
  go_wp2_with (go_at_call 65; ((with_reducible refine (KT.out _ _).mono ?_)); rintro e w' ⟨rfl, hb⟩)
  go_ret
  exact ⟨rfl, below_next HB hb⟩
end Go.Proofs.Ythdljigcfhjikaa
