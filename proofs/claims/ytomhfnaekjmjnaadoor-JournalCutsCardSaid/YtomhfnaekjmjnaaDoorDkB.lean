/- A disk that was made: its bytes that are safe; arming it. No condition. -/
import Derived.Test.YtomhfnaekjmjnaaDoorDkA
namespace Go.Proofs.YtomhfnaekjmjnaaDoor
set_option linter.unusedVariables false
open Go.ChangeShapes Go.WideShapes Go.ChangeAt Go.RowKit
attribute [local go_sem ↓] Go.wp_at_zero Go.wp_at_succ comesTo_value_eq comesTo_skip_eq comesTo_enter_eq

def safeF (f : Int) : Int := if 0 ≤ f ∧ f ≤ 3 then 0 else 13
theorem arm_dk {w : World} {D : Nat} {F : Nat → Prop} {st : DS} (h : Dk w D F st) (n : Int) (hn : n ≤ 9223372036854775807) :
    Calls Tryd.prog 21 #[.pointer (some ⟨D, 0, none⟩), .int .i64 n] w fun e w' => e = .returned (.tuple #[]) ∧ Dk w' D F { st with left := max n (-1) } ∧ Fr F w w' := by
  have K := Lib.hid (there_yes h.made)
  obtain ⟨hm, hft, hsf, hl, v, lf, ar, hb, hr, hx⟩ := h
  have h1 := free_of_block 8 hb
  have h2 := free_of_block 9 hb
  have c1 : w.cell? ⟨D, 8, none⟩ = some (.int .i64 lf) := cell_of_block hb rfl
  have c2 : w.cell? ⟨D, 9, none⟩ = some (.bool ar) := cell_of_block hb rfl
  have HB := Lib.hid hb
  have HL := Lib.hid hn
  clear hb hx hl
  by_cases hq : 0 ≤ n
  · have hd : decide (n ≥ 0) = true := decide_eq_true hq
    have HQ := Lib.hid hq
    clear hq
    go_enter Tryd.func21, Tryd.ntmps21
    go_wp2_with (go_at_call 47; refine K.out.mono ?_; rintro e w' ⟨rfl, rfl⟩)
    go_end0
    have q := HQ.out
    have l := HL.out
    refine ⟨rfl, ⟨hm, hft, hsf, ⟨by show -1 ≤ max n (-1); omega, by show max n (-1) ≤ _; omega⟩, v, n, true, ?_, ?_, .inl ⟨rfl, by show n = max n (-1); omega, .inl q⟩⟩, ((Fr.refl F w).set hm 8 _).set hm 9 _⟩
    · exact (((wrote_refl HB.out).set 8 (.int .i64 n)).set 9 (.bool true)).there
    · exact ⟨fun k hk => (hr.own k hk).of_block fun g hg => by
        rw [Below.heap_setCell _ _ _ _ (hr.foot k g hk hg).2, Below.heap_setCell _ _ _ _ (hr.foot k g hk hg).2], hr.foot, hr.apart⟩
  · have hd : decide (n ≥ 0) = false := decide_eq_false hq
    have HQ := Lib.hid hq
    clear hq
    go_enter Tryd.func21, Tryd.ntmps21
    go_wp2_with (go_at_call 47; refine K.out.mono ?_; rintro e w' ⟨rfl, rfl⟩)
    go_end0
    have q := HQ.out
    have l := HL.out
    refine ⟨rfl, ⟨hm, hft, hsf, ⟨by show -1 ≤ max n (-1); omega, by show max n (-1) ≤ _; omega⟩, v, n, false, ?_, ?_, .inr ⟨rfl, by show max n (-1) = -1; omega⟩⟩, ((Fr.refl F w).set hm 8 _).set hm 9 _⟩
    · exact (((wrote_refl HB.out).set 8 (.int .i64 n)).set 9 (.bool false)).there
    · exact ⟨fun k hk => (hr.own k hk).of_block fun g hg => by
        rw [Below.heap_setCell _ _ _ _ (hr.foot k g hk hg).2, Below.heap_setCell _ _ _ _ (hr.foot k g hk hg).2], hr.foot, hr.apart⟩
end Go.Proofs.YtomhfnaekjmjnaaDoor
