/- A disk that was made: what its readings answer. No condition. A disk that was made: its bytes that are safe; arming it. No condition. -/
import Derived.Test.YtomhfnaekjmjnaaDoorDk
import Derived.Test.YtomhfnaekjmjnaaDoorGrow
import Derived.Lib.MinMax
namespace Go.Proofs.YtomhfnaekjmjnaaDoor
set_option linter.unusedVariables false
section
open Go.ChangeShapes Go.WideShapes Go.ChangeAt Go.RowKit
attribute [local go_sem ↓] Go.wp_at_zero Go.wp_at_succ comesTo_value_eq comesTo_skip_eq comesTo_enter_eq

theorem there_yes {w : World} {D : Nat} (h : w.cell? ⟨D, 11, none⟩ = some (.bool true)) : Calls Tryd.prog 47 #[.pointer (some ⟨D, 0, none⟩)] w fun e w' => e = .returned (.bool true) ∧ w = w' := by
  go_enter Tryd.func47, Tryd.ntmps47
  go_wp2
  go_ret
  exact ⟨rfl, rfl⟩
theorem has_any (f : Int) (w : World) : Calls Tryd.prog 69 #[.int .i64 f] w fun e w' => e = .returned (.bool (decide (0 ≤ f ∧ f ≤ 3))) ∧ w = w' := by
  rcases (by omega : 0 ≤ f ∧ f ≤ 3 ∨ ¬ 0 ≤ f ∨ 0 ≤ f ∧ ¬ f ≤ 3) with ⟨h1, h2⟩ | h1 | ⟨h1, h2⟩
  · have hq : decide (f ≥ 0) = true := decide_eq_true h1
    have hq2 : decide (f < 4) = true := decide_eq_true (by omega)
    go_enter Tryd.func69, Tryd.ntmps69
    go_wp2
    go_ret
    exact ⟨by simp [h1, h2]; try omega, rfl⟩
  · have hq : decide (f ≥ 0) = false := decide_eq_false h1
    go_enter Tryd.func69, Tryd.ntmps69
    go_wp2
    go_ret
    exact ⟨by simp [h1], rfl⟩
  · have hq : decide (f ≥ 0) = true := decide_eq_true h1
    have hq2 : decide (f < 4) = false := decide_eq_false (by omega)
    go_enter Tryd.func69, Tryd.ntmps69
    go_wp2
    go_ret
    exact ⟨by simp [h1, h2]; try omega, rfl⟩
/-- what any call of a file may meet -/
def wrongF (down : Bool) (f : Int) : Int := if down then 17 else if 0 ≤ f ∧ f ≤ 3 then 0 else 13
theorem wrong_yes {w : World} {D : Nat} {down : Bool} (h : w.cell? ⟨D, 11, none⟩ = some (.bool true)) (hd : w.cell? ⟨D, 10, none⟩ = some (.bool down)) (f : Int) :
    Calls Tryd.prog 51 #[.pointer (some ⟨D, 0, none⟩), .int .i64 f] w fun e w' => e = .returned (.int .i64 (wrongF down f)) ∧ w = w' := by
  have KT := Lib.hid (there_yes h)
  have KH := Lib.hid (has_any f w)
  clear h
  by_cases hf : 0 ≤ f ∧ f ≤ 3
  · have hq : decide (0 ≤ f ∧ f ≤ 3) = true := decide_eq_true hf
    have hr : ∀ b, wrongF b f = if b then 17 else 0 := fun b => by simp [wrongF, hf]
    have HF := Lib.hid hf
    clear hf
    cases down <;> rw [hr] <;> (
    go_enter Tryd.func51, Tryd.ntmps51
    go_wp2_with fail
    refine KT.out.mono ?_
    rintro e w' ⟨rfl, rfl⟩
    go_wp2_with (go_at_call 69; refine KH.out.mono ?_; rintro e w' ⟨rfl, rfl⟩)
    go_ret
    exact ⟨rfl, rfl⟩)
  · have hq : decide (0 ≤ f ∧ f ≤ 3) = false := decide_eq_false hf
    have hr : ∀ b, wrongF b f = if b then 17 else 13 := fun b => by simp [wrongF, hf]
    have HF := Lib.hid hf
    clear hf
    cases down <;> rw [hr] <;> (
    go_enter Tryd.func51, Tryd.ntmps51
    go_wp2_with fail
    refine KT.out.mono ?_
    rintro e w' ⟨rfl, rfl⟩
    go_wp2_with (go_at_call 69; refine KH.out.mono ?_; rintro e w' ⟨rfl, rfl⟩)
    go_ret
    exact ⟨rfl, rfl⟩)
theorem Dk.made {w : World} {D : Nat} {F : Nat → Prop} {st : DS} (h : Dk w D F st) : w.cell? ⟨D, 11, none⟩ = some (.bool true) := by
  obtain ⟨_, _, _, _, v, lf, ar, hb, _⟩ := h
  exact cell_of_block hb rfl
theorem Dk.isDown {w : World} {D : Nat} {F : Nat → Prop} {st : DS} (h : Dk w D F st) : w.cell? ⟨D, 10, none⟩ = some (.bool st.down) := by
  obtain ⟨_, _, _, _, v, lf, ar, hb, _⟩ := h
  exact cell_of_block hb rfl
theorem wrong_dk {w : World} {D : Nat} {F : Nat → Prop} {st : DS} (h : Dk w D F st) (f : Int) : Calls Tryd.prog 51 #[.pointer (some ⟨D, 0, none⟩), .int .i64 f] w fun e w' => e = .returned (.int .i64 (wrongF st.down f)) ∧ w = w' :=
  wrong_yes h.made h.isDown f
/-- what a reading leaves: a row of the call's own -/
def ReadEnd (w : World) (code : Int) (xs : List Int) (e : Ending) (w' : World) : Prop := ∃ u, e = .returned (.tuple #[u, .int .i64 code]) ∧ OwnTxt w' w.heap.size u (if code = 0 then xs else []) ∧ Below w.heap.size w w' ∧ w.grownBy w' none
theorem Dk.row {w : World} {D : Nat} {F : Nat → Prop} {st : DS} (h : Dk w D F st) (k : Nat) (hk : k < 4) : ∃ v, w.cell? ⟨D, 2 * k, none⟩ = some v ∧ OwnTxt w 0 v (st.b k) ∧ w.cell? ⟨D, 2 * k + 1, none⟩ = some (.int .i64 (st.s k)) := by
  obtain ⟨_, _, _, _, v, lf, ar, hb, hr, _⟩ := h
  refine ⟨v k, ?_, hr.own k hk, ?_⟩
  · rcases (by omega : k = 0 ∨ k = 1 ∨ k = 2 ∨ k = 3) with rfl | rfl | rfl | rfl <;> exact cell_of_block hb rfl
  · rcases (by omega : k = 0 ∨ k = 1 ∨ k = 2 ∨ k = 3) with rfl | rfl | rfl | rfl <;> exact cell_of_block hb rfl
theorem read_dk {w : World} {D : Nat} {F : Nat → Prop} {st : DS} (h : Dk w D F st) (f : Int) :
    Calls Tryd.prog 24 #[.pointer (some ⟨D, 0, none⟩), .int .i64 f] w fun e w' => ReadEnd w (wrongF st.down f) (st.b f.toNat) e w' := by
  have K := Lib.hid (wrong_dk h f)
  have H := Lib.hid h
  by_cases hw : wrongF st.down f = 0
  · have hf : 0 ≤ f ∧ f ≤ 3 := by
      unfold wrongF at hw
      split at hw
      · cases hw
      · split at hw
        · assumption
        · cases hw
    obtain ⟨k, rfl⟩ : ∃ k : Nat, f = (k : Int) := ⟨f.toNat, by omega⟩
    have hk : k < 4 := by omega
    obtain ⟨v, hv, ho, _⟩ := h.row k hk
    have KC := Lib.hid (clone_bytes ho.at (by have := h.fits k hk; omega))
    rw [hw] at K ⊢
    clear hw hf ho
    clear h
    have hk2 : ((k : Int)).toNat = k := by omega
    rcases (by omega : k = 0 ∨ k = 1 ∨ k = 2 ∨ k = 3) with rfl | rfl | rfl | rfl <;> (
    go_enter Tryd.func24, Tryd.ntmps24
    go_wp2_with fail
    refine K.out.mono ?_
    rintro e w' ⟨rfl, rfl⟩
    simp only [Nat.reduceMul, Nat.reduceAdd] at hv
    go_wp2_with fail
    refine KC.out.mono ?_
    rintro e w' ⟨u, rfl, o, b, g⟩
    go_wp2_with fail
    go_ret2
    exact ⟨u, rfl, o, b, g⟩)
  · clear h
    have hne : ¬ (wrongF st.down f = 0) := hw
    generalize wrongF st.down f = q at *
    go_enter Tryd.func24, Tryd.ntmps24
    go_wp2_with fail
    refine K.out.mono ?_
    rintro e w' ⟨rfl, rfl⟩
    go_wp2_with fail
    go_ret2
    exact ⟨_, rfl, by rw [if_neg hne]; exact OwnTxt.nil, Below.refl _ _, World.grownBy.refl _ _⟩
end
section
open Go.ChangeShapes Go.WideShapes Go.ChangeAt Go.RowKit
attribute [local go_sem ↓] Go.wp_at_zero Go.wp_at_succ comesTo_value_eq comesTo_skip_eq comesTo_enter_eq

def safeF (f : Int) : Int := if 0 ≤ f ∧ f ≤ 3 then 0 else 13
theorem arm_dk {w : World} {D : Nat} {F : Nat → Prop} {st : DS} (h : Dk w D F st) (n : Int) (hn : n ≤ 9223372036854775807) :
    Calls Tryd.prog 21 #[.pointer (some ⟨D, 0, none⟩), .int .i64 n] w fun e w' => e = .returned (.tuple #[]) ∧ Dk w' D F { st with left := max n (-1) } ∧ Fr F w w' := by
  have K := Lib.hid (there_yes h.made)
  obtain ⟨hm, hft, hsf, hl, v, lf, ar, hb, hr, hx⟩ := h
  have h1 := free_of_block 8 hb
  have h2 := free_of_block 9 hb
  have c1 : w.cell? ⟨D, 8, none⟩ = some (.int .i64 lf) := cell_of_block hb rfl
  have c2 : w.cell? ⟨D, 9, none⟩ = some (.bool ar) := cell_of_block hb rfl
  have HB := Lib.hid hb
  have HL := Lib.hid hn
  clear hb hx hl
  by_cases hq : 0 ≤ n
  · have hd : decide (n ≥ 0) = true := decide_eq_true hq
    have HQ := Lib.hid hq
    clear hq
    go_enter Tryd.func21, Tryd.ntmps21
    go_wp2_with (go_at_call 47; refine K.out.mono ?_; rintro e w' ⟨rfl, rfl⟩)
    go_end0
    have q := HQ.out
    have l := HL.out
    refine ⟨rfl, ⟨hm, hft, hsf, ⟨by show -1 ≤ max n (-1); omega, by show max n (-1) ≤ _; omega⟩, v, n, true, ?_, ?_, .inl ⟨rfl, by show n = max n (-1); omega, .inl q⟩⟩, ((Fr.refl F w).set hm 8 _).set hm 9 _⟩
    · exact (((wrote_refl HB.out).set 8 (.int .i64 n)).set 9 (.bool true)).there
    · exact ⟨fun k hk => (hr.own k hk).of_block fun g hg => by
        rw [Below.heap_setCell _ _ _ _ (hr.foot k g hk hg).2, Below.heap_setCell _ _ _ _ (hr.foot k g hk hg).2], hr.foot, hr.apart⟩
  · have hd : decide (n ≥ 0) = false := decide_eq_false hq
    have HQ := Lib.hid hq
    clear hq
    go_enter Tryd.func21, Tryd.ntmps21
    go_wp2_with (go_at_call 47; refine K.out.mono ?_; rintro e w' ⟨rfl, rfl⟩)
    go_end0
    have q := HQ.out
    have l := HL.out
    refine ⟨rfl, ⟨hm, hft, hsf, ⟨by show -1 ≤ max n (-1); omega, by show max n (-1) ≤ _; omega⟩, v, n, false, ?_, ?_, .inr ⟨rfl, by show max n (-1) = -1; omega⟩⟩, ((Fr.refl F w).set hm 8 _).set hm 9 _⟩
    · exact (((wrote_refl HB.out).set 8 (.int .i64 n)).set 9 (.bool false)).there
    · exact ⟨fun k hk => (hr.own k hk).of_block fun g hg => by
        rw [Below.heap_setCell _ _ _ _ (hr.foot k g hk hg).2, Below.heap_setCell _ _ _ _ (hr.foot k g hk hg).2], hr.foot, hr.apart⟩
end
end Go.Proofs.YtomhfnaekjmjnaaDoor
