/- A disk that was made: its bytes that are safe; arming it. No condition. -/
import Derived.Test.YtemkjgohpihigaaDkA
namespace Go.Proofs.Ytemkjgohpihigaa
set_option linter.unusedVariables false
open Go.ChangeShapes Go.WideShapes Go.ChangeAt Go.RowKit
attribute [local go_sem ↓] Go.wp_at_zero Go.wp_at_succ comesTo_value_eq comesTo_skip_eq comesTo_enter_eq

def safeF (f : Int) : Int := if 0 ≤ f ∧ f ≤ 3 then 0 else 13
set_option maxRecDepth 100000 in
set_option maxHeartbeats 4000000 in
theorem safe_dk {w : World} {D : Nat} {F : Nat → Prop} {st : DS} (h : Dk w D F st) (f : Int) :
    Calls Try.prog 22 #[.pointer (some ⟨D, 0, none⟩), .int .i64 f] w fun e w' => ReadEnd w (safeF f) ((st.b f.toNat).take (st.s f.toNat)) e w' := by
  have hmx : Try.prog.follows .mixedOrders = true := by kernel_rfl
  have K := Lib.hid (wrong_dk h f)
  have KH := Lib.hid (has_any f w)
  have H := Lib.hid h
  by_cases hf : 0 ≤ f ∧ f ≤ 3
  · obtain ⟨k, rfl⟩ : ∃ k : Nat, f = (k : Int) := ⟨f.toNat, by omega⟩
    have hk : k < 4 := by omega
    obtain ⟨v, hv, ho, hs⟩ := h.row k hk
    have hsafe := h.safe k hk
    have hfit := h.fits k hk
    have hq : decide (0 ≤ (k : Int) ∧ (k : Int) ≤ 3) = true := decide_eq_true hf
    rw [hq] at KH
    have e2 : safeF (k : Int) = 0 := by unfold safeF; rw [if_pos hf]
    rw [e2]
    have hk2 : ((k : Int)).toNat = k := by omega
    rw [hk2]
    have hd : wrongF st.down (k : Int) = if st.down then 17 else 0 := by unfold wrongF; rw [if_pos hf]
    rw [hd] at K
    clear hq e2 hk2 hd hf h
    -- the bytes that are handed on
    obtain ⟨ad, n, c, rfl, o2, hn, hc, hsp⟩ : ∃ ad n c, v = .slice ad n c ∧ OwnTxt w 0 (.slice ad (st.s k) c) ((st.b k).take (st.s k)) ∧ n = (st.b k).length ∧ (st.b k).length ≤ c ∧ ((ad = none ∧ n = 0 ∧ c = 0) ∨ ∃ g, ad = some ⟨g, 0, none⟩) := by
      rcases ho.form with ⟨rfl, e0⟩ | ⟨g, c, rfl, hc, _⟩
      · exact ⟨none, 0, 0, rfl, ho.take hsafe, by rw [e0]; rfl, by rw [e0]; exact Nat.le_refl _, .inl ⟨rfl, rfl, rfl⟩⟩
      · exact ⟨_, _, c, rfl, ho.take hsafe, rfl, hc, .inr ⟨g, rfl⟩⟩
    have hl : ((st.b k).take (st.s k)).length = st.s k := by simp; omega
    have KC := Lib.hid (fun w' (hb : Below w.heap.size w w') => clone_bytes (o2.at.below hb) (by rw [hl]; omega))
    have e10 : st.down = true ∨ st.down = false := by cases st.down <;> simp
    generalize st.down = down at *
    generalize hss : st.s k = s at *
    generalize (st.b k) = xs at *
    have hsl : ∀ W : World, Sem.run Try.prog (Instr.slice 30 (.slice ad n c) none (some (.int .i64 (s : Int))) none) W = .ok (.slice ad s c) W := fun W => by
      exact slice_to hsp (by omega) W
    clear hsp
    have HS := Lib.hid (And.intro hss (And.intro hn (And.intro hc (And.intro hsafe hfit))))
    clear hss hn hc hsafe hfit ho hl o2
    rcases e10 with rfl | rfl <;> (
    rcases (by omega : k = 0 ∨ k = 1 ∨ k = 2 ∨ k = 3) with rfl | rfl | rfl | rfl <;> (
    go_enter Try.func22, Try.ntmps22
    simp only [Nat.reduceMul, Nat.reduceAdd] at hv hs
    go_wp2_with fail
    refine K.out.mono ?_
    rintro e w' ⟨rfl, rfl⟩
    go_wp2_with fail
    refine KH.out.mono ?_
    rintro e w' ⟨rfl, rfl⟩
    go_wp2_with fail
    refine wp_region_grow_tail 15 (fun w' => w' = w.drew) hmx (by kernel_rfl) rfl ?_
    simp only [List.take_succ_cons, List.take_zero, List.drop_succ_cons, List.drop_zero]
    iterate 15 (refine textS_run ?_ ?_ (fun W hS => ?_) ?_; rotate_left; (focus go_simp); (focus (subst hS; go_simp; all_goals (first | exact ⟨rfl, rfl⟩ | rfl | (refine ⟨?_, rfl⟩; rfl)))); (try go_simp))
    refine textS_nil ?_
    go_wp2_with fail
    refine (KC.out _ (Below.drew (Below.refl _ _))).mono ?_
    rintro e w' ⟨u, rfl, o, b, g⟩
    go_wp2_with fail
    go_ret2
    exact ⟨u, rfl, o, Below.trans (Below.drew (Below.refl _ _)) b, ⟨g.os, g.tape, g.output, g.size, g.block⟩⟩))
  · have hq : decide (0 ≤ f ∧ f ≤ 3) = false := decide_eq_false hf
    rw [hq] at KH
    have e2 : safeF f = 13 := by unfold safeF; rw [if_neg hf]
    rw [e2]
    have hd : wrongF st.down f = if st.down then 17 else 13 := by unfold wrongF; rw [if_neg hf]
    rw [hd] at K
    clear hq e2 hd hf h
    cases hdn : st.down <;> rw [hdn] at K
    · go_enter Try.func22, Try.ntmps22
      go_wp2_with fail
      refine K.out.mono ?_
      rintro e w' ⟨rfl, rfl⟩
      go_wp2_with fail
      go_ret2
      exact ⟨_, rfl, OwnTxt.nil, Below.refl _ _, World.grownBy.refl _ _⟩
    · go_enter Try.func22, Try.ntmps22
      go_wp2_with fail
      refine K.out.mono ?_
      rintro e w' ⟨rfl, rfl⟩
      go_wp2_with fail
      refine KH.out.mono ?_
      rintro e w' ⟨rfl, rfl⟩
      go_wp2_with fail
      go_ret2
      exact ⟨_, rfl, OwnTxt.nil, Below.refl _ _, World.grownBy.refl _ _⟩
theorem arm_dk {w : World} {D : Nat} {F : Nat → Prop} {st : DS} (h : Dk w D F st) (n : Int) (hn : n ≤ 9223372036854775807) :
    Calls Try.prog 12 #[.pointer (some ⟨D, 0, none⟩), .int .i64 n] w fun e w' => e = .returned (.tuple #[]) ∧ Dk w' D F { st with left := max n (-1) } ∧ Fr F w w' := by
  have K := Lib.hid (there_yes h.made)
  obtain ⟨hm, hft, hsf, hl, v, lf, ar, hb, hr, hx⟩ := h
  have h1 := free_of_block 8 hb
  have h2 := free_of_block 9 hb
  have c1 : w.cell? ⟨D, 8, none⟩ = some (.int .i64 lf) := cell_of_block hb rfl
  have c2 : w.cell? ⟨D, 9, none⟩ = some (.bool ar) := cell_of_block hb rfl
  have HB := Lib.hid hb
  have HL := Lib.hid hn
  clear hb hx hl
  by_cases hq : 0 ≤ n
  · have hd : decide (n ≥ 0) = true := decide_eq_true hq
    have HQ := Lib.hid hq
    clear hq
    go_enter Try.func12, Try.ntmps12
    go_wp2_with (go_at_call 20; refine K.out.mono ?_; rintro e w' ⟨rfl, rfl⟩)
    go_end0
    have q := HQ.out
    have l := HL.out
    refine ⟨rfl, ⟨hm, hft, hsf, ⟨by show -1 ≤ max n (-1); omega, by show max n (-1) ≤ _; omega⟩, v, n, true, ?_, ?_, .inl ⟨rfl, by show n = max n (-1); omega, .inl q⟩⟩, ((Fr.refl F w).set hm 8 _).set hm 9 _⟩
    · exact (((wrote_refl HB.out).set 8 (.int .i64 n)).set 9 (.bool true)).there
    · exact ⟨fun k hk => (hr.own k hk).of_block fun g hg => by
        rw [Below.heap_setCell _ _ _ _ (hr.foot k g hk hg).2, Below.heap_setCell _ _ _ _ (hr.foot k g hk hg).2], hr.foot, hr.apart⟩
  · have hd : decide (n ≥ 0) = false := decide_eq_false hq
    have HQ := Lib.hid hq
    clear hq
    go_enter Try.func12, Try.ntmps12
    go_wp2_with (go_at_call 20; refine K.out.mono ?_; rintro e w' ⟨rfl, rfl⟩)
    go_end0
    have q := HQ.out
    have l := HL.out
    refine ⟨rfl, ⟨hm, hft, hsf, ⟨by show -1 ≤ max n (-1); omega, by show max n (-1) ≤ _; omega⟩, v, n, false, ?_, ?_, .inr ⟨rfl, by show max n (-1) = -1; omega⟩⟩, ((Fr.refl F w).set hm 8 _).set hm 9 _⟩
    · exact (((wrote_refl HB.out).set 8 (.int .i64 n)).set 9 (.bool false)).there
    · exact ⟨fun k hk => (hr.own k hk).of_block fun g hg => by
        rw [Below.heap_setCell _ _ _ _ (hr.foot k g hk hg).2, Below.heap_setCell _ _ _ _ (hr.foot k g hk hg).2], hr.foot, hr.apart⟩
end Go.Proofs.Ytemkjgohpihigaa
