/- Levels (layer 10): Add, Set, Forget over right steps. Condition: the lengths' bound. -/
import Derived.Test.YthdljigcfhjikaaUsq
import Derived.Test.YthdljigcfhjikaaUsn
namespace Go.Proofs.Ythdljigcfhjikaa
set_option linter.unusedVariables false
open Go.ChangeShapes Go.WideShapes Go.ChangeAt Go.RowKit
attribute [local go_sem ↓] Go.wp_at_zero Go.wp_at_succ comesTo_value_eq comesTo_skip_eq comesTo_enter_eq

theorem RightU.pos {L : List (Int × Int)} (h : RightU L) : 0 < L.length := by
  obtain ⟨v, r, e⟩ := h.head
  rw [e]; simp
theorem addF_in (n : Int) : ∀ x, -1000000 ≤ addF n x ∧ addF n x ≤ 1000000 := fun x => boundU_in _
theorem right_flat (n : Int) : RightU [(0, boundU n)] :=
  ⟨⟨_, _, rfl⟩, by simp, fun a b p q e => by have := congrArg List.length e; simp at this; omega, fun p hp => by simp at hp; subst hp; show (0 : Int) < 1099511627776; decide, fun p hp => by simp at hp; subst hp; exact boundU_in n⟩
theorem add_r {w : World} {S : Nat} {L : List (Int × Int)} (h : USt w S L) (hr : RightU L) (hl : 3 * L.length ≤ 1099511627776) (f t n : Int) :
    Calls Try.prog 22 #[.pointer (some ⟨S, 0, none⟩), .agg #[.int .i64 f, .int .i64 t], .int .i64 n] w fun e w' => e = .returned (.int .i64 0) ∧ USt w' S (changeU (addF (byU n)) L (f, t)) ∧ FrU S w w' :=
  add_u h f t n (by have := changeU_len (addF (byU n)) L (f, t); omega) (change_right hr (addF_in (byU n)) f t).1.pos
theorem set_r {w : World} {S : Nat} {L : List (Int × Int)} (h : USt w S L) (hr : RightU L) (hl : 3 * L.length ≤ 1099511627776) (f t n : Int) :
    Calls Try.prog 30 #[.pointer (some ⟨S, 0, none⟩), .agg #[.int .i64 f, .int .i64 t], .int .i64 n] w fun e w' => e = .returned (.int .i64 0) ∧ USt w' S (changeU (fun _ => boundU n) L (f, t)) ∧ FrU S w w' :=
  set_any h f t n (by have := changeU_len (fun _ => boundU n) L (f, t); omega) (change_right hr (fun _ => boundU_in n) f t).1.pos
/-- the levels behind a forgetting -/
def forgetU (L : List (Int × Int)) (t : Int) : List (Int × Int) := if clampI t = 1099511627776 then L else changeU (fun _ => boundU (atU L (clampI t))) L (0, clampI t)
theorem forget_right {L : List (Int × Int)} (h : RightU L) (t : Int) : RightU (forgetU L t) := by
  unfold forgetU
  split
  · exact h
  · exact (change_right h (fun _ => boundU_in _) 0 (clampI t)).1
theorem forgetU_len (L : List (Int × Int)) (t : Int) : (forgetU L t).length ≤ 3 * L.length := by
  unfold forgetU
  split
  · omega
  · exact changeU_len _ _ _
set_option maxRecDepth 100000 in
set_option maxHeartbeats 1000000 in
theorem forget_any {w : World} {S : Nat} {L : List (Int × Int)} (h : USt w S L) (hr : RightU L) (hl : 3 * L.length ≤ 1099511627776) (t : Int) :
    Calls Try.prog 31 #[.pointer (some ⟨S, 0, none⟩), .int .i64 t] w fun e w' => e = .returned (.int .i64 0) ∧ USt w' S (forgetU L t) ∧ FrU S w w' := by
  have KT := Lib.hid (there_any h)
  have KC := Lib.hid (fun W => clamp_any t W)
  have KA := Lib.hid (fun W x (hb : Below w.heap.size w W) => at_any (h.below hb) x)
  have KS := Lib.hid (fun W x y (hb : Below w.heap.size w W) => set_r (h.below hb) hr hl 0 x y)
  have HH := Lib.hid h
  obtain ⟨res, hres⟩ : ∃ r, r = forgetU L t := ⟨_, rfl⟩
  rw [← hres]
  have HR := Lib.hid (show res = if clampI t = 1099511627776 then L else changeU (fun _ => boundU (atU L (clampI t))) L (0, clampI t) from hres)
  clear h hres
  generalize clampI t = c at *
  by_cases hc : c = 1099511627776
  · have E := Lib.hid (show res = L by rw [HR.out, if_pos hc])
    have hd : (c == 1099511627776) = true := beq_iff_eq.2 hc
    go_enter Try.func31, Try.ntmps31
    go_wp2_with fail
    refine KT.out.mono ?_
    rintro e w' ⟨rfl, rfl⟩
    go_wp2_with fail
    refine (KC.out _).mono ?_
    rintro e w' ⟨rfl, rfl⟩
    go_wp2_with fail
    go_ret
    exact ⟨rfl, by rw [E.out]; exact HH.out, FrU.refl _ _⟩
  · have E := Lib.hid (show res = changeU (fun _ => boundU (atU L c)) L (0, c) by rw [HR.out, if_neg hc])
    have hd : (c == 1099511627776) = false := beq_eq_false_iff_ne.2 hc
    go_enter Try.func31, Try.ntmps31
    go_wp2_with fail
    refine KT.out.mono ?_
    rintro e w' ⟨rfl, rfl⟩
    go_wp2_with fail
    refine (KC.out _).mono ?_
    rintro e w' ⟨rfl, rfl⟩
    go_wp2_with fail
    refine (KA.out _ c (Below.refl _ _)).mono ?_
    rintro e w1 ⟨rfl, hb1⟩
    go_wp2_with fail
    refine (KS.out _ c (atU L c) hb1).mono ?_
    rintro e w2 ⟨rfl, hu, hf⟩
    have HX := Lib.hid (And.intro hu (FrU.after hb1 hf))
    clear hu hf hb1
    go_wp2_with fail
    go_ret
    exact ⟨rfl, by rw [E.out]; exact HX.out.1, HX.out.2⟩
end Go.Proofs.Ythdljigcfhjikaa
