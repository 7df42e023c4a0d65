/- Levels (layer 10): Of over steps that come in; UsageSteps walked. Conditions: the acts and steps that came in. -/
import Derived.Test.YthdljigcfhjikaaUrf
namespace Go.Proofs.Ythdljigcfhjikaa
set_option linter.unusedVariables false
open Go.ChangeShapes Go.WideShapes Go.ChangeAt Go.RowKit
attribute [local go_sem ↓] Go.wp_at_zero Go.wp_at_succ comesTo_value_eq comesTo_skip_eq comesTo_enter_eq Rl.comesToR_value_eq Rl.comesToR_skip_eq Rl.comesToR_enter_eq

theorem eltU : Ap.Elt Try.prog 55 60 2 16 :=
  ⟨Try.underlying55, by obtain ⟨i, h1, h2, h3, h4⟩ := info_parts3 info_step; exact ⟨i, _, h1, h2, h3, h4, rfl⟩, by decide⟩
def listX (X : Nat → Int × Int) (len : Nat) : List (Int × Int) := (List.range len).map X
theorem listX_len (X : Nat → Int × Int) (len : Nat) : (listX X len).length = len := by simp [listX]
theorem listX_get (X : Nat → Int × Int) {len k : Nat} (h : k < len) : (listX X len).getD k (0, 0) = X k := by
  simp [listX, List.getD_eq_getElem?_getD, h]
theorem listX_right {X : Nat → Int × Int} {len : Nat} : RightX X len ↔ RightU (listX X len) := by
  have hl := listX_len X len
  have key : RightX X len ↔ RightX (fun k => (listX X len).getD k (0, 0)) (listX X len).length := by
    rw [hl]
    unfold RightX
    constructor
    · rintro ⟨h0, h1, h2, h3⟩
      refine ⟨h0, by simp only; rw [listX_get X h0]; exact h1, by simp only; rw [listX_get X (by omega)]; exact h2, fun k hk => ?_⟩
      have := h3 k hk
      unfold StepOk at this ⊢
      simp only
      rw [listX_get X hk, listX_get X (show k - 1 < len by omega)]
      exact this
    · rintro ⟨h0, h1, h2, h3⟩
      simp only at h1 h2
      rw [listX_get X h0] at h1
      rw [listX_get X (by omega)] at h2
      refine ⟨h0, h1, h2, fun k hk => ?_⟩
      have := h3 k hk
      unfold StepOk at this ⊢
      simp only at this
      rw [listX_get X hk, listX_get X (show k - 1 < len by omega)] at this
      exact this
  exact key.trans ⟨rightX_list, list_rightX⟩
theorem listX_of (L : List (Int × Int)) : listX (fun k => L.getD k (0, 0)) L.length = L := by
  refine List.ext_getElem (by simp [listX]) fun k h1 h2 => ?_
  simp [listX, List.getElem?_eq_getElem h2]
theorem StepsX.rd {w : World} {ad : Option Addr} {len : Nat} {X : Nat → Int × Int} (cap : Nat) (h : StepsX w ad len X) (hp : 0 < len) : Ap.RdG w 2 (.slice ad len cap) len (flatU (listX X len)) := by
  obtain ⟨b, off, rfl, hb, hc⟩ := h.2 hp
  have hl := listX_len X len
  refine ⟨⟨_, cap, rfl, (fun h => by cases h), fun a ha j u hj => ?_, fun a ha _ => by cases ha; exact hb⟩, by rw [flatU_length, hl], flatU_one _⟩
  cases ha
  have hlt : j < (flatU (listX X len)).length := (List.getElem?_eq_some_iff.1 hj).1
  rw [flatU_length, hl] at hlt
  have hadd : (⟨b, off, none⟩ : Addr).add j = ⟨b, off + j, none⟩ := by unfold Addr.add; split <;> simp_all
  rw [hadd]
  obtain ⟨k, hk⟩ : ∃ k, j = k * 2 ∨ j = k * 2 + 1 := ⟨j / 2, by omega⟩
  have hkl : k < len := by omega
  have h1 := flatU_get (listX X len) k (by omega)
  rw [listX_get X hkl] at h1
  rcases hk with rfl | rfl
  · rw [h1.1] at hj; rw [← hj]; exact (hc k hkl).1
  · rw [h1.2] at hj; rw [← hj]; rw [← Nat.add_assoc]; exact (hc k hkl).2
set_option maxRecDepth 100000 in
set_option maxHeartbeats 1000000 in
theorem clone_x {w : World} {b off len cap : Nat} {X : Nat → Int × Int} (h : StepsX w (some ⟨b, off, none⟩) len X) (hp : 0 < len) (hl : len ≤ 1099511627776) :
    Calls Try.prog 68 #[.slice (some ⟨b, off, none⟩) len cap] w fun e w' => ∃ g' c', e = .returned (.slice (some ⟨g', 0, none⟩) len c') ∧ w.heap.size ≤ g' ∧ g' < w'.heap.size ∧ len ≤ c' ∧ URow w' g' (listX X len) ∧ Below w.heap.size w w' := by
  have hne : ∀ W, Sem.run Try.prog (binOp .eql 55 (.slice (some ⟨b, off, none⟩) len cap) (.slice none 0 0)) W = .ok (.bool false) W := fun W => by kernel_rfl
  have hll := listX_len X len
  go_enter Try.func68, Try.ntmps68
  go_upto_region 3 with fail
  refine wp_region_lit ?_
  refine wpList_yield (w' := w.alloc (.cells #[] 60)) (v := .slice (some ⟨w.heap.size, 0, none⟩) 0 0) rfl (by first | (go_simp; done) | (go_simp; rfl)) ?_
  have hb := below_alloc (Below.refl _ w) (.cells #[] 60)
  have hO := Ap.own_made w 60 (size := 2) (B := w.heap.size) (Nat.le_refl _)
  have hr1 := (h.below hb).rd cap hp
  have hs1 : w.heap.size < (w.alloc (.cells #[] 60)).heap.size := by simp
  generalize w.alloc (.cells #[] 60) = W1 at *
  refine wpList_yield (w' := W1) (v := .slice (some ⟨b, off, none⟩) len cap) rfl (by first | (go_simp; done) | (go_simp; rfl)) ?_
  obtain ⟨v', W2, hrun, hown, hgr, hbel⟩ := Ap.run_app eltU 55 w.heap.size _ 0 [] hO _ len _ hr1 (by unfold maxLen; omega) (by omega) (by omega)
  refine wpList_yield (w' := W2) (v := v') rfl (Ap.exec_app rfl (by go_simp) (by go_simp) hrun) ?_
  have ho : OwnU W2 w.heap.size v' (listX X len) := by
    unfold OwnU
    rw [hll]
    rw [Nat.zero_add, List.nil_append] at hown
    exact hown
  obtain ⟨ad, c', rfl, hc', had⟩ := ho.form
  obtain ⟨g', rfl, h1, h2⟩ := had (by omega)
  have hb2 : Below w.heap.size w W2 := Below.trans hb hbel
  have hrow := ho.row
  rw [hll] at hc' ⊢
  clear ho hown hrun hgr
  go_wp2_with fail
  go_ret
  exact ⟨g', c', rfl, h1, h2, hc', hrow, hb2⟩
set_option maxRecDepth 100000 in
set_option maxHeartbeats 2000000 in
theorem of_x {w : World} {ad : Option Addr} {len cap : Nat} {X : Nat → Int × Int} (h : StepsX w ad len X) (hl : len ≤ 1099511627776) :
    Calls Try.prog 29 #[.slice ad len cap] w fun e w' => ∃ v n, e = .returned (.tuple #[v, .int .i64 n]) ∧ ((RightX X len ∧ n = 0 ∧ ∃ S, v = .pointer (some ⟨S, 0, none⟩) ∧ w.heap.size ≤ S ∧ USt w' S (listX X len)) ∨ (¬ RightX X len ∧ n = 2 ∧ v = .pointer none)) ∧ Below w.heap.size w w' := by
  have KR := Lib.hid (right_steps (cap := cap) h)
  have HX := Lib.hid h
  clear h
  go_enter Try.func29, Try.ntmps29
  go_wp2_with fail
  refine KR.out.mono ?_
  rintro e w1 ⟨r, rfl, hr, hb1⟩
  have HR := Lib.hid hr
  have HB1 := Lib.hid hb1
  clear hr hb1
  cases r with
  | false =>
    have hn : ¬ RightX X len := fun h => by have := HR.out.2 h; cases this
    go_wp2_with fail
    go_ret2
    exact ⟨_, _, rfl, .inr ⟨hn, rfl, rfl⟩, HB1.out⟩
  | true =>
    have hy := HR.out.1 rfl
    have hp := hy.1
    have HY := Lib.hid hy
    clear hy
    obtain ⟨b, off, rfl, hbl, _⟩ := HX.out.2 hp
    have KC := Lib.hid (clone_x (cap := cap) (HX.out.below HB1.out) hp hl)
    go_wp2_with fail
    refine KC.out.mono ?_
    rintro e w2 ⟨g', c', rfl, h1, h2, h3, h4, h5⟩
    have hb := below_alloc (Below.refl _ w2) (.cells #[.slice (some ⟨g', 0, none⟩) len c'] 63)
    have hn := World.alloc_heap_new w2 (.cells #[.slice (some ⟨g', 0, none⟩) len c'] 63)
    have hll := listX_len X len
    have HU := Lib.hid (show USt (w2.alloc (.cells #[.slice (some ⟨g', 0, none⟩) len c'] 63)) w2.heap.size (listX X len) from ⟨⟨g', c', by omega, by rw [hll]; exact hn, by omega, by simp; omega, h4.mono (hb.block _ h2)⟩, by omega, by omega⟩)
    have HB := Lib.hid (below_next (below_next HB1.out h5) hb)
    have hsz : w.heap.size ≤ w2.heap.size := Nat.le_trans HB1.out.size h5.size
    clear h4 h5 hb hn hll
    go_wp2_with fail
    go_ret2
    exact ⟨_, _, rfl, .inl ⟨HY.out, rfl, w2.heap.size, rfl, hsz, HU.out⟩, HB.out⟩
end Go.Proofs.Ythdljigcfhjikaa
