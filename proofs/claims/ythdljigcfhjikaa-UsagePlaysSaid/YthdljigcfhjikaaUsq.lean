/- Levels (layer 10), plainly: the least and the greatest level of a span, the level at a time, by the level at each time. No condition but that the steps are right. -/
import Derived.Test.YthdljigcfhjikaaUsp
namespace Go.Proofs.Ythdljigcfhjikaa
set_option linter.unusedVariables false
open Go.RowKit
/-- what has been chosen of the times up to T -/
structure ChoV (L : List (Int × Int)) (f t : Int) (rel : Int → Int → Prop) (T : Int) (st : Int × Bool) : Prop where
  no : st.2 = false → ∀ x, 0 ≤ x → x < T → ¬ (clampI f ≤ x ∧ x < clampI t)
  ex : st.2 = true → ∃ x, 0 ≤ x ∧ x < T ∧ clampI f ≤ x ∧ x < clampI t ∧ lvl 0 L x = st.1
  all : st.2 = true → ∀ x, 0 ≤ x → x < T → clampI f ≤ x → x < clampI t → rel st.1 (lvl 0 L x)
theorem clampI_bounds (n : Int) : 0 ≤ clampI n ∧ clampI n ≤ 1099511627776 := by unfold clampI; split <;> (try split) <;> omega
theorem clampI_of {n : Int} (h : 0 ≤ n) (h' : n ≤ 1099511627776) : clampI n = n := by unfold clampI; rw [if_neg (by omega), if_neg (by omega)]
theorem choose_spec {L : List (Int × Int)} (h : RightU L) (bt : Int → Int → Int) (rel : Int → Int → Prop) (hrefl : ∀ a, rel a a) (htrans : ∀ a b c, rel a b → rel b c → rel a c) (hb1 : ∀ a b, rel (bt a b) a ∧ rel (bt a b) b) (hb2 : ∀ a b, bt a b = a ∨ bt a b = b) (f t : Int) :
    ChoV L f t rel 1099511627776 (chooseGo bt (f, t) (runsU L) (0, false)) := by
  have key : ∀ (m k : Nat) (st : Int × Bool), k + m = L.length → (k < L.length → ChoV L f t rel (L.getD k (0, 0)).1 st) → (k = L.length → ChoV L f t rel 1099511627776 st) → ChoV L f t rel 1099511627776 (chooseGo bt (f, t) ((runsU L).drop k) st) := by
    intro m
    induction m with
    | zero =>
      intro k st hk _ h2
      have : (runsU L).drop k = [] := by apply List.drop_eq_nil_of_le; unfold runsU; simp; omega
      rw [this]
      exact h2 (by omega)
    | succ m ih =>
      intro k st hk h1 _
      have hkl : k < L.length := by omega
      rw [runsU_drop' hkl]
      obtain ⟨b0, b1, b2⟩ := toU_le h hkl
      have hl : ∀ x, (L.getD k (0, 0)).1 ≤ x → x < toU L k → lvl 0 L x = (L.getD k (0, 0)).2 := fun x hx hx' => lvl_at h.sorted 0 k x hkl hx fun hk1 => by unfold toU at hx'; rw [if_pos hk1] at hx'; exact hx'
      have H := h1 hkl
      generalize hA : (L.getD k (0, 0)).1 = A at *
      generalize hV : (L.getD k (0, 0)).2 = V at *
      have hm : meetsU (A, toU L k) (f, t) = decide (max A (clampI f) < min (toU L k) (clampI t)) := by
        unfold meetsU bothT bothF
        simp only
        rw [clampI_of b0 (by omega), clampI_of (show 0 ≤ toU L k by omega) b2]
        rw [Bool.eq_iff_iff]
        simp only [Bool.not_eq_true', decide_eq_false_iff_not, decide_eq_true_eq]
        omega
      have hst : ChoV L f t rel (toU L k) (if meetsU (A, toU L k) (f, t) then (if st.2 then (bt st.1 V, true) else (bt V V, true)) else st) := by
        rw [hm]
        by_cases hmm : max A (clampI f) < min (toU L k) (clampI t)
        · rw [decide_eq_true hmm]
          simp only [if_true]
          have hx0 := hl (max A (clampI f)) (by omega) (by omega)
          cases h2 : st.2 with
          | true =>
            simp only [if_true]
            obtain ⟨x, x0, x1, x2, x3, x4⟩ := H.ex h2
            refine ⟨fun hh => by simp at hh, fun _ => ?_, fun _ y y0 y1 y2 y3 => ?_⟩
            · rcases hb2 st.1 V with e | e
              · exact ⟨x, x0, by omega, x2, x3, x4.trans e.symm⟩
              · exact ⟨max A (clampI f), by omega, by omega, by omega, by omega, hx0.trans e.symm⟩
            · by_cases hy : y < A
              · exact htrans _ _ _ (hb1 st.1 V).1 (H.all h2 y y0 hy y2 y3)
              · rw [hl y (by omega) y1]; exact (hb1 st.1 V).2
          | false =>
            simp only [Bool.false_eq_true, if_false]
            have eVV : bt V V = V := by rcases hb2 V V with e | e <;> exact e
            rw [eVV]
            refine ⟨fun hh => by simp at hh, fun _ => ⟨max A (clampI f), by omega, by omega, by omega, by omega, hx0⟩, fun _ y y0 y1 y2 y3 => ?_⟩
            by_cases hy : y < A
            · exact absurd ⟨y2, y3⟩ (H.no h2 y y0 hy)
            · rw [hl y (by omega) y1]; exact hrefl _
        · rw [decide_eq_false hmm]
          simp only [Bool.false_eq_true, if_false]
          refine ⟨fun h2 y y0 y1 hy => ?_, fun h2 => ?_, fun h2 y y0 y1 y2 y3 => ?_⟩
          · by_cases hyA : y < A
            · exact H.no h2 y y0 hyA hy
            · omega
          · obtain ⟨x, x0, x1, x2⟩ := H.ex h2
            exact ⟨x, x0, by omega, x2⟩
          · by_cases hyA : y < A
            · exact H.all h2 y y0 hyA y2 y3
            · omega
      unfold chooseGo
      simp only
      by_cases hs : toU L k < t
      · rw [if_pos hs]
        refine ih (k + 1) _ (by omega) (fun hk1 => ?_) (fun hk1 => ?_)
        · have e : toU L k = (L.getD (k + 1) (0, 0)).1 := by unfold toU; rw [if_pos hk1]
          rw [← e]; exact hst
        · have e : toU L k = 1099511627776 := by unfold toU; rw [if_neg (by omega)]
          rw [← e]
          have := hst
          rw [e] at this ⊢
          exact this
      · rw [if_neg hs]
        have hct : clampI t ≤ toU L k := by unfold clampI; split <;> (try split) <;> omega
        exact ⟨fun h2 y y0 _ hy => hst.no h2 y y0 (by omega) hy, fun h2 => by obtain ⟨x, x0, x1, x2⟩ := hst.ex h2; exact ⟨x, x0, by omega, x2⟩, fun h2 y y0 _ y2 y3 => hst.all h2 y y0 (by omega) y2 y3⟩
  have := key L.length 0 (0, false) (by omega) (fun h0 => ?_) (fun h0 => ?_)
  · simpa using this
  · obtain ⟨v, r, e⟩ := h.head
    have : (L.getD 0 (0, 0)).1 = 0 := by rw [e]; rfl
    rw [this]
    exact ⟨fun _ x h1 h2 => by omega, fun hh => by simp at hh, fun hh => by simp at hh⟩
  · obtain ⟨v, r, e⟩ := h.head
    rw [e] at h0; simp at h0
theorem minU_rel : (∀ a b : Int, minU a b ≤ a ∧ minU a b ≤ b) ∧ ∀ a b : Int, minU a b = a ∨ minU a b = b := by
  constructor
  · intro a b; unfold minU; split <;> omega
  · intro a b; unfold minU; split <;> simp
theorem maxU_rel : (∀ a b : Int, a ≤ maxU a b ∧ b ≤ maxU a b) ∧ ∀ a b : Int, maxU a b = a ∨ maxU a b = b := by
  constructor
  · intro a b; unfold maxU; split <;> omega
  · intro a b; unfold maxU; split <;> simp
/-- the least level of a span that is not empty -/
theorem least_spec {L : List (Int × Int)} (h : RightU L) {f t : Int} (hft : clampI f < clampI t) : (∃ x, 0 ≤ x ∧ x < 1099511627776 ∧ clampI f ≤ x ∧ x < clampI t ∧ lvl 0 L x = chooseU minU L (f, t)) ∧ ∀ x, 0 ≤ x → x < 1099511627776 → clampI f ≤ x → x < clampI t → chooseU minU L (f, t) ≤ lvl 0 L x := by
  have hs := choose_spec h minU (fun a b => a ≤ b) (fun a => Int.le_refl a) (fun a b c => Int.le_trans) minU_rel.1 minU_rel.2 f t
  have hc := clampI_bounds f
  have hc2 := clampI_bounds t
  have h2 : (chooseGo minU (f, t) (runsU L) (0, false)).2 = true := by
    cases hh : (chooseGo minU (f, t) (runsU L) (0, false)).2 with
    | true => rfl
    | false => exact absurd ⟨Int.le_refl _, hft⟩ (hs.no hh (clampI f) hc.1 (by omega))
  exact ⟨hs.ex h2, hs.all h2⟩
theorem most_spec {L : List (Int × Int)} (h : RightU L) {f t : Int} (hft : clampI f < clampI t) : (∃ x, 0 ≤ x ∧ x < 1099511627776 ∧ clampI f ≤ x ∧ x < clampI t ∧ lvl 0 L x = chooseU maxU L (f, t)) ∧ ∀ x, 0 ≤ x → x < 1099511627776 → clampI f ≤ x → x < clampI t → lvl 0 L x ≤ chooseU maxU L (f, t) := by
  have hs := choose_spec h maxU (fun a b => b ≤ a) (fun a => Int.le_refl a) (fun a b c h1 h2 => Int.le_trans h2 h1) maxU_rel.1 maxU_rel.2 f t
  have hc := clampI_bounds f
  have hc2 := clampI_bounds t
  have h2 : (chooseGo maxU (f, t) (runsU L) (0, false)).2 = true := by
    cases hh : (chooseGo maxU (f, t) (runsU L) (0, false)).2 with
    | true => rfl
    | false => exact absurd ⟨Int.le_refl _, hft⟩ (hs.no hh (clampI f) hc.1 (by omega))
  exact ⟨hs.ex h2, hs.all h2⟩
/-- the level at a time -/
theorem at_spec {L : List (Int × Int)} (h : RightU L) (t : Int) : atU L t = lvl 0 L (min (clampI t) 1099511627775) := by
  have hc := clampI_bounds t
  have hm : minU (clampI t) 1099511627775 = min (clampI t) 1099511627775 := by unfold minU; split <;> omega
  unfold atU
  rw [hm]
  generalize hx : min (clampI t) 1099511627775 = x at *
  have hx0 : 0 ≤ x ∧ x ≤ 1099511627775 := by omega
  have e1 : clampI x = x := clampI_of hx0.1 (by omega)
  have e2 : addI x 1 = x + 1 := by unfold addI; rw [e1, show clampI 1 = 1 from rfl]; exact clampI_of (by omega) (by omega)
  rw [e1, e2]
  have e3 : clampI (x + 1) = x + 1 := clampI_of (by omega) (by omega)
  obtain ⟨⟨y, y0, y1, y2, y3, y4⟩, _⟩ := least_spec h (f := x) (t := x + 1) (by rw [e1, e3]; omega)
  rw [e1] at y2
  rw [e3] at y3
  have : y = x := by omega
  rw [← y4, this]
end Go.Proofs.Ythdljigcfhjikaa
