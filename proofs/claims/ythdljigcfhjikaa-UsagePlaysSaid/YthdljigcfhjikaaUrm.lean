/- Levels (layer 10), the document's, plainly: what In tells comes to the least, the greatest and the area that the program tells. No condition but that the steps are right. -/
import Derived.Test.YthdljigcfhjikaaUrl
namespace Go.Proofs.Ythdljigcfhjikaa
set_option linter.unusedVariables false
open Go.ChangeShapes Go.WideShapes Go.ChangeAt Go.RowKit
theorem in_none (first : Int) (C : List ChgC) : ∀ l : List Int, inU first C (0, 0) l = []
  | [] => rfl
  | x :: r => by
    unfold inU inStep
    have : cutI (0, 0) (x, endT r) = (0, 0) := by
      unfold cutI bothT bothF
      simp only
      have h1 := clampI_bounds x
      have h2 := clampI_bounds (endT r)
      have e0 : clampI 0 = 0 := by decide +kernel
      rw [e0, if_pos (by omega)]
    rw [this, if_neg (by simp), List.nil_append]
    exact in_none first C r
theorem choose_none {L : List (Int × Int)} (bt : Int → Int → Int) {f t : Int} (h : clampI t ≤ clampI f) : chooseU bt L (f, t) = 0 := by
  have : ∀ (rs : List (Int × Int × Int)) (st : Int × Bool), chooseGo bt (f, t) rs st = st := by
    intro rs
    induction rs with
    | nil => intro st; rfl
    | cons r rs ih =>
      intro st
      have hm : meetsU (r.1, r.2.1) (f, t) = false := by
        unfold meetsU bothT bothF
        simp only [Bool.not_eq_false', decide_eq_true_eq]
        omega
      unfold chooseGo
      simp only [hm, Bool.false_eq_true, if_false]
      rw [ih]
      split <;> rfl
  unfold chooseU
  rw [this]
/-- the list that In goes through -/
def inL (first : Int) (C : List ChgC) (f t : Int) : List (Int × Int) := inU first C (cleanI (f, t)) (putT (timesU C) (cleanI (f, t)).1)
theorem inL_ok {first : Int} {C : List ChgC} {f t : Int} (h : clampI f < clampI t) : InOk (fun x => C.foldl (ratStep x) (boundU first)) (clampI f) (clampI t) 0 (inL first C f t) := by
  have hcl : cleanI (f, t) = (clampI f, clampI t) := by unfold cleanI; simp only; rw [if_neg (by omega)]
  have hF := clampI_bounds f
  have hT := clampI_bounds t
  have ht := (timesU_times C).put (t := clampI f) hF.1
  unfold inL
  rw [hcl]
  simp only
  have hsub : ∀ p ∈ timesU C, p ∈ putT (timesU C) (clampI f) := fun p hp => putT_mem.2 (.inr hp)
  have hz := ht.zero
  have hgap : ∀ a b : List Int, ∀ x y : Int, putT (timesU C) (clampI f) = a ++ x :: y :: b → ∀ z, x ≤ z → z < y → C.foldl (ratStep z) (boundU first) = C.foldl (ratStep x) (boundU first) := fun a b x y e z h1 h2 => by
    have hx := ht.hi x (by rw [e]; simp)
    have hy := ht.hi y (by rw [e]; simp)
    exact same_between hx.1 h1 (by omega) (fun p hp hc => sorted_gap ht.sorted e p (hsub p hp) ⟨hc.1, by omega⟩)
  have hlast : ∀ x, (putT (timesU C) (clampI f)).getLast? = some x → ∀ z, x ≤ z → z < 1099511627776 → C.foldl (ratStep z) (boundU first) = C.foldl (ratStep x) (boundU first) := fun x e z h1 h2 => by
    have hx := ht.hi x (List.mem_of_getLast? e)
    exact same_between hx.1 h1 h2 (fun p hp hc => by have := sorted_last ht.sorted e p (hsub p hp); omega)
  cases hl : putT (timesU C) (clampI f) with
  | nil => rw [hl] at hz; simp at hz
  | cons T r =>
    have hs := ht.sorted
    have hh := ht.hi
    rw [hl] at hz hgap hlast hs hh
    have hT0 : T = 0 := by simpa using hz
    subst hT0
    exact in_ok hF hT rfl r 0 (by decide) (by decide) hs (fun y hy => (hh y (List.mem_cons_of_mem _ hy)).2) hgap hlast
theorem in_least {first : Int} {L : List (Int × Int)} {C : List ChgC} (hlk : LikeU first L C) (hr : RightU L) (f t : Int) :
    pickL (fun a b => decide (a < b)) ((inL first C f t).map (·.1)) = chooseU minU L (f, t) ∧ pickL (fun a b => decide (a > b)) ((inL first C f t).map (·.1)) = chooseU maxU L (f, t) ∧ (inL first C f t).foldl (fun s p => satU s p.1 p.2) 0 = areaU L (f, t) ∧ ∀ p ∈ inL first C f t, 0 < p.2 ∧ p.2 ≤ 1099511627776 := by
  by_cases h : clampI f < clampI t
  · have hk := inL_ok (first := first) (C := C) h
    have hF := clampI_bounds f
    have hT := clampI_bounds t
    have hlv : ∀ y, 0 ≤ y → y < 1099511627776 → lvl 0 L y = C.foldl (ratStep y) (boundU first) := hlk
    generalize inL first C f t = M at *
    obtain ⟨p0, hp0, _⟩ := hk.all (clampI f) hF.1 (by omega) (by omega) h
    have hmem : ∀ y, 0 ≤ y → y < 1099511627776 → clampI f ≤ y → y < clampI t → lvl 0 L y ∈ M.map (·.1) := fun y h1 h2 h3 h4 => by
      obtain ⟨p, hp, e⟩ := hk.all y h1 h2 h3 h4
      rw [hlv y h1 h2]
      exact List.mem_map.2 ⟨p, hp, e⟩
    have hval : ∀ v ∈ M.map (·.1), ∃ y, 0 ≤ y ∧ y < 1099511627776 ∧ clampI f ≤ y ∧ y < clampI t ∧ lvl 0 L y = v := fun v hv => by
      obtain ⟨p, hp, rfl⟩ := List.mem_map.1 hv
      obtain ⟨_, _, y, q1, q2, q3, q4, q5⟩ := hk.ex p hp
      exact ⟨y, q1, q2, q3, q4, by rw [hlv y q1 q2]; exact q5⟩
    have hne : M.map (·.1) ≠ [] := fun e => by
      have := hmem (clampI f) hF.1 (by omega) (by omega) h
      rw [e] at this; cases this
    refine ⟨?_, ?_, ?_, fun p hp => ⟨(hk.ex p hp).1, (hk.ex p hp).2.1⟩⟩
    · obtain ⟨⟨x, x0, x1, x2, x3, x4⟩, hb⟩ := least_spec hr h
      cases hM : M.map (·.1) with
      | nil => exact absurd hM hne
      | cons v vs =>
        obtain ⟨i1, i2⟩ := pick_spec (fun a b => decide (a < b)) (· ≤ ·) (fun a => Int.le_refl a) (fun a b c => Int.le_trans) (fun a b h => by have := of_decide_eq_true h; omega) (fun a b h => by have := of_decide_eq_false h; omega) vs v
        unfold pickL
        simp only
        rw [← hM] at i1 i2
        obtain ⟨y, y0, y1, y2, y3, y4⟩ := hval _ i1
        have h1 := hb y y0 y1 y2 y3
        have h2 := i2 _ (hmem x x0 x1 x2 x3)
        rw [y4] at h1
        rw [x4] at h2
        omega
    · obtain ⟨⟨x, x0, x1, x2, x3, x4⟩, hb⟩ := most_spec hr h
      cases hM : M.map (·.1) with
      | nil => exact absurd hM hne
      | cons v vs =>
        obtain ⟨i1, i2⟩ := pick_spec (fun a b => decide (a > b)) (fun a b => b ≤ a) (fun a => Int.le_refl a) (fun a b c h k => Int.le_trans k h) (fun a b h => by have := of_decide_eq_true h; omega) (fun a b h => by have := of_decide_eq_false h; omega) vs v
        unfold pickL
        simp only
        rw [← hM] at i1 i2
        obtain ⟨y, y0, y1, y2, y3, y4⟩ := hval _ i1
        have h1 := hb y y0 y1 y2 y3
        have h2 := i2 _ (hmem x x0 x1 x2 x3)
        rw [y4] at h1
        rw [x4] at h2
        omega
    · rw [sat_fold M 0 0 (fun p hp => (hk.ex p hp).1) (by decide) (by decide +kernel), area_eq hr]
      have hs := hk.sum
      unfold sumP at hs
      rw [hs, show max 0 (clampI f) = clampI f by omega]
      congr 1
      unfold areaS
      refine sumS_congr fun y hy hy' => ?_
      unfold posL
      rw [hlv y (by omega) (by omega)]
  · have hcl : cleanI (f, t) = (0, 0) := by unfold cleanI; simp only; rw [if_pos (by omega)]
    have hM : inL first C f t = [] := by unfold inL; rw [hcl]; exact in_none _ _ _
    rw [hM, choose_none minU (by omega), choose_none maxU (by omega), area_eq hr, areaS_none _ (by omega)]
    exact ⟨rfl, rfl, by decide +kernel, fun p hp => by cases hp⟩
end Go.Proofs.Ythdljigcfhjikaa
