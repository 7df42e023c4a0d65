/- Plain facts on what is joined: its bounds, its times, and that it is the same when joined again. No condition. -/
import Derived.Test.YtnmhdodcfbjalaaJoinNone
import Derived.Test.YtnmhdodcfbjalaaSpanD
namespace Go.Proofs.Ytnmhdodcfbjalaa
set_option linter.unusedVariables false

theorem clampI_rangeJ (n : Int) : 0 ≤ clampI n ∧ clampI n ≤ 1099511627776 := by
  unfold clampI
  split
  · omega
  · split <;> omega
theorem clampI_idJ {n : Int} (h1 : 0 ≤ n) (h2 : n ≤ 1099511627776) : clampI n = n := by
  unfold clampI
  rw [if_neg (by omega), if_neg (by omega)]
theorem cutsOf_range (l : List (Int × Int)) : ∀ s ∈ cutsOf l, 0 ≤ s.1 ∧ s.2 ≤ 1099511627776 := by
  intro s hs
  unfold cutsOf at hs
  rw [List.mem_filterMap] at hs
  obtain ⟨x, _, hx⟩ := hs
  split at hx
  · cases hx
  · cases hx
    exact ⟨(clampI_rangeJ _).1, (clampI_rangeJ _).2⟩
/-- what is joined lies in bounds -/
theorem joined_range (l : List (Int × Int)) : ∀ s ∈ refJ (cutsOf l), 0 ≤ s.1 ∧ s.1 < s.2 ∧ s.2 ≤ 1099511627776 := by
  intro s hs
  obtain ⟨a, b⟩ := refJ_norm (cutsOf_lt l)
  have hlt := a.1 s hs
  obtain ⟨x, hx, h1, h2⟩ := (b s.1).1 ⟨s, hs, Int.le_refl _, hlt⟩
  obtain ⟨y, hy, h3, h4⟩ := (b (s.2 - 1)).1 ⟨s, hs, by omega, by omega⟩
  have e1 := (cutsOf_range l x hx).1
  have e2 := (cutsOf_range l y hy).2
  exact ⟨by omega, hlt, by omega⟩
theorem cutsOf_same : ∀ (l : List (Int × Int)), (∀ s ∈ l, 0 ≤ s.1 ∧ s.1 < s.2 ∧ s.2 ≤ 1099511627776) → cutsOf l = l
  | [], _ => rfl
  | s :: l, h => by
    obtain ⟨h1, h2, h3⟩ := h s List.mem_cons_self
    have ih := cutsOf_same l fun x hx => h x (List.mem_cons_of_mem _ hx)
    unfold cutsOf at ih ⊢
    rw [List.filterMap_cons, clampI_idJ h1 (by omega), clampI_idJ (by omega) h3, if_neg (by omega), ih]
/-- what is joined again is the same -/
theorem joined_again (l : List (Int × Int)) : refJ (cutsOf (refJ (cutsOf l))) = refJ (cutsOf l) := by
  rw [cutsOf_same _ (joined_range l)]
  obtain ⟨a, _⟩ := refJ_norm (cutsOf_lt l)
  obtain ⟨c, d⟩ := refJ_norm a.1
  exact NormJ.unique _ _ c a d
theorem holdsI_iff (s : Int × Int) (x : Int) : holdsI s x = true ↔ clampI s.1 ≤ clampI x ∧ clampI x < clampI s.2 := by
  unfold holdsI; simp
/-- a time is in what is joined just if it is in one of the spans -/
theorem joined_holds (l : List (Int × Int)) (x : Int) : (refJ (cutsOf l)).any (fun s => holdsI s x) = l.any fun s => holdsI s x := by
  rw [Bool.eq_iff_iff, List.any_eq_true, List.any_eq_true]
  obtain ⟨_, b⟩ := refJ_norm (cutsOf_lt l)
  constructor
  · rintro ⟨s, hs, h⟩
    rw [holdsI_iff] at h
    obtain ⟨r1, r2, r3⟩ := joined_range l s hs
    rw [clampI_idJ r1 (by omega), clampI_idJ (by omega) r3] at h
    obtain ⟨y, hy, h3, h4⟩ := (b (clampI x)).1 ⟨s, hs, h⟩
    unfold cutsOf at hy
    rw [List.mem_filterMap] at hy
    obtain ⟨z, hz, e⟩ := hy
    split at e
    · cases e
    · cases e
      exact ⟨z, hz, (holdsI_iff _ _).2 ⟨h3, h4⟩⟩
  · rintro ⟨z, hz, h⟩
    rw [holdsI_iff] at h
    have hm : (clampI z.1, clampI z.2) ∈ cutsOf l := by
      unfold cutsOf
      rw [List.mem_filterMap]
      exact ⟨z, hz, by rw [if_neg (by omega)]⟩
    obtain ⟨s, hs, h3, h4⟩ := (b (clampI x)).2 ⟨_, hm, h⟩
    obtain ⟨r1, r2, r3⟩ := joined_range l s hs
    exact ⟨s, hs, (holdsI_iff _ _).2 ⟨by rw [clampI_idJ r1 (by omega)]; exact h3, by rw [clampI_idJ (by omega) r3]; exact h4⟩⟩
theorem any_take (l : List (Int × Int)) (k : Nat) (h : k < l.length) (f : Int × Int → Bool) : (l.take (k + 1)).any f = ((l.take k).any f || f ((l.getD k (0, 0)).1, (l.getD k (0, 0)).2)) := by
  show _ = (_ || f (l.getD k (0, 0)))
  rw [List.take_succ_eq_append_getElem h, List.any_append]
  simp [List.getD, h]
theorem cut_holds (a b : Int × Int) (x : Int) : holdsI (cutI a b) x = (holdsI a x && holdsI b x) := by
  rw [Bool.eq_iff_iff, Bool.and_eq_true, holdsI_iff, holdsI_iff, holdsI_iff]
  have r1 := clampI_rangeJ a.1
  have r2 := clampI_rangeJ a.2
  have r3 := clampI_rangeJ b.1
  have r4 := clampI_rangeJ b.2
  have r5 := clampI_rangeJ x
  unfold cutI
  have ef : bothF a b = max (clampI a.1) (clampI b.1) := rfl
  have et : bothT a b = min (clampI a.2) (clampI b.2) := rfl
  split
  · rename_i h
    have e0 : clampI 0 = 0 := rfl
    simp only [e0]
    omega
  · rename_i h
    simp only
    rw [clampI_idJ (n := bothF a b) (by omega) (by omega), clampI_idJ (n := bothT a b) (by omega) (by omega)]
    omega
theorem getD_mem (l : List (Int × Int)) (k : Nat) (h : k < l.length) : l.getD k (0, 0) ∈ l := by
  have : l.getD k (0, 0) = l[k] := by simp [List.getD, h]
  rw [this]; exact List.getElem_mem h
theorem norm_next {l : List (Int × Int)} (h : NormJ l) (k : Nat) (hk : k + 1 < l.length) : (l.getD k (0, 0)).2 < (l.getD (k + 1) (0, 0)).1 := by
  have e1 : l.getD k (0, 0) = l[k] := by simp [List.getD, show k < l.length by omega]
  have e2 : l.getD (k + 1) (0, 0) = l[k + 1] := by simp [List.getD, hk]
  rw [e1, e2]
  exact List.pairwise_iff_getElem.1 h.2 k (k + 1) (by omega) hk (by omega)
theorem right_in {f t : Int} (h1 : 0 ≤ f) (h2 : f < t) (h3 : t ≤ 1099511627776) : rightI (f, t) = true := by
  unfold rightI
  simp only
  rw [clampI_idJ h1 (by omega), clampI_idJ (n := t) (by omega) h3]
  simp; omega
theorem full_in {f t : Int} (h1 : 0 ≤ f) (h2 : f < t) (h3 : t ≤ 1099511627776) : decide (clampI t ≤ clampI f) = false := by
  rw [clampI_idJ h1 (by omega), clampI_idJ (n := t) (by omega) h3]
  simp; omega
end Go.Proofs.Ytnmhdodcfbjalaa
