/- Levels (layer 10), the document's, plainly: the times at which levels may turn, the steps that they tell. No condition but that the steps are right. -/
import Derived.Test.YthdljigcfhjikaaUrb
import Derived.Test.YthdljigcfhjikaaUsv
namespace Go.Proofs.Ythdljigcfhjikaa
set_option linter.unusedVariables false
open Go.ChangeShapes Go.WideShapes Go.ChangeAt Go.RowKit
/-- a time more, where it belongs, once -/
def insT : List Int → Int → List Int
  | [], t => [t]
  | x :: r, t => if x < t then x :: insT r t else if x = t then x :: r else t :: x :: r
def putT (l : List Int) (t : Int) : List Int := if t ≥ 1099511627776 then l else insT l t
theorem insT_mem : ∀ (l : List Int) (t x : Int), x ∈ insT l t ↔ x = t ∨ x ∈ l
  | [], t, x => by simp [insT]
  | y :: r, t, x => by
    unfold insT
    have ih := insT_mem r t x
    split
    · simp only [List.mem_cons, ih]
      constructor
      · rintro (h | h | h)
        · exact .inr (.inl h)
        · exact .inl h
        · exact .inr (.inr h)
      · rintro (h | h | h)
        · exact .inr (.inl h)
        · exact .inl h
        · exact .inr (.inr h)
    · split
      · rename_i h1 h2
        subst h2
        simp only [List.mem_cons]
        constructor
        · exact fun h => .inr h
        · rintro (h | h)
          · exact .inl h
          · exact h
      · simp only [List.mem_cons]
theorem insT_sorted : ∀ (l : List Int) (t : Int), l.Pairwise (· < ·) → (insT l t).Pairwise (· < ·)
  | [], t, _ => by simp [insT]
  | y :: r, t, h => by
    obtain ⟨h1, h2⟩ := List.pairwise_cons.1 h
    unfold insT
    split
    · rename_i hy
      refine List.pairwise_cons.2 ⟨fun z hz => ?_, insT_sorted r t h2⟩
      rcases (insT_mem r t z).1 hz with rfl | hz
      · exact hy
      · exact h1 z hz
    · split
      · exact h
      · refine List.pairwise_cons.2 ⟨fun z hz => ?_, h⟩
        rcases List.mem_cons.1 hz with rfl | hz
        · omega
        · have := h1 z hz; omega
theorem insT_len (l : List Int) (t : Int) : (insT l t).length ≤ l.length + 1 := by
  induction l with
  | nil => simp [insT]
  | cons y r ih =>
    unfold insT
    split
    · simp only [List.length_cons]; omega
    · split <;> simp
/-- times that rise, from 0 on -/
structure TimesU (l : List Int) : Prop where
  sorted : l.Pairwise (· < ·)
  zero : l.head? = some 0
  hi : ∀ x ∈ l, 0 ≤ x ∧ x < 1099511627776
theorem TimesU.one : TimesU [0] := ⟨by simp, rfl, fun x hx => by simp at hx; subst hx; decide⟩
theorem TimesU.put {l : List Int} (h : TimesU l) {t : Int} (h0 : 0 ≤ t) : TimesU (putT l t) := by
  unfold putT
  split
  · exact h
  · refine ⟨insT_sorted l t h.sorted, ?_, fun x hx => ?_⟩
    · cases l with
      | nil => have := h.zero; simp at this
      | cons y r =>
        have hy : y = 0 := by simpa using h.zero
        subst hy
        unfold insT
        split
        · rfl
        · split
          · rfl
          · rename_i h1 h2; omega
    · rcases (insT_mem l t x).1 hx with rfl | hx
      · exact ⟨h0, by omega⟩
      · exact h.hi x hx
theorem putT_mem {l : List Int} {t x : Int} : x ∈ putT l t ↔ (x = t ∧ t < 1099511627776) ∨ x ∈ l := by
  unfold putT
  split
  · constructor
    · exact fun h => .inr h
    · rintro (h | h)
      · omega
      · exact h
  · rw [insT_mem]
    constructor
    · rintro (h | h)
      · exact .inl ⟨h, by omega⟩
      · exact .inr h
    · rintro (h | h)
      · exact .inl h.1
      · exact .inr h
/-- the document's times -/
def timesU (C : List ChgC) : List Int := C.foldl (fun l c => putT (putT l (cleanI (c.f, c.t)).1) (cleanI (c.f, c.t)).2) [0]
theorem clean_nonneg (f t : Int) : 0 ≤ (cleanI (f, t)).1 ∧ 0 ≤ (cleanI (f, t)).2 := by
  have h1 := clampI_bounds f
  have h2 := clampI_bounds t
  unfold cleanI
  split
  · exact ⟨Int.le_refl _, Int.le_refl _⟩
  · exact ⟨h1.1, h2.1⟩
theorem times_fold (C : List ChgC) : ∀ l, TimesU l → TimesU (C.foldl (fun l c => putT (putT l (cleanI (c.f, c.t)).1) (cleanI (c.f, c.t)).2) l) ∧ (∀ x ∈ l, x ∈ C.foldl (fun l c => putT (putT l (cleanI (c.f, c.t)).1) (cleanI (c.f, c.t)).2) l) ∧ ∀ c ∈ C, clampI c.f < clampI c.t → (clampI c.f ∈ C.foldl (fun l c => putT (putT l (cleanI (c.f, c.t)).1) (cleanI (c.f, c.t)).2) l) ∧ (clampI c.t < 1099511627776 → clampI c.t ∈ C.foldl (fun l c => putT (putT l (cleanI (c.f, c.t)).1) (cleanI (c.f, c.t)).2) l) := by
  induction C with
  | nil => exact fun l h => ⟨h, fun x hx => hx, fun c hc => by cases hc⟩
  | cons d r ih =>
    intro l h
    obtain ⟨i1, i2, i3⟩ := ih _ ((h.put (clean_nonneg d.f d.t).1).put (clean_nonneg d.f d.t).2)
    rw [List.foldl_cons]
    refine ⟨i1, fun x hx => i2 x (putT_mem.2 (.inr (putT_mem.2 (.inr hx)))), fun c hc hft => ?_⟩
    rcases List.mem_cons.1 hc with rfl | hc
    · have hcl : cleanI (c.f, c.t) = (clampI c.f, clampI c.t) := by unfold cleanI; simp only; rw [if_neg (by omega)]
      have hb := clampI_bounds c.t
      refine ⟨i2 _ ?_, fun h2 => i2 _ ?_⟩
      · rw [hcl]; exact putT_mem.2 (.inr (putT_mem.2 (.inl ⟨rfl, by simp only; omega⟩)))
      · rw [hcl]; exact putT_mem.2 (.inl ⟨rfl, h2⟩)
    · exact i3 c hc hft
theorem timesU_times (C : List ChgC) : TimesU (timesU C) := (times_fold C [0] TimesU.one).1
/-- between two times nothing turns -/
theorem same_between {C : List ChgC} {first x y : Int} (hx : 0 ≤ x) (hxy : x ≤ y) (hy : y < 1099511627776) (h : ∀ p ∈ timesU C, ¬ (x < p ∧ p ≤ y)) : C.foldl (ratStep y) (boundU first) = C.foldl (ratStep x) (boundU first) := by
  have key : ∀ (D : List ChgC), (∀ c ∈ D, c ∈ C) → ∀ v, D.foldl (ratStep y) v = D.foldl (ratStep x) v := by
    intro D
    induction D with
    | nil => intro _ v; rfl
    | cons c r ih =>
      intro hD v
      rw [List.foldl_cons, List.foldl_cons]
      have hs : ratStep y v c = ratStep x v c := by
        rw [ratStep_iff _ _ _ (by omega) hy, ratStep_iff _ _ _ hx (by omega)]
        by_cases hft : clampI c.f < clampI c.t
        · have hm := (times_fold C [0] TimesU.one).2.2 c (hD c List.mem_cons_self) hft
          have h1 := h _ hm.1
          have h2 : clampI c.t < 1099511627776 → ¬ (x < clampI c.t ∧ clampI c.t ≤ y) := fun hl => h _ (hm.2 hl)
          have hiff : (clampI c.f < clampI c.t ∧ c.f ≤ y ∧ y < c.t) ↔ (clampI c.f < clampI c.t ∧ c.f ≤ x ∧ x < c.t) := by
            rcases clamp_facts c.f with ⟨a, b⟩ | ⟨a, d, b⟩ | ⟨a, b⟩ <;> rcases clamp_facts c.t with ⟨a', b'⟩ | ⟨a', d', b'⟩ | ⟨a', b'⟩ <;> rw [b] at h1 ⊢ <;> rw [b'] at h2 ⊢ <;> omega
          by_cases hc : clampI c.f < clampI c.t ∧ c.f ≤ x ∧ x < c.t
          · rw [if_pos hc, if_pos (hiff.2 hc)]
          · rw [if_neg hc, if_neg (fun hh => hc (hiff.1 hh))]
        · rw [if_neg (fun hh => hft hh.1), if_neg (fun hh => hft hh.1)]
      rw [hs]
      exact ih (fun d hd => hD d (List.mem_cons_of_mem _ hd)) _
  exact key C (fun c hc => hc) _
/-- the document's steps -/
def listR (first : Int) (C : List ChgC) : List (Int × Int) := (timesU C).foldl (fun l t => layU l t (ratU first C t)) []
theorem ratU_fold {first : Int} {C : List ChgC} {t : Int} (h0 : 0 ≤ t) (h1 : t < 1099511627776) : ratU first C t = C.foldl (ratStep t) (boundU first) := by
  unfold ratU
  rw [clampI_of h0 (by omega), if_neg (by omega)]
/-- what has been laid of times that rise -/
theorem lay_rep {g : Int → Int} : ∀ (r : List Int) (l : List (Int × Int)) (T : Int), 0 ≤ T → T < 1099511627776 → (T :: r).Pairwise (· < ·) → (∀ x ∈ r, x < 1099511627776) → RepU l g T →
    (∀ a b : List Int, ∀ x y : Int, T :: r = a ++ x :: y :: b → ∀ z, x ≤ z → z < y → g z = g x) → (∀ x, (T :: r).getLast? = some x → ∀ z, x ≤ z → z < 1099511627776 → g z = g x) → RepU ((T :: r).foldl (fun l t => layU l t (g t)) l) g 1099511627776
  | [], l, T, h0, h1, _, _, hr, _, hl => by
    rw [List.foldl_cons, List.foldl_nil]
    exact hr.lay h0 h1 (hl T rfl)
  | y :: r, l, T, h0, h1, hs, hh, hr, hg, hl => by
    rw [List.foldl_cons]
    obtain ⟨s1, s2⟩ := List.pairwise_cons.1 hs
    have hTy := s1 y List.mem_cons_self
    refine lay_rep r _ y (by omega) (hh y List.mem_cons_self) s2 (fun x hx => hh x (List.mem_cons_of_mem _ hx)) (hr.lay h0 hTy (hg [] r T y rfl)) (fun a b x z e => hg (T :: a) b x z (by rw [e]; rfl)) (fun x hx => hl x (by rw [List.getLast?_cons_cons]; exact hx))
theorem sorted_gap {l : List Int} (h : l.Pairwise (· < ·)) {a b : List Int} {x y : Int} (e : l = a ++ x :: y :: b) : ∀ p ∈ l, ¬ (x < p ∧ p < y) := by
  intro p hp hc
  rw [e] at h hp
  obtain ⟨_, h2, h3⟩ := List.pairwise_append.1 h
  obtain ⟨h4, h5⟩ := List.pairwise_cons.1 h2
  obtain ⟨h6, _⟩ := List.pairwise_cons.1 h5
  rcases List.mem_append.1 hp with hp | hp
  · have := h3 p hp x List.mem_cons_self; omega
  · rcases List.mem_cons.1 hp with rfl | hp
    · omega
    · rcases List.mem_cons.1 hp with rfl | hp
      · omega
      · have := h6 p hp; omega
theorem sorted_last {l : List Int} (h : l.Pairwise (· < ·)) {x : Int} (e : l.getLast? = some x) : ∀ p ∈ l, p ≤ x := by
  intro p hp
  obtain ⟨a, rfl⟩ := List.getLast?_eq_some_iff.1 e
  obtain ⟨_, _, h3⟩ := List.pairwise_append.1 h
  rcases List.mem_append.1 hp with hp | hp
  · have := h3 p hp x (by simp); omega
  · simp at hp; omega
theorem list_rep (first : Int) (C : List ChgC) : RepU (listR first C) (fun x => C.foldl (ratStep x) (boundU first)) 1099511627776 := by
  have ht := timesU_times C
  have hf : listR first C = (timesU C).foldl (fun l t => layU l t ((fun x => C.foldl (ratStep x) (boundU first)) t)) [] := by
    unfold listR
    have : ∀ (m : List Int) (l : List (Int × Int)), (∀ x ∈ m, 0 ≤ x ∧ x < 1099511627776) → m.foldl (fun l t => layU l t (ratU first C t)) l = m.foldl (fun l t => layU l t ((fun x => C.foldl (ratStep x) (boundU first)) t)) l := by
      intro m
      induction m with
      | nil => intro l _; rfl
      | cons x r ih =>
        intro l hm
        have hx := hm x List.mem_cons_self
        rw [List.foldl_cons, List.foldl_cons, ratU_fold hx.1 hx.2]
        exact ih _ (fun y hy => hm y (List.mem_cons_of_mem _ hy))
    exact this _ _ ht.hi
  rw [hf]
  have hz := ht.zero
  have hgap : ∀ a b : List Int, ∀ x y : Int, timesU C = a ++ x :: y :: b → ∀ z, x ≤ z → z < y → C.foldl (ratStep z) (boundU first) = C.foldl (ratStep x) (boundU first) := fun a b x y e z h1 h2 => by
    have hx := ht.hi x (by rw [e]; simp)
    have hy := ht.hi y (by rw [e]; simp)
    exact same_between hx.1 h1 (by omega) (fun p hp hc => sorted_gap ht.sorted e p hp ⟨hc.1, by omega⟩)
  have hlast : ∀ x, (timesU C).getLast? = some x → ∀ z, x ≤ z → z < 1099511627776 → C.foldl (ratStep z) (boundU first) = C.foldl (ratStep x) (boundU first) := fun x e z h1 h2 => by
    have hx := ht.hi x (List.mem_of_getLast? e)
    exact same_between hx.1 h1 h2 (fun p hp hc => by have := sorted_last ht.sorted e p hp; omega)
  cases hl : timesU C with
  | nil => rw [hl] at hz; simp at hz
  | cons T r =>
    rw [hl] at hz hgap hlast
    have hT : T = 0 := by simpa using hz
    subst hT
    exact lay_rep r [] 0 (by decide) (by decide) (hl ▸ ht.sorted) (fun x hx => (ht.hi x (by rw [hl]; exact List.mem_cons_of_mem _ hx)).2) ⟨fun _ => rfl, (fun p hp => by simp at hp), by simp, (fun a b p q e => by simp at e), (fun p hp => by cases hp), fun x h0 h1 => by omega⟩ hgap hlast
/-- the document's steps are those -/
theorem like_list {first : Int} {L : List (Int × Int)} {C : List ChgC} (h : LikeU first L C) (hr : RightU L) : listR first C = L := by
  have hrep := list_rep first C
  have hb : ∀ x, 0 ≤ x → x < 1099511627776 → -1000000 ≤ C.foldl (ratStep x) (boundU first) ∧ C.foldl (ratStep x) (boundU first) ≤ 1000000 := by
    intro x h0 h1
    have : ∀ (D : List ChgC) (v : Int), (-1000000 ≤ v ∧ v ≤ 1000000) → -1000000 ≤ D.foldl (ratStep x) v ∧ D.foldl (ratStep x) v ≤ 1000000 := by
      intro D
      induction D with
      | nil => intro v hv; exact hv
      | cons c r ih =>
        intro v hv
        rw [List.foldl_cons]
        refine ih _ ?_
        rw [ratStep_iff _ _ _ h0 h1]
        split
        · split
          · exact boundU_in _
          · exact addF_in _ _
        · exact hv
    exact this C _ (boundU_in _)
  refine right_same_steps (rep_right hrep hb) hr fun x h0 h1 => ?_
  rw [hrep.val x h0 h1, h x h0 h1]
end Go.Proofs.Ythdljigcfhjikaa
