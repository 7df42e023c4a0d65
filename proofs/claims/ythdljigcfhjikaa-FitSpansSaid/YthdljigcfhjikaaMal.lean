/- Laws that belong together: Levels (layer 10), the document's, plainly: the times at which levels may turn, the steps that they tell. No condition but that the steps are right.; Levels (layer 10), the document's: put, Times. Condition: the lengths' bounds. -/
import Derived.Test.YthdljigcfhjikaaMah
import Derived.Test.YthdljigcfhjikaaMag
namespace Go.Proofs.Ythdljigcfhjikaa
set_option linter.unusedVariables false
open Go.ChangeShapes Go.WideShapes Go.ChangeAt Go.RowKit
/-- a time more, where it belongs, once -/
def insT : List Int → Int → List Int
  | [], t => [t]
  | x :: r, t => if x < t then x :: insT r t else if x = t then x :: r else t :: x :: r
def putT (l : List Int) (t : Int) : List Int := if t ≥ 1099511627776 then l else insT l t
theorem insT_mem : ∀ (l : List Int) (t x : Int), x ∈ insT l t ↔ x = t ∨ x ∈ l
  | [], t, x => by simp [insT]
  | y :: r, t, x => by
    unfold insT
    have ih := insT_mem r t x
    split
    · simp only [List.mem_cons, ih]
      constructor
      · rintro (h | h | h)
        · exact .inr (.inl h)
        · exact .inl h
        · exact .inr (.inr h)
      · rintro (h | h | h)
        · exact .inr (.inl h)
        · exact .inl h
        · exact .inr (.inr h)
    · split
      · rename_i h1 h2
        subst h2
        simp only [List.mem_cons]
        constructor
        · exact fun h => .inr h
        · rintro (h | h)
          · exact .inl h
          · exact h
      · simp only [List.mem_cons]
theorem insT_sorted : ∀ (l : List Int) (t : Int), l.Pairwise (· < ·) → (insT l t).Pairwise (· < ·)
  | [], t, _ => by simp [insT]
  | y :: r, t, h => by
    obtain ⟨h1, h2⟩ := List.pairwise_cons.1 h
    unfold insT
    split
    · rename_i hy
      refine List.pairwise_cons.2 ⟨fun z hz => ?_, insT_sorted r t h2⟩
      rcases (insT_mem r t z).1 hz with rfl | hz
      · exact hy
      · exact h1 z hz
    · split
      · exact h
      · refine List.pairwise_cons.2 ⟨fun z hz => ?_, h⟩
        rcases List.mem_cons.1 hz with rfl | hz
        · omega
        · have := h1 z hz; omega
theorem insT_len (l : List Int) (t : Int) : (insT l t).length ≤ l.length + 1 := by
  induction l with
  | nil => simp [insT]
  | cons y r ih =>
    unfold insT
    split
    · simp only [List.length_cons]; omega
    · split <;> simp
/-- times that rise, from 0 on -/
structure TimesU (l : List Int) : Prop where
  sorted : l.Pairwise (· < ·)
  zero : l.head? = some 0
  hi : ∀ x ∈ l, 0 ≤ x ∧ x < 1099511627776
theorem TimesU.one : TimesU [0] := ⟨by simp, rfl, fun x hx => by simp at hx; subst hx; decide⟩
theorem TimesU.put {l : List Int} (h : TimesU l) {t : Int} (h0 : 0 ≤ t) : TimesU (putT l t) := by
  unfold putT
  split
  · exact h
  · refine ⟨insT_sorted l t h.sorted, ?_, fun x hx => ?_⟩
    · cases l with
      | nil => have := h.zero; simp at this
      | cons y r =>
        have hy : y = 0 := by simpa using h.zero
        subst hy
        unfold insT
        split
        · rfl
        · split
          · rfl
          · rename_i h1 h2; omega
    · rcases (insT_mem l t x).1 hx with rfl | hx
      · exact ⟨h0, by omega⟩
      · exact h.hi x hx
theorem putT_mem {l : List Int} {t x : Int} : x ∈ putT l t ↔ (x = t ∧ t < 1099511627776) ∨ x ∈ l := by
  unfold putT
  split
  · constructor
    · exact fun h => .inr h
    · rintro (h | h)
      · omega
      · exact h
  · rw [insT_mem]
    constructor
    · rintro (h | h)
      · exact .inl ⟨h, by omega⟩
      · exact .inr h
    · rintro (h | h)
      · exact .inl h.1
      · exact .inr h
/-- the document's times -/
def timesU (C : List ChgC) : List Int := C.foldl (fun l c => putT (putT l (cleanI (c.f, c.t)).1) (cleanI (c.f, c.t)).2) [0]
theorem clean_nonneg (f t : Int) : 0 ≤ (cleanI (f, t)).1 ∧ 0 ≤ (cleanI (f, t)).2 := by
  have h1 := clampI_bounds f
  have h2 := clampI_bounds t
  unfold cleanI
  split
  · exact ⟨Int.le_refl _, Int.le_refl _⟩
  · exact ⟨h1.1, h2.1⟩
theorem times_fold (C : List ChgC) : ∀ l, TimesU l → TimesU (C.foldl (fun l c => putT (putT l (cleanI (c.f, c.t)).1) (cleanI (c.f, c.t)).2) l) ∧ (∀ x ∈ l, x ∈ C.foldl (fun l c => putT (putT l (cleanI (c.f, c.t)).1) (cleanI (c.f, c.t)).2) l) ∧ ∀ c ∈ C, clampI c.f < clampI c.t → (clampI c.f ∈ C.foldl (fun l c => putT (putT l (cleanI (c.f, c.t)).1) (cleanI (c.f, c.t)).2) l) ∧ (clampI c.t < 1099511627776 → clampI c.t ∈ C.foldl (fun l c => putT (putT l (cleanI (c.f, c.t)).1) (cleanI (c.f, c.t)).2) l) := by
  induction C with
  | nil => exact fun l h => ⟨h, fun x hx => hx, fun c hc => by cases hc⟩
  | cons d r ih =>
    intro l h
    obtain ⟨i1, i2, i3⟩ := ih _ ((h.put (clean_nonneg d.f d.t).1).put (clean_nonneg d.f d.t).2)
    rw [List.foldl_cons]
    refine ⟨i1, fun x hx => i2 x (putT_mem.2 (.inr (putT_mem.2 (.inr hx)))), fun c hc hft => ?_⟩
    rcases List.mem_cons.1 hc with rfl | hc
    · have hcl : cleanI (c.f, c.t) = (clampI c.f, clampI c.t) := by unfold cleanI; simp only; rw [if_neg (by omega)]
      have hb := clampI_bounds c.t
      refine ⟨i2 _ ?_, fun h2 => i2 _ ?_⟩
      · rw [hcl]; exact putT_mem.2 (.inr (putT_mem.2 (.inl ⟨rfl, by simp only; omega⟩)))
      · rw [hcl]; exact putT_mem.2 (.inl ⟨rfl, h2⟩)
    · exact i3 c hc hft
theorem timesU_times (C : List ChgC) : TimesU (timesU C) := (times_fold C [0] TimesU.one).1
/-- between two times nothing turns -/
theorem same_between {C : List ChgC} {first x y : Int} (hx : 0 ≤ x) (hxy : x ≤ y) (hy : y < 1099511627776) (h : ∀ p ∈ timesU C, ¬ (x < p ∧ p ≤ y)) : C.foldl (ratStep y) (boundU first) = C.foldl (ratStep x) (boundU first) := by
  have key : ∀ (D : List ChgC), (∀ c ∈ D, c ∈ C) → ∀ v, D.foldl (ratStep y) v = D.foldl (ratStep x) v := by
    intro D
    induction D with
    | nil => intro _ v; rfl
    | cons c r ih =>
      intro hD v
      rw [List.foldl_cons, List.foldl_cons]
      have hs : ratStep y v c = ratStep x v c := by
        rw [ratStep_iff _ _ _ (by omega) hy, ratStep_iff _ _ _ hx (by omega)]
        by_cases hft : clampI c.f < clampI c.t
        · have hm := (times_fold C [0] TimesU.one).2.2 c (hD c List.mem_cons_self) hft
          have h1 := h _ hm.1
          have h2 : clampI c.t < 1099511627776 → ¬ (x < clampI c.t ∧ clampI c.t ≤ y) := fun hl => h _ (hm.2 hl)
          have hiff : (clampI c.f < clampI c.t ∧ c.f ≤ y ∧ y < c.t) ↔ (clampI c.f < clampI c.t ∧ c.f ≤ x ∧ x < c.t) := by
            rcases clamp_facts c.f with ⟨a, b⟩ | ⟨a, d, b⟩ | ⟨a, b⟩ <;> rcases clamp_facts c.t with ⟨a', b'⟩ | ⟨a', d', b'⟩ | ⟨a', b'⟩ <;> rw [b] at h1 ⊢ <;> rw [b'] at h2 ⊢ <;> omega
          by_cases hc : clampI c.f < clampI c.t ∧ c.f ≤ x ∧ x < c.t
          · rw [if_pos hc, if_pos (hiff.2 hc)]
          · rw [if_neg hc, if_neg (fun hh => hc (hiff.1 hh))]
        · rw [if_neg (fun hh => hft hh.1), if_neg (fun hh => hft hh.1)]
      rw [hs]
      exact ih (fun d hd => hD d (List.mem_cons_of_mem _ hd)) _
  exact key C (fun c hc => hc) _
/-- the document's steps -/
def listR (first : Int) (C : List ChgC) : List (Int × Int) := (timesU C).foldl (fun l t => layU l t (ratU first C t)) []
theorem ratU_fold {first : Int} {C : List ChgC} {t : Int} (h0 : 0 ≤ t) (h1 : t < 1099511627776) : ratU first C t = C.foldl (ratStep t) (boundU first) := by
  unfold ratU
  rw [clampI_of h0 (by omega), if_neg (by omega)]
/-- what has been laid of times that rise -/
theorem lay_rep {g : Int → Int} : ∀ (r : List Int) (l : List (Int × Int)) (T : Int), 0 ≤ T → T < 1099511627776 → (T :: r).Pairwise (· < ·) → (∀ x ∈ r, x < 1099511627776) → RepU l g T →
    (∀ a b : List Int, ∀ x y : Int, T :: r = a ++ x :: y :: b → ∀ z, x ≤ z → z < y → g z = g x) → (∀ x, (T :: r).getLast? = some x → ∀ z, x ≤ z → z < 1099511627776 → g z = g x) → RepU ((T :: r).foldl (fun l t => layU l t (g t)) l) g 1099511627776
  | [], l, T, h0, h1, _, _, hr, _, hl => by
    rw [List.foldl_cons, List.foldl_nil]
    exact hr.lay h0 h1 (hl T rfl)
  | y :: r, l, T, h0, h1, hs, hh, hr, hg, hl => by
    rw [List.foldl_cons]
    obtain ⟨s1, s2⟩ := List.pairwise_cons.1 hs
    have hTy := s1 y List.mem_cons_self
    refine lay_rep r _ y (by omega) (hh y List.mem_cons_self) s2 (fun x hx => hh x (List.mem_cons_of_mem _ hx)) (hr.lay h0 hTy (hg [] r T y rfl)) (fun a b x z e => hg (T :: a) b x z (by rw [e]; rfl)) (fun x hx => hl x (by rw [List.getLast?_cons_cons]; exact hx))
theorem sorted_gap {l : List Int} (h : l.Pairwise (· < ·)) {a b : List Int} {x y : Int} (e : l = a ++ x :: y :: b) : ∀ p ∈ l, ¬ (x < p ∧ p < y) := by
  intro p hp hc
  rw [e] at h hp
  obtain ⟨_, h2, h3⟩ := List.pairwise_append.1 h
  obtain ⟨h4, h5⟩ := List.pairwise_cons.1 h2
  obtain ⟨h6, _⟩ := List.pairwise_cons.1 h5
  rcases List.mem_append.1 hp with hp | hp
  · have := h3 p hp x List.mem_cons_self; omega
  · rcases List.mem_cons.1 hp with rfl | hp
    · omega
    · rcases List.mem_cons.1 hp with rfl | hp
      · omega
      · have := h6 p hp; omega
theorem sorted_last {l : List Int} (h : l.Pairwise (· < ·)) {x : Int} (e : l.getLast? = some x) : ∀ p ∈ l, p ≤ x := by
  intro p hp
  obtain ⟨a, rfl⟩ := List.getLast?_eq_some_iff.1 e
  obtain ⟨_, _, h3⟩ := List.pairwise_append.1 h
  rcases List.mem_append.1 hp with hp | hp
  · have := h3 p hp x (by simp); omega
  · simp at hp; omega
theorem list_rep (first : Int) (C : List ChgC) : RepU (listR first C) (fun x => C.foldl (ratStep x) (boundU first)) 1099511627776 := by
  have ht := timesU_times C
  have hf : listR first C = (timesU C).foldl (fun l t => layU l t ((fun x => C.foldl (ratStep x) (boundU first)) t)) [] := by
    unfold listR
    have : ∀ (m : List Int) (l : List (Int × Int)), (∀ x ∈ m, 0 ≤ x ∧ x < 1099511627776) → m.foldl (fun l t => layU l t (ratU first C t)) l = m.foldl (fun l t => layU l t ((fun x => C.foldl (ratStep x) (boundU first)) t)) l := by
      intro m
      induction m with
      | nil => intro l _; rfl
      | cons x r ih =>
        intro l hm
        have hx := hm x List.mem_cons_self
        rw [List.foldl_cons, List.foldl_cons, ratU_fold hx.1 hx.2]
        exact ih _ (fun y hy => hm y (List.mem_cons_of_mem _ hy))
    exact this _ _ ht.hi
  rw [hf]
  have hz := ht.zero
  have hgap : ∀ a b : List Int, ∀ x y : Int, timesU C = a ++ x :: y :: b → ∀ z, x ≤ z → z < y → C.foldl (ratStep z) (boundU first) = C.foldl (ratStep x) (boundU first) := fun a b x y e z h1 h2 => by
    have hx := ht.hi x (by rw [e]; simp)
    have hy := ht.hi y (by rw [e]; simp)
    exact same_between hx.1 h1 (by omega) (fun p hp hc => sorted_gap ht.sorted e p hp ⟨hc.1, by omega⟩)
  have hlast : ∀ x, (timesU C).getLast? = some x → ∀ z, x ≤ z → z < 1099511627776 → C.foldl (ratStep z) (boundU first) = C.foldl (ratStep x) (boundU first) := fun x e z h1 h2 => by
    have hx := ht.hi x (List.mem_of_getLast? e)
    exact same_between hx.1 h1 h2 (fun p hp hc => by have := sorted_last ht.sorted e p hp; omega)
  cases hl : timesU C with
  | nil => rw [hl] at hz; simp at hz
  | cons T r =>
    rw [hl] at hz hgap hlast
    have hT : T = 0 := by simpa using hz
    subst hT
    exact lay_rep r [] 0 (by decide) (by decide) (hl ▸ ht.sorted) (fun x hx => (ht.hi x (by rw [hl]; exact List.mem_cons_of_mem _ hx)).2) ⟨fun _ => rfl, (fun p hp => by simp at hp), by simp, (fun a b p q e => by simp at e), (fun p hp => by cases hp), fun x h0 h1 => by omega⟩ hgap hlast
/-- the document's steps are those -/
theorem like_list {first : Int} {L : List (Int × Int)} {C : List ChgC} (h : LikeU first L C) (hr : RightU L) : listR first C = L := by
  have hrep := list_rep first C
  have hb : ∀ x, 0 ≤ x → x < 1099511627776 → -1000000 ≤ C.foldl (ratStep x) (boundU first) ∧ C.foldl (ratStep x) (boundU first) ≤ 1000000 := by
    intro x h0 h1
    have : ∀ (D : List ChgC) (v : Int), (-1000000 ≤ v ∧ v ≤ 1000000) → -1000000 ≤ D.foldl (ratStep x) v ∧ D.foldl (ratStep x) v ≤ 1000000 := by
      intro D
      induction D with
      | nil => intro v hv; exact hv
      | cons c r ih =>
        intro v hv
        rw [List.foldl_cons]
        refine ih _ ?_
        rw [ratStep_iff _ _ _ h0 h1]
        split
        · split
          · exact boundU_in _
          · exact addF_in _ _
        · exact hv
    exact this C _ (boundU_in _)
  refine right_same_steps (rep_right hrep hb) hr fun x h0 h1 => ?_
  rw [hrep.val x h0 h1, h x h0 h1]
end Go.Proofs.Ythdljigcfhjikaa
namespace Go.Proofs.Ythdljigcfhjikaa
set_option linter.unusedVariables false
open Go.ChangeShapes Go.WideShapes Go.ChangeAt Go.RowKit
attribute [local go_sem ↓] Go.wp_at_zero Go.wp_at_succ comesTo_value_eq comesTo_skip_eq comesTo_enter_eq

theorem insT_at : ∀ (l : List Int) (t : Int) (k : Nat), k ≤ l.length → (∀ j, j < k → l.getD j 0 < t) → (k < l.length → ¬ l.getD k 0 < t) → insT l t = if k < l.length ∧ l.getD k 0 = t then l else l.take k ++ t :: l.drop k
  | [], t, k, hk, _, _ => by
    obtain rfl : k = 0 := by simpa using hk
    rfl
  | y :: r, t, 0, _, _, h2 => by
    have h := h2 (by simp)
    simp only [List.getD_cons_zero] at h
    unfold insT
    rw [if_neg h]
    simp only [List.length_cons, List.getD_cons_zero, List.take_zero, List.drop_zero, List.nil_append]
    by_cases e : y = t
    · rw [if_pos e, if_pos ⟨by omega, e⟩]
    · rw [if_neg e, if_neg (fun hh => e hh.2)]
  | y :: r, t, k + 1, hk, h1, h2 => by
    have hy := h1 0 (by omega)
    simp only [List.getD_cons_zero] at hy
    have ih := insT_at r t k (by simpa using hk) (fun j hj => by have := h1 (j + 1) (by omega); simpa using this) (fun hh => by have := h2 (by simpa using hh); simpa using this)
    unfold insT
    rw [if_pos hy, ih]
    simp only [List.length_cons, List.getD_cons_succ, Nat.add_lt_add_iff_right]
    by_cases e : k < r.length ∧ r.getD k 0 = t
    · rw [if_pos e, if_pos e]
    · rw [if_neg e, if_neg e]; simp
/-- a row of times, none of which is missing -/
def RowT (w : World) (v : Value) (l : List Int) : Prop := ∃ g c, v = .slice (some ⟨g, 0, none⟩) l.length c ∧ l.length ≤ c ∧ g < w.heap.size ∧ ∀ k, k < l.length → w.cell? ⟨g, k, none⟩ = some (.int .i64 (l.getD k 0))
theorem RowT.below {w w' : World} {v : Value} {l : List Int} (h : RowT w v l) (hb : Below w.heap.size w w') : RowT w' v l := by
  obtain ⟨g, c, e, hc, hg, hr⟩ := h
  exact ⟨g, c, e, hc, Nat.lt_of_lt_of_le hg hb.size, fun k hk => (hb.cell (p := ⟨g, k, none⟩) hg).trans (hr k hk)⟩
def flatT (l : List Int) : List Value := l.map (Value.int .i64)
theorem flatT_len (l : List Int) : (flatT l).length = l.length * 1 := by simp [flatT]
theorem flatT_one (l : List Int) : ∀ u ∈ flatT l, u.oneCell' = true := fun u hu => by
  obtain ⟨y, _, rfl⟩ := List.mem_map.1 hu
  rfl
theorem flatT_get {l : List Int} {j : Nat} {u : Value} (h : (flatT l)[j]? = some u) : j < l.length ∧ u = .int .i64 (l.getD j 0) := by
  unfold flatT at h
  rw [List.getElem?_map] at h
  cases hj : l[j]? with
  | none => rw [hj] at h; cases h
  | some y =>
    rw [hj] at h
    obtain ⟨hlt, _⟩ := List.getElem?_eq_some_iff.1 hj
    refine ⟨hlt, ?_⟩
    have : u = .int .i64 y := by simpa using h.symm
    rw [this, List.getD_eq_getElem?_getD, hj]
    rfl
theorem info_i64 : (Try.prog.info? 2).map (fun i => (i.zero, i.size, i.bytes)) = some (some (.int .i64 0), 1, 8) := by kernel_rfl
theorem eltT : Ap.Elt Try.prog 34 2 1 8 :=
  ⟨Try.underlying34, by obtain ⟨i, h1, h2, h3, h4⟩ := info_parts3 info_i64; exact ⟨i, _, h1, h2, h3, h4, rfl⟩, by decide⟩
theorem RowT.own {w : World} {B : Nat} {v : Value} {l : List Int} (h : w.ownsRow B 2 1 v l.length (flatT l)) (hp : 0 < l.length) : RowT w v l := by
  rcases h.2 with ⟨rfl, h0⟩ | ⟨g, cap, cur, rfl, hB, hg, hc, _⟩
  · omega
  · refine ⟨g, cap, rfl, hc, (Array.getElem?_eq_some_iff.1 hg).1, fun k hk => ?_⟩
    refine (h.cellAt k (by omega)).trans ?_
    unfold flatT
    rw [List.getElem?_map, List.getElem?_eq_getElem hk, List.getD_eq_getElem?_getD, List.getElem?_eq_getElem hk]
    rfl
theorem rd_part {w : World} {g c o n : Nat} {l m : List Int} (hg : g < w.heap.size) (hr : ∀ k, k < l.length → w.cell? ⟨g, k, none⟩ = some (.int .i64 (l.getD k 0))) (hm : m.length = n) (hlm : ∀ j, j < n → o + j < l.length ∧ l.getD (o + j) 0 = m.getD j 0) : Ap.RdG w 1 (.slice (some ⟨g, o, none⟩) n c) n (flatT m) := by
  refine ⟨⟨_, c, rfl, (fun h => by cases h), fun a ha j u hj => ?_, fun a ha _ => by cases ha; exact hg⟩, by rw [flatT_len, hm], flatT_one m⟩
  cases ha
  obtain ⟨h1, rfl⟩ := flatT_get hj
  have hadd : (⟨g, o, none⟩ : Addr).add j = ⟨g, o + j, none⟩ := by unfold Addr.add; split <;> simp_all
  obtain ⟨h2, h3⟩ := hlm j (by omega)
  rw [hadd, hr _ h2, h3]
set_option maxRecDepth 100000 in
set_option maxHeartbeats 8000000 in
theorem rput_any {w : World} {v : Value} {l : List Int} (h : RowT w v l) (hlen : l.length ≤ 1073741824) (t : Int) :
    Calls Try.prog 53 #[v, .int .i64 t] w fun e w' => ∃ v', e = .returned v' ∧ RowT w' v' (putT l t) ∧ Below w.heap.size w w' := by
  have hmx : Try.prog.follows .mixedOrders = true := by kernel_rfl
  obtain ⟨g, c, rfl, hc, hg, hr⟩ := h
  have HR := Lib.hid (show RowT w (.slice (some ⟨g, 0, none⟩) l.length c) l from ⟨g, c, rfl, hc, hg, hr⟩)
  have HC := Lib.hid hr
  clear hr
  by_cases ht : t ≥ 1099511627776
  case pos =>
    have hd : decide (t ≥ 1099511627776) = true := decide_eq_true ht
    have E := Lib.hid (show putT l t = l by unfold putT; rw [if_pos ht])
    go_enter Try.func53, Try.ntmps53
    go_wp2_with fail
    go_ret
    exact ⟨_, rfl, by rw [E.out]; exact HR.out, Below.refl _ _⟩
  have hd : decide (t ≥ 1099511627776) = false := decide_eq_false ht
  have E := Lib.hid (show putT l t = insT l t by unfold putT; rw [if_neg ht])
  go_enter Try.func53, Try.ntmps53
  go_wp2_with fail
  go_loopw [5] (fun i wr => ∃ k : Nat, k ≤ l.length ∧ i = .int .i64 k ∧ (∀ j, j < k → l.getD j 0 < t) ∧ wr = w) (fun i _ => l.length - (intOf i).toNat)
  case atStart => exact ⟨0, by omega, rfl, fun j hj => by omega, rfl⟩
  case round =>
    obtain ⟨k, hk, rfl, hkk, rfl⟩ := hrel
    have HK := Lib.hid hkk
    clear hkk
    have hw1 : IntKind.i64.wrap ((k : Int) + 1) = ((k + 1 : Nat) : Int) := by rw [IntKind.wrap_i64]; omega
    by_cases hlt : k < l.length ∧ l.getD k 0 < t
    case pos =>
      have hd1 : decide (k < l.length) = true := decide_eq_true hlt.1
      have hix : (k : Int) < (l.length : Int) := by omega
      have c0 := HC.out k hlt.1
      have hd2 : decide (l.getD k 0 < t) = true := decide_eq_true hlt.2
      have HNX := Lib.hid (show ∀ j, j < k + 1 → l.getD j 0 < t from fun j hj => by rcases Nat.lt_or_ge j k with h | h; exact HK.out j h; rw [show j = k by omega]; exact hlt.2)
      have hkl := hlt.1
      clear hlt
      generalize l.getD k 0 = y at *
      go_wp2_with fail
      exact ⟨⟨k + 1, by omega, rfl, HNX.out, by first | rfl | trivial⟩, by show l.length - (((k + 1 : Nat) : Int)).toNat < l.length - ((k : Int)).toNat; omega⟩
    case neg =>
      have HI := Lib.hid (insT_at l t k hk HK.out (fun h h2 => hlt ⟨h, h2⟩))
      by_cases hkl : k < l.length
      case pos =>
        have hd1 : decide (k < l.length) = true := decide_eq_true hkl
        have hix : (k : Int) < (l.length : Int) := by omega
        have c0 := HC.out k hkl
        have hd2 : decide (l.getD k 0 < t) = false := decide_eq_false (fun h => hlt ⟨hkl, h⟩)
        by_cases he : l.getD k 0 = t
        case pos =>
          have E2 := Lib.hid (show putT l t = l by rw [E.out, HI.out, if_pos ⟨hkl, he⟩])
          have hq : (l.getD k 0 == t) = true := beq_iff_eq.2 he
          clear he hlt
          generalize l.getD k 0 = y at *
          go_wp2_with fail
          go_ret
          exact ⟨_, rfl, by rw [E2.out]; exact HR.out, Below.refl _ _⟩
        case neg =>
          have E2 := Lib.hid (show putT l t = l.take k ++ t :: l.drop k by rw [E.out, HI.out, if_neg (fun hh => he hh.2)])
          have hq : (l.getD k 0 == t) = false := beq_false_of_ne he
          clear he hlt
          have HCC := Lib.hid HC.out
          clear HC HI
          generalize l.getD k 0 = y at *
          have hs1 : (k : Int) ≤ (c : Int) := by omega
          have hs2 : (k : Int) ≤ (l.length : Int) := by omega
          go_upto_region 8 with fail
          clear c0
          refine Ap.wp_region_K (S1 := fun _ => True) (S2 := fun _ => True) (js := 12) hmx ?_
          change Ap.wpAnyK _ _ _ _ _ _ _ 13 _ _ wr.drew
          refine Ap.wpAnyK_take1 (i := 1) (v := .slice (some ⟨g, 0, none⟩) l.length c) rfl (by decide) (by decide +kernel) (by decide +kernel) (by decide +kernel) (fun _ _ _ h => h) (.inl ⟨by first | rfl | (go_simp; done), fun X hX => by clear hX; first | (go_simp; done) | (go_simp; rfl)⟩) ⟨trivial, trivial⟩ ?_
          refine Ap.wpAnyK_take1 (i := 2) (v := .int .i64 k) rfl (by decide) (by decide +kernel) (by decide +kernel) (by decide +kernel) (fun _ _ _ h => h) (.inl ⟨by first | rfl | (go_simp; done), fun X hX => by clear hX; first | (go_simp; done) | (go_simp; rfl)⟩) ⟨trivial, trivial⟩ ?_
          refine Ap.wpAnyK_take1 (i := 3) (v := .slice (some ⟨g, 0, none⟩) k c) rfl (by decide) (by decide +kernel) (by decide +kernel) (by decide +kernel) (fun _ _ _ h => h) (.inl ⟨by first | rfl | (go_simp; done), fun X hX => by clear hX; first | (go_simp; done) | (go_simp; rfl)⟩) ⟨trivial, trivial⟩ ?_
          refine Ap.wpAnyK_take1 (i := 5) (v := .int .i64 t) rfl (by decide) (by decide +kernel) (by decide +kernel) (by decide +kernel) (fun _ _ _ h => h) (.inl ⟨by first | rfl | (go_simp; done), fun X hX => by clear hX; first | (go_simp; done) | (go_simp; rfl)⟩) ⟨trivial, trivial⟩ ?_
          refine Ap.wpAnyK_take1 (i := 8) (v := .slice (some ⟨g, 0, none⟩) l.length c) rfl (by decide) (by decide +kernel) (by decide +kernel) (by decide +kernel) (fun _ _ _ h => h) (.inl ⟨by first | rfl | (go_simp; done), fun X hX => by clear hX; first | (go_simp; done) | (go_simp; rfl)⟩) ⟨trivial, trivial⟩ ?_
          refine Ap.wpAnyK_take1 (i := 9) (v := .int .i64 k) rfl (by decide) (by decide +kernel) (by decide +kernel) (by decide +kernel) (fun _ _ _ h => h) (.inl ⟨by first | rfl | (go_simp; done), fun X hX => by clear hX; first | (go_simp; done) | (go_simp; rfl)⟩) ⟨trivial, trivial⟩ ?_
          refine Ap.wpAnyK_take1 (i := 10) (v := .slice (if c = k then some ⟨g, 0, none⟩ else some ⟨g, k, none⟩) (l.length - k) (c - k)) rfl (by decide) (by decide +kernel) (by decide +kernel) (by decide +kernel) (fun _ _ _ h => h) (.inl ⟨by first | rfl | (go_simp; done), fun X hX => by clear hX; first | (go_simp; done) | (go_simp; rfl)⟩) ⟨trivial, trivial⟩ ?_
          have rd1 : Ap.RdG wr 1 (.slice (some ⟨g, 0, none⟩) k c) k (flatT (l.take k)) := rd_part hg HCC.out (by rw [List.length_take]; omega) (fun j hj => ⟨by omega, by simp [List.getD_eq_getElem?_getD, List.getElem?_take, hj]⟩)
          have rd2 : Ap.RdG wr 1 (.slice (if c = k then some ⟨g, 0, none⟩ else some ⟨g, k, none⟩) (l.length - k) (c - k)) (l.length - k) (flatT (l.drop k)) := by
            by_cases hck : c = k
            · rw [if_pos hck]; exact rd_part hg HCC.out (by rw [List.length_drop]) (fun j hj => by omega)
            · rw [if_neg hck]; exact rd_part hg HCC.out (by rw [List.length_drop]) (fun j hj => ⟨by omega, by simp [List.getD_eq_getElem?_getD, List.getElem?_drop]⟩)
          refine Ap.anyK_app2 (j0 := 0) (j1 := 4) (j2 := 6) (j3 := 7) (fuel := 2) (cs := #[.int .i64 t]) eltT wr.heap.size (.inl (by decide +kernel)) (.inl (by decide +kernel)) (by decide +kernel) (by decide +kernel) (by decide +kernel) (by decide +kernel) (by decide) rfl rfl rfl rfl ⟨rfl, rfl, rfl, rfl⟩ (by decide) ⟨rfl, rfl, rfl, rfl⟩ rfl rfl
            (by simp [Act.put]) (fun a' X => by first | (go_simp; done) | (go_simp; rfl)) (.slice (some ⟨g, 0, none⟩) k c) k (flatT (l.take k)) (fun u0 u2 => ⟨by simp [Act.put, Act.eval], by simp [Act.put, Act.eval]⟩) (rd1.mono (Below.refl _ _).drew)
            (fun u0 u1 X => ⟨by first | (go_simp; done) | (go_simp; rfl), by first | (go_simp; done) | (go_simp; rfl), by first | (go_simp; done) | (go_simp; rfl)⟩) rfl (by intro u hu; simp at hu; subst hu; rfl) (by unfold maxLen; omega) (by omega) (Nat.le_refl _)
            (fun X hb => ⟨trivial, trivial⟩) ?_
          intro u0 u1 u2 v0 X ho hb
          obtain ⟨v1, X1, hrun, hown, _, hbel⟩ := Ap.run_app eltT 34 wr.heap.size v0 (k + 1) _ ho _ (l.length - k) _ ((rd2.mono (Below.refl _ _).drew).mono hb) (by unfold maxLen; omega) (by omega) (hb.size)
          refine Ap.anyK_val1 (i := 11) (v := v1) (w' := X1) (by decide +kernel) rfl rfl (Ap.exec_app rfl (by simp [Act.put, Act.eval]) (by simp [Act.put, Act.eval]) hrun) ⟨trivial, trivial⟩ ?_
          have hl2 : k + 1 + (l.length - k) = (l.take k ++ t :: l.drop k).length := by simp; omega
          have hf2 : flatT (l.take k) ++ [Value.int .i64 t] ++ flatT (l.drop k) = flatT (l.take k ++ t :: l.drop k) := by simp [flatT]
          have hO := Lib.hid (show RowT X1 v1 (putT l t) from by
            rw [E2.out]
            refine RowT.own (B := wr.heap.size) ?_ (by simp; omega)
            rw [← hl2, ← hf2]
            exact hown)
          have hB := Lib.hid (show Below wr.heap.size wr X1 from Below.trans (Below.drew (Below.refl _ _)) (Below.trans hb hbel))
          clear hown hrun hbel ho hb rd1 rd2 hl2 hf2
          obtain ⟨ga, ca, hva, _⟩ := hO.out
          obtain ⟨na, hna⟩ : ∃ n, n = (putT l t).length := ⟨_, rfl⟩
          rw [← hna] at hva
          clear hna
          subst hva
          refine Ap.anyK_val1 (i := 12) (v := .slice (some ⟨ga, 0, none⟩) na ca) (w' := X1) (by decide +kernel) rfl rfl (by first | (go_simp; done) | (go_simp; rfl)) ⟨trivial, trivial⟩ ?_
          refine Ap.wpAnyK_done (by decide +kernel) ?_ _
          go_wp2_with fail
          all_goals (
            go_ret
            exact ⟨_, rfl, hO.out, hB.out⟩)
      case neg =>
        have hd1 : decide (k < l.length) = false := decide_eq_false hkl
        have E2 := Lib.hid (show putT l t = l.take k ++ t :: l.drop k by rw [E.out, HI.out, if_neg (fun hh => hkl hh.1)])
        clear hlt
        have HCC := Lib.hid HC.out
        clear HC HI
        have hs1 : (k : Int) ≤ (c : Int) := by omega
        have hs2 : (k : Int) ≤ (l.length : Int) := by omega
        go_upto_region 8 with fail
        refine Ap.wp_region_K (S1 := fun _ => True) (S2 := fun _ => True) (js := 12) hmx ?_
        change Ap.wpAnyK _ _ _ _ _ _ _ 13 _ _ wr.drew
        refine Ap.wpAnyK_take1 (i := 1) (v := .slice (some ⟨g, 0, none⟩) l.length c) rfl (by decide) (by decide +kernel) (by decide +kernel) (by decide +kernel) (fun _ _ _ h => h) (.inl ⟨by first | rfl | (go_simp; done), fun X hX => by clear hX; first | (go_simp; done) | (go_simp; rfl)⟩) ⟨trivial, trivial⟩ ?_
        refine Ap.wpAnyK_take1 (i := 2) (v := .int .i64 k) rfl (by decide) (by decide +kernel) (by decide +kernel) (by decide +kernel) (fun _ _ _ h => h) (.inl ⟨by first | rfl | (go_simp; done), fun X hX => by clear hX; first | (go_simp; done) | (go_simp; rfl)⟩) ⟨trivial, trivial⟩ ?_
        refine Ap.wpAnyK_take1 (i := 3) (v := .slice (some ⟨g, 0, none⟩) k c) rfl (by decide) (by decide +kernel) (by decide +kernel) (by decide +kernel) (fun _ _ _ h => h) (.inl ⟨by first | rfl | (go_simp; done), fun X hX => by clear hX; first | (go_simp; done) | (go_simp; rfl)⟩) ⟨trivial, trivial⟩ ?_
        refine Ap.wpAnyK_take1 (i := 5) (v := .int .i64 t) rfl (by decide) (by decide +kernel) (by decide +kernel) (by decide +kernel) (fun _ _ _ h => h) (.inl ⟨by first | rfl | (go_simp; done), fun X hX => by clear hX; first | (go_simp; done) | (go_simp; rfl)⟩) ⟨trivial, trivial⟩ ?_
        refine Ap.wpAnyK_take1 (i := 8) (v := .slice (some ⟨g, 0, none⟩) l.length c) rfl (by decide) (by decide +kernel) (by decide +kernel) (by decide +kernel) (fun _ _ _ h => h) (.inl ⟨by first | rfl | (go_simp; done), fun X hX => by clear hX; first | (go_simp; done) | (go_simp; rfl)⟩) ⟨trivial, trivial⟩ ?_
        refine Ap.wpAnyK_take1 (i := 9) (v := .int .i64 k) rfl (by decide) (by decide +kernel) (by decide +kernel) (by decide +kernel) (fun _ _ _ h => h) (.inl ⟨by first | rfl | (go_simp; done), fun X hX => by clear hX; first | (go_simp; done) | (go_simp; rfl)⟩) ⟨trivial, trivial⟩ ?_
        refine Ap.wpAnyK_take1 (i := 10) (v := .slice (if c = k then some ⟨g, 0, none⟩ else some ⟨g, k, none⟩) (l.length - k) (c - k)) rfl (by decide) (by decide +kernel) (by decide +kernel) (by decide +kernel) (fun _ _ _ h => h) (.inl ⟨by first | rfl | (go_simp; done), fun X hX => by clear hX; first | (go_simp; done) | (go_simp; rfl)⟩) ⟨trivial, trivial⟩ ?_
        have rd1 : Ap.RdG wr 1 (.slice (some ⟨g, 0, none⟩) k c) k (flatT (l.take k)) := rd_part hg HCC.out (by rw [List.length_take]; omega) (fun j hj => ⟨by omega, by simp [List.getD_eq_getElem?_getD, List.getElem?_take, hj]⟩)
        have rd2 : Ap.RdG wr 1 (.slice (if c = k then some ⟨g, 0, none⟩ else some ⟨g, k, none⟩) (l.length - k) (c - k)) (l.length - k) (flatT (l.drop k)) := by
          by_cases hck : c = k
          · rw [if_pos hck]; exact rd_part hg HCC.out (by rw [List.length_drop]) (fun j hj => by omega)
          · rw [if_neg hck]; exact rd_part hg HCC.out (by rw [List.length_drop]) (fun j hj => ⟨by omega, by simp [List.getD_eq_getElem?_getD, List.getElem?_drop]⟩)
        refine Ap.anyK_app2 (j0 := 0) (j1 := 4) (j2 := 6) (j3 := 7) (fuel := 2) (cs := #[.int .i64 t]) eltT wr.heap.size (.inl (by decide +kernel)) (.inl (by decide +kernel)) (by decide +kernel) (by decide +kernel) (by decide +kernel) (by decide +kernel) (by decide) rfl rfl rfl rfl ⟨rfl, rfl, rfl, rfl⟩ (by decide) ⟨rfl, rfl, rfl, rfl⟩ rfl rfl
          (by simp [Act.put]) (fun a' X => by first | (go_simp; done) | (go_simp; rfl)) (.slice (some ⟨g, 0, none⟩) k c) k (flatT (l.take k)) (fun u0 u2 => ⟨by simp [Act.put, Act.eval], by simp [Act.put, Act.eval]⟩) (rd1.mono (Below.refl _ _).drew)
          (fun u0 u1 X => ⟨by first | (go_simp; done) | (go_simp; rfl), by first | (go_simp; done) | (go_simp; rfl), by first | (go_simp; done) | (go_simp; rfl)⟩) rfl (by intro u hu; simp at hu; subst hu; rfl) (by unfold maxLen; omega) (by omega) (Nat.le_refl _)
          (fun X hb => ⟨trivial, trivial⟩) ?_
        intro u0 u1 u2 v0 X ho hb
        obtain ⟨v1, X1, hrun, hown, _, hbel⟩ := Ap.run_app eltT 34 wr.heap.size v0 (k + 1) _ ho _ (l.length - k) _ ((rd2.mono (Below.refl _ _).drew).mono hb) (by unfold maxLen; omega) (by omega) (hb.size)
        refine Ap.anyK_val1 (i := 11) (v := v1) (w' := X1) (by decide +kernel) rfl rfl (Ap.exec_app rfl (by simp [Act.put, Act.eval]) (by simp [Act.put, Act.eval]) hrun) ⟨trivial, trivial⟩ ?_
        have hl2 : k + 1 + (l.length - k) = (l.take k ++ t :: l.drop k).length := by simp; omega
        have hf2 : flatT (l.take k) ++ [Value.int .i64 t] ++ flatT (l.drop k) = flatT (l.take k ++ t :: l.drop k) := by simp [flatT]
        have hO := Lib.hid (show RowT X1 v1 (putT l t) from by
          rw [E2.out]
          refine RowT.own (B := wr.heap.size) ?_ (by simp; omega)
          rw [← hl2, ← hf2]
          exact hown)
        have hB := Lib.hid (show Below wr.heap.size wr X1 from Below.trans (Below.drew (Below.refl _ _)) (Below.trans hb hbel))
        clear hown hrun hbel ho hb rd1 rd2 hl2 hf2
        obtain ⟨ga, ca, hva, _⟩ := hO.out
        obtain ⟨na, hna⟩ : ∃ n, n = (putT l t).length := ⟨_, rfl⟩
        rw [← hna] at hva
        clear hna
        subst hva
        refine Ap.anyK_val1 (i := 12) (v := .slice (some ⟨ga, 0, none⟩) na ca) (w' := X1) (by decide +kernel) rfl rfl (by first | (go_simp; done) | (go_simp; rfl)) ⟨trivial, trivial⟩ ?_
        refine Ap.wpAnyK_done (by decide +kernel) ?_ _
        go_wp2_with fail
        all_goals (
          go_ret
          exact ⟨_, rfl, hO.out, hB.out⟩)
theorem putT_len (l : List Int) (t : Int) : (putT l t).length ≤ l.length + 1 := by
  unfold putT
  split
  · omega
  · exact insT_len l t
theorem timesU_take (C : List ChgC) {k : Nat} (hk : k < C.length) : timesU (C.take (k + 1)) = putT (putT (timesU (C.take k)) (cleanI ((C.getD k chgD).f, (C.getD k chgD).t)).1) (cleanI ((C.getD k chgD).f, (C.getD k chgD).t)).2 := by
  unfold timesU
  rw [List.take_add_one, List.foldl_append, List.getElem?_eq_getElem hk, List.getD_eq_getElem?_getD, List.getElem?_eq_getElem hk]
  rfl
theorem timesU_len (C : List ChgC) : (timesU C).length ≤ 2 * C.length + 1 := by
  have : ∀ (D : List ChgC) (l : List Int), (D.foldl (fun l c => putT (putT l (cleanI (c.f, c.t)).1) (cleanI (c.f, c.t)).2) l).length ≤ l.length + 2 * D.length := by
    intro D
    induction D with
    | nil => intro l; simp
    | cons c r ih =>
      intro l
      rw [List.foldl_cons, List.length_cons]
      have h := ih (putT (putT l (cleanI (c.f, c.t)).1) (cleanI (c.f, c.t)).2)
      have h1 := putT_len (putT l (cleanI (c.f, c.t)).1) (cleanI (c.f, c.t)).2
      have h2 := putT_len l (cleanI (c.f, c.t)).1
      omega
  have := this C [0]
  unfold timesU
  simp only [List.length_cons, List.length_nil] at this
  omega
set_option maxRecDepth 100000 in
set_option maxHeartbeats 8000000 in
theorem rtimes_list {w : World} {v : Value} {C : List ChgC} (h : RowC w v C) (hlen : C.length ≤ 1048576) (first : Int) :
    Calls Try.prog 54 #[.agg #[.int .i64 first, v]] w fun e w' => ∃ v', e = .returned v' ∧ RowT w' v' (timesU C) ∧ Below w.heap.size w w' := by
  have hmx : Try.prog.follows .mixedOrders = true := by kernel_rfl
  obtain ⟨ad, cp, hv⟩ := h.form
  have hb0 := below_alloc (Below.refl _ w) (.cells #[.int .i64 first, v] 29)
  have n0 := World.alloc_heap_new w (.cells #[.int .i64 first, v] 29)
  have H := Lib.hid (fun W (hb : Below w.heap.size w W) => h.below hb)
  clear h
  subst hv
  go_enter Try.func54, Try.ntmps54
  go_upto_region 1 with fail
  generalize w.alloc (.cells #[.int .i64 first, .slice ad C.length cp] 29) = W at *
  have hb1 := below_alloc (Below.refl _ W) (.cells #[.int .i64 0] 2)
  have n1 := World.alloc_heap_new W (.cells #[.int .i64 0] 2)
  have HB := Lib.hid (below_next hb0 hb1)
  have HN := Lib.hid ((hb1.block _ (Array.getElem?_eq_some_iff.1 n0).1).trans n0)
  have HT := Lib.hid (show RowT (W.alloc (.cells #[.int .i64 0] 2)) (.slice (some ⟨W.heap.size, 0, none⟩) 1 1) (timesU []) from ⟨W.heap.size, 1, rfl, by decide, by simp, fun k hk => by
    obtain rfl : k = 0 := by have : k < 1 := hk; omega
    exact cell_of_block (o := 0) n1 rfl⟩)
  clear hb0 hb1 n0 n1
  go_upto_region 2 with fail
  generalize W.alloc (.cells #[.int .i64 0] 2) = W1 at *
  go_wp2_with fail
  go_loopw [3, 4] (fun z i wr => ∃ k : Nat, k ≤ C.length ∧ i = .int .i64 k ∧ RowT wr z (timesU (C.take k)) ∧ Below w.heap.size w wr ∧ wr.heap[w.heap.size]? = some (.cells #[.int .i64 first, .slice ad C.length cp] 29 (0, 0))) (fun _ i _ => C.length - (intOf i).toNat)
  case atStart => exact ⟨0, by omega, rfl, HT.out, HB.out, HN.out⟩
  case round =>
    obtain ⟨k, hk, rfl, ht, hb, hn⟩ := hrel
    obtain ⟨g, c, hz, hcap, hg, hr⟩ := ht
    have HTr := Lib.hid (show RowT wr (.slice (some ⟨g, 0, none⟩) (timesU (C.take k)).length c) (timesU (C.take k)) from ⟨g, c, rfl, hcap, hg, hr⟩)
    have hlk := timesU_len (C.take k)
    rw [List.length_take] at hlk
    have c0 := cell_of_block (o := 0) hn rfl
    have c1 := cell_of_block (o := 1) hn rfl
    have hlt1 := (Array.getElem?_eq_some_iff.1 hn).1
    have HBr := Lib.hid hb
    have HNr := Lib.hid hn
    clear hb hn HB HN HT hr
    by_cases hlt : k < C.length
    case neg =>
      have hd : decide (k < C.length) = false := decide_eq_false hlt
      obtain rfl : k = C.length := by omega
      rw [List.take_length] at HTr hz
      generalize (timesU C).length = n at *
      subst hz
      go_wp2_with fail
      go_ret
      exact ⟨_, rfl, HTr.out, HBr.out⟩
    case pos =>
      have hd : decide (k < C.length) = true := decide_eq_true hlt
      obtain ⟨gc, cc, e0, hgc, q0, q1, q2, q3⟩ := (H.out wr HBr.out).at hlt
      have e1 : ad = some ⟨gc, 0, none⟩ := by injection e0
      subst e1
      have HS := Lib.hid (timesU_take C hlt)
      have hw1 : IntKind.i64.wrap ((k : Int) + 1) = ((k + 1 : Nat) : Int) := by rw [IntKind.wrap_i64]; omega
      have hix : (k : Int) < (C.length : Int) := by omega
      generalize C.getD k chgD = ch at *
      obtain ⟨cf, ct, cs, cn⟩ := ch
      simp only at q0 q1 HS
      generalize timesU (C.take k) = l at *
      obtain ⟨nl, hnl⟩ : ∃ n, n = l.length := ⟨_, rfl⟩
      rw [← hnl] at hz HTr
      subst hz
      have KCl := Lib.hid (fun W => rclean_any cf ct W)
      generalize (cleanI (cf, ct)).1 = y1 at *
      generalize (cleanI (cf, ct)).2 = y2 at *
      go_wp2_with fail
      refine (KCl.out _).mono ?_
      rintro e W2 ⟨rfl, hb2⟩
      have hbB := below_alloc (Below.refl _ W2) (.cells #[.int .i64 y1, .int .i64 y2] 38)
      have nB := World.alloc_heap_new W2 (.cells #[.int .i64 y1, .int .i64 y2] 38)
      have HB3 := Lib.hid (below_next (below_next HBr.out hb2) hbB)
      have HT3 := Lib.hid ((HTr.out.below hb2).below hbB)
      have HN3 := Lib.hid ((hbB.block _ (Nat.lt_of_lt_of_le hlt1 hb2.size)).trans ((hb2.block _ hlt1).trans HNr.out))
      have hB5 := (Array.getElem?_eq_some_iff.1 nB).1
      obtain ⟨B5, hB5e⟩ : ∃ B, B = W2.heap.size := ⟨_, rfl⟩
      have NB := Lib.hid (hB5e ▸ nB)
      rw [← hB5e] at hB5
      go_upto_region 6 with fail
      rw [← hB5e]
      clear q0 q1 q2 q3 c0 c1 hb2 hbB nB HBr HTr HNr hB5e hgc
      generalize W2.alloc (.cells #[.int .i64 y1, .int .i64 y2] 38) = W3 at *
      have s0 := cell_of_block (o := 0) NB.out rfl
      have s1 := cell_of_block (o := 1) NB.out rfl
      refine Ap.wp_region_K (S1 := fun X => X.cell? ⟨B5, 0, none⟩ = some (.int .i64 y1) ∧ X.cell? ⟨B5, 1, none⟩ = some (.int .i64 y2)) (S2 := fun _ => True) (js := 7) hmx ?_
      change Ap.wpAnyK _ _ _ _ _ _ _ 8 _ _ W3.drew
      have hSS : (fun X : World => X.cell? ⟨B5, 0, none⟩ = some (.int .i64 y1) ∧ X.cell? ⟨B5, 1, none⟩ = some (.int .i64 y2)) W3.drew ∧ (fun _ : World => True) W3.drew := ⟨⟨s0, s1⟩, trivial⟩
      clear s0 s1
      refine Ap.wpAnyK_take1 (i := 0) (v := .slice (some ⟨g, 0, none⟩) nl c) rfl (by decide) (by decide +kernel) (by decide +kernel) (by decide +kernel) (fun _ _ _ h => h) (.inl ⟨by first | rfl | (go_simp; done), fun X hX => by have hx1 := hX.1; have hx2 := hX.2; clear hX; first | (go_simp; done) | (go_simp; rfl)⟩) hSS ?_
      refine Ap.wpAnyK_take1 (i := 1) (v := .pointer (some ⟨B5, 0, none⟩)) rfl (by decide) (by decide +kernel) (by decide +kernel) (by decide +kernel) (fun _ _ _ h => h) (.inl ⟨by first | rfl | (go_simp; done), fun X hX => by have hx1 := hX.1; have hx2 := hX.2; clear hX; first | (go_simp; done) | (go_simp; rfl)⟩) hSS ?_
      refine Ap.wpAnyK_take1 (i := 2) (v := .int .i64 y1) rfl (by decide) (by decide +kernel) (by decide +kernel) (by decide +kernel) (fun _ _ _ h => h) (.inl ⟨by first | rfl | (go_simp; done), fun X hX => by have hx1 := hX.1; have hx2 := hX.2; clear hX; first | (go_simp; done) | (go_simp; rfl)⟩) hSS ?_
      refine Ap.wpAnyK_take1 (i := 4) (v := .pointer (some ⟨B5, 1, none⟩)) rfl (by decide) (by decide +kernel) (by decide +kernel) (by decide +kernel) (fun _ _ _ h => h) (.inl ⟨by first | rfl | (go_simp; done), fun X hX => by have hx1 := hX.1; have hx2 := hX.2; clear hX; first | (go_simp; done) | (go_simp; rfl)⟩) hSS ?_
      refine Ap.wpAnyK_take1 (i := 5) (v := .int .i64 y2) rfl (by decide) (by decide +kernel) (by decide +kernel) (by decide +kernel) (fun _ _ _ h => h) (.inl ⟨by first | rfl | (go_simp; done), fun X hX => by have hx1 := hX.1; have hx2 := hX.2; clear hX; first | (go_simp; done) | (go_simp; rfl)⟩) hSS ?_
      refine Ap.anyK_call (i := 3) (by decide +kernel) rfl rfl (by go_simp) (rput_any (HT3.out.below (Below.refl _ _).drew) (by omega) y1) ?_
      rintro e X ⟨v1, rfl, hr1, hbx1⟩
      refine ⟨_, rfl, ⟨⟨(hbx1.cell (p := ⟨B5, 0, none⟩) hB5).trans hSS.1.1, (hbx1.cell (p := ⟨B5, 1, none⟩) hB5).trans hSS.1.2⟩, fun _ => trivial⟩, ?_⟩
      obtain ⟨g1, n1, cp1, rfl⟩ : ∃ g n c, v1 = .slice (some ⟨g, 0, none⟩) n c := by obtain ⟨g, c, e, _⟩ := hr1; exact ⟨_, _, _, e⟩
      have hl1 := putT_len l y1
      have hx1s := hbx1.size
      refine Ap.anyK_call (i := 6) (by decide +kernel) rfl rfl (by go_simp) (rput_any hr1 (by omega) y2) ?_
      rintro e X2 ⟨v2, rfl, hr2, hbx2⟩
      have hX5 : B5 < X.heap.size := Nat.lt_of_lt_of_le hB5 hx1s
      have hS2 : (fun X : World => X.cell? ⟨B5, 0, none⟩ = some (.int .i64 y1) ∧ X.cell? ⟨B5, 1, none⟩ = some (.int .i64 y2)) X2 := ⟨(hbx2.cell (p := ⟨B5, 0, none⟩) hX5).trans ((hbx1.cell (p := ⟨B5, 0, none⟩) hB5).trans hSS.1.1), (hbx2.cell (p := ⟨B5, 1, none⟩) hX5).trans ((hbx1.cell (p := ⟨B5, 1, none⟩) hB5).trans hSS.1.2)⟩
      refine ⟨_, rfl, ⟨hS2, fun _ => trivial⟩, ?_⟩
      obtain ⟨g2, n2, cp2, rfl⟩ : ∃ g n c, v2 = .slice (some ⟨g, 0, none⟩) n c := by obtain ⟨g, c, e, _⟩ := hr2; exact ⟨_, _, _, e⟩
      have HR2 := Lib.hid (show RowT X2 (.slice (some ⟨g2, 0, none⟩) n2 cp2) (timesU (C.take (k + 1))) by rw [HS.out]; exact hr2)
      have HB7 := Lib.hid (below_next (below_next (Below.drew HB3.out) hbx1) hbx2)
      have HN7 := Lib.hid ((hbx2.block _ (Nat.lt_of_lt_of_le (Array.getElem?_eq_some_iff.1 HN3.out).1 hx1s)).trans ((hbx1.block _ (Array.getElem?_eq_some_iff.1 HN3.out).1).trans HN3.out))
      refine Ap.anyK_val1 (i := 7) (v := .slice (some ⟨g2, 0, none⟩) n2 cp2) (w' := X2) (by decide +kernel) rfl rfl (by first | (go_simp; done) | (go_simp; rfl)) ⟨hS2, trivial⟩ ?_
      refine Ap.wpAnyK_done (by decide +kernel) ?_ _
      clear hr1 hr2 hbx1 hbx2 hSS hS2
      go_wp2_with fail
      exact ⟨⟨k + 1, by omega, rfl, HR2.out, HB7.out, HN7.out⟩, by show C.length - (((k + 1 : Nat) : Int)).toNat < C.length - ((k : Int)).toNat; omega⟩
end Go.Proofs.Ythdljigcfhjikaa
