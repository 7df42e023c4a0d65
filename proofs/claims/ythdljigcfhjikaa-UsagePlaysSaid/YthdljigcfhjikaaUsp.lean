/- Levels (layer 10), plainly: what a change leaves; steps that tell the same levels are the same. No condition but that the steps are right. -/
import Derived.Test.YthdljigcfhjikaaUsh
namespace Go.Proofs.Ythdljigcfhjikaa
set_option linter.unusedVariables false
open Go.RowKit
/-- the level of steps at a time; d: ahead of all -/
def lvl (d : Int) : List (Int × Int) → Int → Int
  | [], _ => d
  | p :: r, x => if x < p.1 then d else lvl p.2 r x
theorem lvl_snoc : ∀ (l : List (Int × Int)) (d T v x : Int), (∀ p ∈ l, p.1 < T) → lvl d (l ++ [(T, v)]) x = if x < T then lvl d l x else v
  | [], d, T, v, x, _ => rfl
  | p :: r, d, T, v, x, h => by
    have hp := h p (by simp)
    have ih := lvl_snoc r p.2 T v x fun q hq => h q (by simp [hq])
    simp only [List.cons_append, lvl, ih]
    by_cases h1 : x < p.1
    · rw [if_pos h1, if_pos (show x < T by omega), if_pos h1]
    · rw [if_neg h1, if_neg h1]
theorem lvl_last : ∀ (l : List (Int × Int)) (d x : Int), (∀ p ∈ l, p.1 ≤ x) → lvl d l x = (l.getLast?.map (·.2)).getD d
  | [], d, x, _ => rfl
  | p :: r, d, x, h => by
    have hp := h p (by simp)
    have ih := lvl_last r p.2 x fun q hq => h q (by simp [hq])
    simp only [lvl]
    rw [if_neg (by omega), ih]
    cases r with
    | nil => rfl
    | cons q s =>
      rw [List.getLast?_cons_cons, List.getLast?_eq_some_getLast (show q :: s ≠ [] by simp)]
      rfl
/-- steps that tell a function's levels up to a time -/
structure RepU (l : List (Int × Int)) (g : Int → Int) (T : Int) : Prop where
  nil : l = [] → T = 0
  head : ∀ p, l.head? = some p → p.1 = 0
  sorted : l.Pairwise (fun p q => p.1 < q.1)
  diff : ∀ (a b : List (Int × Int)) (p q : Int × Int), l = a ++ p :: q :: b → p.2 ≠ q.2
  hi : ∀ p ∈ l, p.1 < T
  val : ∀ x, 0 ≤ x → x < T → lvl 0 l x = g x
theorem RepU.lay {l : List (Int × Int)} {g : Int → Int} {T T' v : Int} (h : RepU l g T) (h0 : 0 ≤ T) (hT : T < T') (hg : ∀ x, T ≤ x → x < T' → g x = v) : RepU (layU l T v) g T' := by
  have hmem : ∀ p ∈ l, p.1 < T := h.hi
  unfold layU
  by_cases hl : l.getLast?.map (·.2) = some v
  · rw [if_pos hl]
    refine ⟨fun e => ?_, h.head, h.sorted, h.diff, fun p hp => by have := hmem p hp; omega, fun x hx hx' => ?_⟩
    · subst e; simp at hl
    · by_cases hlt : x < T
      · exact h.val x hx hlt
      · rw [lvl_last l 0 x (fun p hp => by have := hmem p hp; omega), hl, hg x (by omega) hx']; rfl
  · rw [if_neg hl]
    refine ⟨fun e => by simp at e, fun p hp => ?_, ?_, ?_, fun p hp => ?_, fun x hx hx' => ?_⟩
    · cases l with
      | nil => have := h.nil rfl; simp at hp; subst hp; exact this
      | cons q r => exact h.head p (by simpa using hp)
    · rw [List.pairwise_append]
      exact ⟨h.sorted, by simp, fun a ha b hb => by simp at hb; subst hb; exact hmem a ha⟩
    · intro a b p q e
      by_cases hb : b = []
      · subst hb
        have e2 : l ++ [(T, v)] = (a ++ [p]) ++ [q] := by rw [e]; simp
        obtain ⟨e3, e4⟩ := List.append_inj' e2 rfl
        have e5 : q = (T, v) := by simpa using e4.symm
        subst e5
        intro he
        apply hl
        rw [e3]
        simp [he]
      · obtain ⟨b', y, rfl⟩ : ∃ b' y, b = b' ++ [y] := ⟨b.dropLast, b.getLast hb, (List.dropLast_concat_getLast hb).symm⟩
        have e2 : l ++ [(T, v)] = (a ++ p :: q :: b') ++ [y] := by rw [e]; simp
        exact h.diff a b' p q (List.append_inj' e2 rfl).1
    · simp only [List.mem_append, List.mem_cons, List.not_mem_nil, or_false] at hp
      rcases hp with hp | rfl
      · have := hmem p hp; omega
      · exact hT
    · rw [lvl_snoc l 0 T v x hmem]
      by_cases hlt : x < T
      · rw [if_pos hlt]; exact h.val x hx hlt
      · rw [if_neg hlt, hg x (by omega) hx']
theorem RepU.step {l : List (Int × Int)} {g fn : Int → Int} {f t a b v : Int} (h : RepU l g a) (h0 : 0 ≤ a) (hab : a < b) (hb : b ≤ 1099511627776) (hft : clampI f < clampI t)
    (hg : ∀ x, a ≤ x → x < b → g x = if f ≤ x ∧ x < t then fn v else v) : RepU (stepU (f, t) fn l (a, b, v)) g b := by
  have cf : clampI f = if f < 0 then 0 else if 1099511627776 < f then 1099511627776 else f := rfl
  have ct : clampI t = if t < 0 then 0 else if 1099511627776 < t then 1099511627776 else t := rfl
  have ca : clampI a = a := by unfold clampI; rw [if_neg (by omega), if_neg (by omega)]
  have cb : clampI b = b := by unfold clampI; rw [if_neg (by omega), if_neg (by omega)]
  have hf1 : f < 1099511627776 := by rw [cf, ct] at hft; split at hft <;> (try split at hft) <;> (try split at hft) <;> (try split at hft) <;> omega
  have ht1 : 0 < t := by rw [cf, ct] at hft; split at hft <;> (try split at hft) <;> (try split at hft) <;> (try split at hft) <;> omega
  have hftt : f < t := by rw [cf, ct] at hft; split at hft <;> (try split at hft) <;> (try split at hft) <;> (try split at hft) <;> omega
  -- the first piece
  obtain ⟨T1, hT1, hr1⟩ : ∃ T1, T1 = (if a < f then min b f else a) ∧ RepU (step1 (f, t) l (a, b, v)) g T1 := by
    refine ⟨_, rfl, ?_⟩
    unfold step1
    by_cases h1 : a < f
    · simp only [h1, if_true]
      refine h.lay h0 (by omega) fun x hx hx' => ?_
      rw [hg x hx (by omega), if_neg (by omega)]
    · simp only [h1, if_false]; exact h
  have hcF : bothF (a, b) (f, t) = max a (clampI f) := by unfold bothF; simp only [ca]
  have hcT : bothT (a, b) (f, t) = min b (clampI t) := by unfold bothT; simp only [cb]
  have hcf0 : 0 ≤ clampI f ∧ clampI f ≤ 1099511627776 ∧ (0 ≤ f → clampI f = f) ∧ (f < 0 → clampI f = 0) := by
    rw [cf]; refine ⟨?_, ?_, fun h => ?_, fun h => ?_⟩ <;> (split <;> (try split) <;> omega)
  have hct0 : 0 ≤ clampI t ∧ clampI t ≤ 1099511627776 ∧ (t ≤ 1099511627776 → clampI t = t) ∧ (1099511627776 < t → clampI t = 1099511627776) := by
    rw [ct]; refine ⟨?_, ?_, fun h => ?_, fun h => ?_⟩ <;> (split <;> (try split) <;> omega)
  obtain ⟨F, hF⟩ : ∃ F, F = clampI f := ⟨_, rfl⟩
  obtain ⟨G, hG⟩ : ∃ G, G = clampI t := ⟨_, rfl⟩
  rw [← hF] at hcf0 hcF hft
  rw [← hG] at hct0 hcT hft
  obtain ⟨x1, x2, x3, x4⟩ := hcf0
  obtain ⟨y1, y2, y3, y4⟩ := hct0
  have hF' : (0 ≤ f ∧ F = f) ∨ (f < 0 ∧ F = 0) := by rcases Int.lt_or_le f 0 with h | h; exact .inr ⟨h, x4 h⟩; exact .inl ⟨h, x3 h⟩
  have hG' : (t ≤ 1099511627776 ∧ G = t) ∨ (1099511627776 < t ∧ G = 1099511627776) := by rcases Int.lt_or_le 1099511627776 t with h | h; exact .inr ⟨h, y4 h⟩; exact .inl ⟨h, y3 h⟩
  clear x3 x4 y3 y4 cf ct hF hG
  obtain ⟨T2, hT2, hr2⟩ : ∃ T2, T2 = (if max a F < min b G then min b G else T1) ∧ RepU (step2 (f, t) fn (step1 (f, t) l (a, b, v)) (a, b, v)) g T2 := by
    refine ⟨_, rfl, ?_⟩
    unfold step2
    have hcut : cutI (a, b) (f, t) = if min b G ≤ max a F then (0, 0) else (max a F, min b G) := by unfold cutI; rw [hcF, hcT]
    simp only [hcut]
    by_cases h1 : max a F < min b G
    · rw [if_neg (by omega : ¬ min b G ≤ max a F), if_pos h1]
      have e1 : clampI (max a F) = max a F := by unfold clampI; rw [if_neg (by omega), if_neg (by omega)]
      have e2 : clampI (min b G) = min b G := by unfold clampI; rw [if_neg (by omega), if_neg (by omega)]
      rw [e1, e2, if_neg (by omega)]
      have hT : T1 = max a F := by rw [hT1]; split <;> omega
      rw [← hT]
      refine hr1.lay (by omega) (by omega) fun x hx hx' => ?_
      rw [hg x (by omega) (by omega), if_pos (by omega)]
    · rw [if_pos (by omega : min b G ≤ max a F), if_neg h1]
      have e0 : clampI 0 = 0 := rfl
      simp only [e0]
      rw [if_pos (Int.le_refl _)]
      exact hr1
  unfold stepU step3
  by_cases h3 : t < b
  · simp only [h3, if_true]
    have hT : T2 = maxU a t := by
      unfold maxU
      rw [hT2, hT1]
      split <;> (try split) <;> (try split) <;> omega
    rw [← hT]
    have hT' : T2 = max a t := by rw [hT]; unfold maxU; split <;> omega
    refine hr2.lay (by omega) (by omega) fun x hx hx' => ?_
    rw [hg x (by omega) hx', if_neg (by omega)]
  · simp only [h3, if_false]
    have hT : T2 = b := by rw [hT2, hT1]; split <;> (try split) <;> omega
    exact hT ▸ hr2

/-- right steps -/
structure RightU (L : List (Int × Int)) : Prop where
  head : ∃ v r, L = (0, v) :: r
  sorted : L.Pairwise (fun p q => p.1 < q.1)
  diff : ∀ (a b : List (Int × Int)) (p q : Int × Int), L = a ++ p :: q :: b → p.2 ≠ q.2
  hi : ∀ p ∈ L, p.1 < 1099511627776
  bd : ∀ p ∈ L, -1000000 ≤ p.2 ∧ p.2 ≤ 1000000
/-- the level at a time that lies in a step -/
theorem lvl_at {L : List (Int × Int)} (hs : L.Pairwise (fun p q => p.1 < q.1)) : ∀ (d : Int) (k : Nat) (x : Int), k < L.length → (L.getD k (0, 0)).1 ≤ x → (k + 1 < L.length → x < (L.getD (k + 1) (0, 0)).1) → lvl d L x = (L.getD k (0, 0)).2 := by
  induction L with
  | nil => intro d k x h; simp at h
  | cons p r ih =>
    intro d k x h h1 h2
    obtain ⟨hp, hr⟩ := List.pairwise_cons.1 hs
    cases k with
    | zero =>
      simp only [List.getD_cons_zero] at h1
      simp only [lvl, List.getD_cons_zero]
      rw [if_neg (by omega)]
      cases r with
      | nil => rfl
      | cons q s =>
        have := h2 (by simp)
        simp at this
        simp only [lvl]
        rw [if_pos this]
    | succ k =>
      have hk : k < r.length := by simpa using h
      simp only [List.getD_cons_succ] at h1 h2
      have hmem : r.getD k (0, 0) ∈ r := by rw [List.getD_eq_getElem?_getD, List.getElem?_eq_getElem hk]; exact List.getElem_mem hk
      have := hp _ hmem
      simp only [lvl, List.getD_cons_succ]
      rw [if_neg (by omega)]
      exact ih hr p.2 k x hk h1 fun hk' => h2 (by simpa using hk')
theorem toU_le {L : List (Int × Int)} (h : RightU L) {k : Nat} (hk : k < L.length) : 0 ≤ (L.getD k (0, 0)).1 ∧ (L.getD k (0, 0)).1 < toU L k ∧ toU L k ≤ 1099511627776 := by
  have hget : ∀ j, j < L.length → L.getD j (0, 0) ∈ L := fun j hj => by rw [List.getD_eq_getElem?_getD, List.getElem?_eq_getElem hj]; exact List.getElem_mem hj
  have h0 : 0 ≤ (L.getD k (0, 0)).1 := by
    obtain ⟨v, r, e⟩ := h.head
    cases k with
    | zero => rw [e]; simp
    | succ k =>
      have hs := h.sorted
      rw [e] at hs hk ⊢
      obtain ⟨hp, _⟩ := List.pairwise_cons.1 hs
      have hkr : k < r.length := by simpa using hk
      have hm : r.getD k (0, 0) ∈ r := by rw [List.getD_eq_getElem?_getD, List.getElem?_eq_getElem hkr]; exact List.getElem_mem hkr
      have h9 : 0 < (r.getD k (0, 0)).1 := hp _ hm
      simp only [List.getD_cons_succ]
      omega
  refine ⟨h0, ?_, ?_⟩
  · unfold toU
    split
    · rename_i hk1
      have := List.pairwise_iff_getElem.1 h.sorted k (k + 1) hk hk1 (by omega)
      rw [List.getD_eq_getElem?_getD, List.getD_eq_getElem?_getD, List.getElem?_eq_getElem hk, List.getElem?_eq_getElem hk1]
      exact this
    · exact h.hi _ (hget k hk)
  · unfold toU
    split
    · rename_i hk1
      have := h.hi _ (hget (k + 1) hk1); omega
    · omega
theorem runsU_drop' {L : List (Int × Int)} {k : Nat} (h : k < L.length) : (runsU L).drop k = ((L.getD k (0, 0)).1, toU L k, (L.getD k (0, 0)).2) :: (runsU L).drop (k + 1) := by
  have hl : k < (runsU L).length := by unfold runsU; simpa using h
  rw [List.drop_eq_getElem_cons hl]
  congr 1
  unfold runsU
  simp
/-- what a change leaves: the function's levels in the span, the others outside of it -/
theorem change_rep {L : List (Int × Int)} (h : RightU L) {fn : Int → Int} {f t : Int} (hft : clampI f < clampI t) : RepU ((runsU L).foldl (stepU (f, t) fn) []) (fun x => if f ≤ x ∧ x < t then fn (lvl 0 L x) else lvl 0 L x) 1099511627776 := by
  have key : ∀ (m k : Nat) (l : List (Int × Int)), k + m = L.length → (k < L.length → RepU l (fun x => if f ≤ x ∧ x < t then fn (lvl 0 L x) else lvl 0 L x) (L.getD k (0, 0)).1) → (k = L.length → RepU l (fun x => if f ≤ x ∧ x < t then fn (lvl 0 L x) else lvl 0 L x) 1099511627776) → RepU (((runsU L).drop k).foldl (stepU (f, t) fn) l) (fun x => if f ≤ x ∧ x < t then fn (lvl 0 L x) else lvl 0 L x) 1099511627776 := by
    intro m
    induction m with
    | zero =>
      intro k l hk _ h2
      have : (runsU L).drop k = [] := by apply List.drop_eq_nil_of_le; unfold runsU; simp; omega
      rw [this]
      exact h2 (by omega)
    | succ m ih =>
      intro k l hk h1 _
      have hkl : k < L.length := by omega
      rw [runsU_drop' hkl]
      obtain ⟨b0, b1, b2⟩ := toU_le h hkl
      have hstep := (h1 hkl).step (fn := fn) (f := f) (t := t) (b := toU L k) (v := (L.getD k (0, 0)).2) b0 b1 b2 hft (fun x hx hx' => by
        have hl : lvl 0 L x = (L.getD k (0, 0)).2 := lvl_at h.sorted 0 k x hkl hx fun hk1 => by unfold toU at hx'; rw [if_pos hk1] at hx'; exact hx'
        simp only [hl])
      refine ih (k + 1) _ (by omega) (fun hk1 => ?_) (fun hk1 => ?_)
      · have : toU L k = (L.getD (k + 1) (0, 0)).1 := by unfold toU; rw [if_pos hk1]
        rw [← this]; exact hstep
      · have : toU L k = 1099511627776 := by unfold toU; rw [if_neg (by omega)]
        rw [← this]; exact hstep
  have := key L.length 0 [] (by omega) (fun h0 => ?_) (fun h0 => ?_)
  · simpa using this
  · obtain ⟨v, r, e⟩ := h.head
    have : (L.getD 0 (0, 0)).1 = 0 := by rw [e]; rfl
    rw [this]
    exact ⟨fun _ => rfl, fun p hp => by simp at hp, List.Pairwise.nil, fun a b p q e => by simp at e, fun p hp => by simp at hp, fun x h1 h2 => by omega⟩
  · obtain ⟨v, r, e⟩ := h.head
    rw [e] at h0; simp at h0

theorem mem_at {L : List (Int × Int)} {p : Int × Int} (h : p ∈ L) : ∃ k, k < L.length ∧ L.getD k (0, 0) = p := by
  obtain ⟨k, hk, rfl⟩ := List.getElem_of_mem h
  exact ⟨k, hk, by rw [List.getD_eq_getElem?_getD, List.getElem?_eq_getElem hk]; rfl⟩
theorem rep_right {l : List (Int × Int)} {g : Int → Int} (h : RepU l g 1099511627776) (hg : ∀ x, 0 ≤ x → x < 1099511627776 → -1000000 ≤ g x ∧ g x ≤ 1000000) : RightU l := by
  have h0 : ∀ p ∈ l, 0 ≤ p.1 := by
    intro p hp
    cases l with
    | nil => simp at hp
    | cons q r =>
      have hq := h.head q rfl
      obtain ⟨hs, _⟩ := List.pairwise_cons.1 h.sorted
      rcases List.mem_cons.1 hp with rfl | hp
      · omega
      · have := hs p hp; omega
  refine ⟨?_, h.sorted, h.diff, h.hi, fun p hp => ?_⟩
  · cases l with
    | nil => have := h.nil rfl; omega
    | cons q r =>
      have hq := h.head q rfl
      exact ⟨q.2, r, by rw [← hq]⟩
  · obtain ⟨k, hk, rfl⟩ := mem_at hp
    have hv := lvl_at h.sorted 0 k (l.getD k (0, 0)).1 hk (Int.le_refl _) fun hk1 => by
      have := List.pairwise_iff_getElem.1 h.sorted k (k + 1) hk hk1 (by omega)
      rw [List.getD_eq_getElem?_getD, List.getD_eq_getElem?_getD, List.getElem?_eq_getElem hk, List.getElem?_eq_getElem hk1]
      exact this
    rw [← hv, h.val _ (h0 _ hp) (h.hi _ hp)]
    exact hg _ (h0 _ hp) (h.hi _ hp)
theorem diff_tail {p : Int × Int} {r : List (Int × Int)} (h : ∀ (a b : List (Int × Int)) (u v : Int × Int), p :: r = a ++ u :: v :: b → u.2 ≠ v.2) : ∀ (a b : List (Int × Int)) (u v : Int × Int), r = a ++ u :: v :: b → u.2 ≠ v.2 := fun a b u v e => h (p :: a) b u v (by rw [e]; rfl)
theorem same_from : ∀ (r s : List (Int × Int)) (a x y d e : Int), (∀ p ∈ (a, x) :: r, p.1 < 1099511627776) → (∀ p ∈ (a, y) :: s, p.1 < 1099511627776) → ((a, x) :: r).Pairwise (fun p q => p.1 < q.1) → ((a, y) :: s).Pairwise (fun p q => p.1 < q.1) →
    (∀ (c b : List (Int × Int)) (u v : Int × Int), (a, x) :: r = c ++ u :: v :: b → u.2 ≠ v.2) → (∀ (c b : List (Int × Int)) (u v : Int × Int), (a, y) :: s = c ++ u :: v :: b → u.2 ≠ v.2) →
    (∀ z, a ≤ z → z < 1099511627776 → lvl d ((a, x) :: r) z = lvl e ((a, y) :: s) z) → (a, x) :: r = (a, y) :: s := by
  intro r
  induction r with
  | nil =>
    intro s a x y d e hr hs pr ps dr ds hv
    have ha : a < 1099511627776 := hr (a, x) (by simp)
    cases s with
    | nil =>
      have := hv a (Int.le_refl _) ha
      simp [lvl] at this
      rw [this]
    | cons q s =>
      have hq : q.1 < 1099511627776 := hs q (by simp)
      have haq : a < q.1 := (List.pairwise_cons.1 ps).1 q (by simp)
      have h1 := hv a (Int.le_refl _) ha
      have h2 := hv q.1 (by omega) hq
      simp only [lvl, Int.lt_irrefl, if_false] at h1 h2
      rw [if_pos haq] at h1
      rw [if_neg (by omega), if_neg (by omega)] at h2
      have hn : lvl q.2 s q.1 = q.2 := by
        cases s with
        | nil => rfl
        | cons u w =>
          have : q.1 < u.1 := (List.pairwise_cons.1 (List.pairwise_cons.1 ps).2).1 u (by simp)
          simp only [lvl]; rw [if_pos this]
      rw [hn] at h2
      exact absurd (h1.symm.trans h2) (ds [] s (a, y) q rfl)
  | cons p r ih =>
    intro s a x y d e hr hs pr ps dr ds hv
    have ha : a < 1099511627776 := hr (a, x) (by simp)
    have hp : p.1 < 1099511627776 := hr p (by simp)
    have hap : a < p.1 := (List.pairwise_cons.1 pr).1 p (by simp)
    have hn : ∀ (p : Int × Int) (r : List (Int × Int)), (p :: r).Pairwise (fun p q => p.1 < q.1) → lvl p.2 r p.1 = p.2 := fun p r h => by
      cases r with
      | nil => rfl
      | cons u w =>
        have : p.1 < u.1 := (List.pairwise_cons.1 h).1 u (by simp)
        simp only [lvl]; rw [if_pos this]
    have h1 := hv a (Int.le_refl _) ha
    cases s with
    | nil =>
      have h2 := hv p.1 (by omega) hp
      simp only [lvl, Int.lt_irrefl, if_false] at h1 h2
      rw [if_pos hap] at h1
      rw [if_neg (by omega), if_neg (by omega)] at h2
      rw [hn p r (List.pairwise_cons.1 pr).2] at h2
      exact absurd (h1.trans h2.symm) (dr [] r (a, x) p rfl)
    | cons q s =>
      have hq : q.1 < 1099511627776 := hs q (by simp)
      have haq : a < q.1 := (List.pairwise_cons.1 ps).1 q (by simp)
      simp only [lvl, Int.lt_irrefl, if_false] at h1
      rw [if_pos hap, if_pos haq] at h1
      subst h1
      have hpq : p.1 = q.1 := by
        rcases Int.lt_trichotomy p.1 q.1 with h | h | h
        · have h2 := hv p.1 (by omega) hp
          simp only [lvl, Int.lt_irrefl, if_false] at h2
          rw [if_neg (by omega), if_neg (by omega), if_pos h, hn p r (List.pairwise_cons.1 pr).2] at h2
          exact absurd h2.symm (dr [] r (a, x) p rfl)
        · exact h
        · have h2 := hv q.1 (by omega) hq
          simp only [lvl, Int.lt_irrefl, if_false] at h2
          rw [if_neg (by omega), if_pos h, if_neg (by omega), hn q s (List.pairwise_cons.1 ps).2] at h2
          exact absurd h2 (ds [] s (a, x) q rfl)
      obtain ⟨p1, p2⟩ := p
      obtain ⟨q1, q2⟩ := q
      simp only at hpq
      subst hpq
      have := ih s p1 p2 q2 x x (fun u hu => hr u (by simp only [List.mem_cons] at hu ⊢; exact .inr hu)) (fun u hu => hs u (by simp only [List.mem_cons] at hu ⊢; exact .inr hu)) (List.pairwise_cons.1 pr).2 (List.pairwise_cons.1 ps).2 (diff_tail dr) (diff_tail ds) (fun z hz hz' => by
        have hz2 : ¬ z < a := by simp only at hap; omega
        have h3 : (if z < a then d else lvl x ((p1, p2) :: r) z) = (if z < a then e else lvl x ((p1, q2) :: s) z) := hv z (by omega) hz'
        rw [if_neg hz2, if_neg hz2] at h3
        exact h3)
      rw [this]
/-- right steps of the same levels are the same -/
theorem right_same_steps {L M : List (Int × Int)} (h : RightU L) (k : RightU M) (hv : ∀ x, 0 ≤ x → x < 1099511627776 → lvl 0 L x = lvl 0 M x) : L = M := by
  obtain ⟨v, r, e⟩ := h.head
  obtain ⟨u, s, e'⟩ := k.head
  subst e e'
  exact same_from r s 0 v u 0 0 h.hi k.hi h.sorted k.sorted h.diff k.diff hv
theorem change_right {L : List (Int × Int)} (h : RightU L) {fn : Int → Int} (hfn : ∀ x, -1000000 ≤ fn x ∧ fn x ≤ 1000000) (f t : Int) : RightU (changeU fn L (f, t)) ∧ ∀ x, 0 ≤ x → x < 1099511627776 → lvl 0 (changeU fn L (f, t)) x = if clampI f < clampI t ∧ f ≤ x ∧ x < t then fn (lvl 0 L x) else lvl 0 L x := by
  unfold changeU
  by_cases hft : clampI t ≤ clampI f
  · simp only [hft, if_true]
    exact ⟨h, fun x _ _ => by rw [if_neg (by omega)]⟩
  · simp only [hft, if_false]
    have hrep := change_rep h (fn := fn) (f := f) (t := t) (by omega)
    refine ⟨rep_right hrep fun x h0 h1 => ?_, fun x h0 h1 => ?_⟩
    · split
      · exact hfn _
      · have hb : ∀ (l : List (Int × Int)) (d : Int), (∀ p ∈ l, -1000000 ≤ p.2 ∧ p.2 ≤ 1000000) → -1000000 ≤ d ∧ d ≤ 1000000 → -1000000 ≤ lvl d l x ∧ lvl d l x ≤ 1000000 := by
          intro l
          induction l with
          | nil => intro d _ hd; exact hd
          | cons p r ih =>
            intro d hp hd
            simp only [lvl]
            split
            · exact hd
            · exact ih p.2 (fun q hq => hp q (by simp [hq])) (hp p (by simp))
        exact hb L 0 h.bd (by omega)
    · rw [hrep.val x h0 h1]
      by_cases hx : f ≤ x ∧ x < t
      · rw [if_pos hx, if_pos ⟨by omega, hx.1, hx.2⟩]
      · rw [if_neg hx, if_neg (fun hh => hx hh.2)]
end Go.Proofs.Ythdljigcfhjikaa
