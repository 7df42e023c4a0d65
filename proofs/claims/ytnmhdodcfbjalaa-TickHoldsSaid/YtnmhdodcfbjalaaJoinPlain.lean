/- Plain facts: spans that are sorted and then put together are the same as spans that are put in one after the other. No condition but that none is empty. -/
import Derived.Test.YtnmhdodcfbjalaaJoin
namespace Go.Proofs.Ytnmhdodcfbjalaa
set_option linter.unusedVariables false

/-- spans that rise, do not touch, and are not empty -/
def NormJ (l : List (Int × Int)) : Prop := (∀ s ∈ l, s.1 < s.2) ∧ l.Pairwise fun x y => x.2 < y.1
/-- a time is in one of them -/
def inJ (l : List (Int × Int)) (t : Int) : Prop := ∃ s ∈ l, s.1 ≤ t ∧ t < s.2
theorem one_memJ {x o : Int × Int} (h : x ∈ [o]) : x = o := by simpa using h
theorem inJ_nil (t : Int) : ¬ inJ [] t := by rintro ⟨s, h, _⟩; cases h
theorem inJ_cons (x : Int × Int) (l : List (Int × Int)) (t : Int) : inJ (x :: l) t ↔ (x.1 ≤ t ∧ t < x.2) ∨ inJ l t := by
  unfold inJ; simp
theorem inJ_append (l m : List (Int × Int)) (t : Int) : inJ (l ++ m) t ↔ inJ l t ∨ inJ m t := by
  unfold inJ
  constructor
  · rintro ⟨s, h, h2⟩
    rcases List.mem_append.1 h with h | h
    · exact .inl ⟨s, h, h2⟩
    · exact .inr ⟨s, h, h2⟩
  · rintro (⟨s, h, h2⟩ | ⟨s, h, h2⟩)
    · exact ⟨s, List.mem_append_left _ h, h2⟩
    · exact ⟨s, List.mem_append_right _ h, h2⟩
theorem NormJ.cons {x : Int × Int} {l : List (Int × Int)} (h : NormJ (x :: l)) : x.1 < x.2 ∧ (∀ y ∈ l, x.2 < y.1) ∧ NormJ l := by
  obtain ⟨h1, h2⟩ := h
  rw [List.pairwise_cons] at h2
  exact ⟨h1 x List.mem_cons_self, h2.1, fun s hs => h1 s (List.mem_cons_of_mem _ hs), h2.2⟩
theorem NormJ.mk {x : Int × Int} {l : List (Int × Int)} (h : x.1 < x.2) (h1 : ∀ y ∈ l, x.2 < y.1) (h2 : NormJ l) : NormJ (x :: l) :=
  ⟨fun s hs => by rcases List.mem_cons.1 hs with rfl | hs; exact h; exact h2.1 s hs, List.pairwise_cons.2 ⟨h1, h2.2⟩⟩
theorem NormJ.append {l m : List (Int × Int)} (h1 : NormJ l) (h2 : NormJ m) (h : ∀ x ∈ l, ∀ y ∈ m, x.2 < y.1) : NormJ (l ++ m) :=
  ⟨fun s hs => by rcases List.mem_append.1 hs with hs | hs; exact h1.1 s hs; exact h2.1 s hs, List.pairwise_append.2 ⟨h1.2, h2.2, h⟩⟩
theorem NormJ.nil : NormJ [] := ⟨fun s hs => (by cases hs), List.Pairwise.nil⟩
theorem NormJ.single {x : Int × Int} (h : x.1 < x.2) : NormJ [x] := NormJ.mk h (fun y hy => by cases hy) NormJ.nil
theorem NormJ.left {l m : List (Int × Int)} (h : NormJ (l ++ m)) : NormJ l ∧ NormJ m ∧ ∀ x ∈ l, ∀ y ∈ m, x.2 < y.1 := by
  obtain ⟨h1, h2⟩ := h
  rw [List.pairwise_append] at h2
  exact ⟨⟨fun s hs => h1 s (List.mem_append_left _ hs), h2.1⟩, ⟨fun s hs => h1 s (List.mem_append_right _ hs), h2.2.1⟩, h2.2.2⟩
/-- such spans are told by their times -/
theorem NormJ.unique : ∀ (l m : List (Int × Int)), NormJ l → NormJ m → (∀ t, inJ l t ↔ inJ m t) → l = m
  | [], [], _, _, _ => rfl
  | [], y :: m, _, hm, h => by
    have := (h y.1).2 ((inJ_cons _ _ _).2 (.inl ⟨Int.le_refl _, hm.cons.1⟩))
    exact absurd this (inJ_nil _)
  | x :: l, [], hl, _, h => by
    have := (h x.1).1 ((inJ_cons _ _ _).2 (.inl ⟨Int.le_refl _, hl.cons.1⟩))
    exact absurd this (inJ_nil _)
  | x :: l, y :: m, hl, hm, h => by
    obtain ⟨a1, a2, a3⟩ := hl.cons
    obtain ⟨b1, b2, b3⟩ := hm.cons
    have hx : ∀ t, inJ l t → x.2 < t := by
      rintro t ⟨s, hs, h1, h2⟩
      have := a2 s hs
      omega
    have hy : ∀ t, inJ m t → y.2 < t := by
      rintro t ⟨s, hs, h1, h2⟩
      have := b2 s hs
      omega
    have key : ∀ t, ((x.1 ≤ t ∧ t < x.2) ∨ inJ l t) ↔ ((y.1 ≤ t ∧ t < y.2) ∨ inJ m t) := fun t => by rw [← inJ_cons, ← inJ_cons]; exact h t
    have e1 : x.1 = y.1 := by
      have p := (key x.1).1 (.inl ⟨Int.le_refl _, a1⟩)
      have q := (key y.1).2 (.inl ⟨Int.le_refl _, b1⟩)
      have p' : y.1 ≤ x.1 := by
        rcases p with p | p
        · exact p.1
        · have := hy _ p; omega
      have q' : x.1 ≤ y.1 := by
        rcases q with q | q
        · exact q.1
        · have := hx _ q; omega
      omega
    have e2 : x.2 = y.2 := by
      rcases Int.lt_trichotomy x.2 y.2 with g | g | g
      · have := (key x.2).2 (.inl ⟨by omega, g⟩)
        rcases this with p | p
        · omega
        · have := hx _ p; omega
      · exact g
      · have := (key y.2).1 (.inl ⟨by omega, g⟩)
        rcases this with p | p
        · omega
        · have := hy _ p; omega
    have e : x = y := Prod.ext e1 e2
    subst e
    congr 1
    refine NormJ.unique l m a3 b3 fun t => ?_
    constructor
    · intro p
      have := hx t p
      rcases (key t).1 (.inr p) with q | q
      · omega
      · exact q
    · intro p
      have := hy t p
      rcases (key t).2 (.inr p) with q | q
      · omega
      · exact q
theorem stepJ_nil (s : Int × Int) : stepJ [] s = [s] := rfl
theorem stepJ_concat (l : List (Int × Int)) (o s : Int × Int) : stepJ (l ++ [o]) s = if s.1 ≤ o.2 then l ++ [(o.1, max o.2 s.2)] else l ++ [o, s] := by
  unfold stepJ
  rw [List.getLast?_concat]
  simp only
  split
  · simp
  · simp
theorem stepJ_norm {acc : List (Int × Int)} (h : NormJ acc) {s : Int × Int} (hs : s.1 < s.2) (hle : ∀ x ∈ acc, x.1 ≤ s.1) :
    NormJ (stepJ acc s) ∧ (∀ x ∈ stepJ acc s, x.1 ≤ s.1) ∧ ∀ t, inJ (stepJ acc s) t ↔ inJ acc t ∨ (s.1 ≤ t ∧ t < s.2) := by
  rcases List.eq_nil_or_concat acc with rfl | ⟨l, o, rfl⟩
  · rw [stepJ_nil]
    refine ⟨NormJ.single hs, fun x hx => ?_, fun t => ?_⟩
    · rcases List.mem_cons.1 hx with rfl | hx
      · exact Int.le_refl _
      · cases hx
    · rw [inJ_cons]; exact Or.comm
  · rw [List.concat_eq_append] at h hle ⊢
    obtain ⟨h1, h2, h3⟩ := h.left
    have ho := hle o (by simp)
    have ho2 := h2.1 o (by simp)
    rw [stepJ_concat]
    by_cases hc : s.1 ≤ o.2
    · rw [if_pos hc]
      refine ⟨h1.append (NormJ.single (by simp only; omega)) (fun x hx y hy => ?_), fun x hx => ?_, fun t => ?_⟩
      · obtain rfl : y = (o.1, max o.2 s.2) := by simpa using hy
        exact h3 x hx o (by simp)
      · rcases List.mem_append.1 hx with hx | hx
        · exact hle x (List.mem_append_left _ hx)
        · obtain rfl : x = (o.1, max o.2 s.2) := by simpa using hx
          exact ho
      · rw [inJ_append, inJ_append, inJ_cons, inJ_cons, or_assoc]
        have : ((o.1 ≤ t ∧ t < max o.2 s.2)) ↔ ((o.1 ≤ t ∧ t < o.2) ∨ (s.1 ≤ t ∧ t < s.2)) := by omega
        simp only [this, inJ_nil, or_false]
    · rw [if_neg hc]
      refine ⟨?_, fun x hx => ?_, fun t => ?_⟩
      · refine h1.append (NormJ.mk ho2 (fun y hy => ?_) (NormJ.single hs)) (fun x hx y hy => ?_)
        · obtain rfl : y = s := by simpa using hy
          omega
        · have := h3 x hx o (by simp)
          rcases List.mem_cons.1 hy with rfl | hy
          · exact this
          · obtain rfl : y = s := by simpa using hy
            omega
      · rcases List.mem_append.1 hx with hx | hx
        · exact hle x (List.mem_append_left _ hx)
        · rcases List.mem_cons.1 hx with rfl | hx
          · exact ho
          · obtain rfl : x = s := by simpa using hx
            exact Int.le_refl _
      · rw [inJ_append, inJ_append, inJ_cons, inJ_cons, inJ_cons]
        simp only [inJ_nil, or_false, or_assoc]
theorem foldl_norm : ∀ (l acc : List (Int × Int)), NormJ acc → (∀ s ∈ l, s.1 < s.2) → l.Pairwise (fun x y => x.1 ≤ y.1) → (∀ x ∈ acc, ∀ s ∈ l, x.1 ≤ s.1) → NormJ (l.foldl stepJ acc) ∧ ∀ t, inJ (l.foldl stepJ acc) t ↔ inJ acc t ∨ inJ l t
  | [], acc, h, _, _, _ => ⟨h, fun t => by simp [inJ_nil]⟩
  | s :: l, acc, h, hp, hs, ha => by
    rw [List.pairwise_cons] at hs
    obtain ⟨a, b, c⟩ := stepJ_norm h (hp s List.mem_cons_self) (fun x hx => ha x hx s List.mem_cons_self)
    obtain ⟨d, e⟩ := foldl_norm l (stepJ acc s) a (fun x hx => hp x (List.mem_cons_of_mem _ hx)) hs.2 (fun x hx y hy => Int.le_trans (b x hx) (hs.1 y hy))
    refine ⟨d, fun t => ?_⟩
    rw [List.foldl_cons, e t, c t, inJ_cons, or_assoc]
theorem foldJ_norm {l : List (Int × Int)} (hp : ∀ s ∈ l, s.1 < s.2) (hs : l.Pairwise fun x y => x.1 ≤ y.1) : NormJ (foldJ l) ∧ ∀ t, inJ (foldJ l) t ↔ inJ l t := by
  obtain ⟨a, b⟩ := foldl_norm l [] NormJ.nil hp hs (fun x hx => by cases hx)
  exact ⟨a, fun t => by unfold foldJ; rw [b t]; simp [inJ_nil]⟩
theorem inJ_perm {l m : List (Int × Int)} (h : l.Perm m) (t : Int) : inJ l t ↔ inJ m t := by
  unfold inJ
  constructor
  · rintro ⟨s, a, b⟩; exact ⟨s, h.mem_iff.1 a, b⟩
  · rintro ⟨s, a, b⟩; exact ⟨s, h.mem_iff.2 a, b⟩
/-- one round of the reference's insertion -/
def inR (st : List (Int × Int) × (Int × Int) × Bool) (o : Int × Int) : List (Int × Int) × (Int × Int) × Bool :=
  if o.2 < st.2.1.1 then (st.1 ++ [o], st.2.1, st.2.2)
  else if st.2.1.2 < o.1 then ((if st.2.2 then st.1 else st.1 ++ [st.2.1]) ++ [o], st.2.1, true)
  else (st.1, (min st.2.1.1 o.1, max st.2.1.2 o.2), st.2.2)
def endR (st : List (Int × Int) × (Int × Int) × Bool) : List (Int × Int) := if st.2.2 then st.1 else st.1 ++ [st.2.1]
def insR (out : List (Int × Int)) (s : Int × Int) : List (Int × Int) := endR (out.foldl inR ([], s, false))
theorem inR_norm : ∀ (post next : List (Int × Int)) (s : Int × Int) (done : Bool), NormJ next → NormJ post → (∀ x ∈ next, ∀ o ∈ post, x.2 < o.1) → s.1 < s.2 →
    (done = true → s ∈ next ∧ ∀ o ∈ post, s.2 < o.1) → (done = false → ∀ x ∈ next, x.2 < s.1) →
    NormJ (endR (post.foldl inR (next, s, done))) ∧ ∀ t, inJ (endR (post.foldl inR (next, s, done))) t ↔ inJ next t ∨ (s.1 ≤ t ∧ t < s.2) ∨ inJ post t
  | [], next, s, done, hn, hp, hnp, hs, hd, hu => by
    unfold endR
    simp only [List.foldl_nil]
    cases done with
    | true =>
      simp only [if_true]
      refine ⟨hn, fun t => ?_⟩
      have hm := (hd rfl).1
      constructor
      · exact fun h => .inl h
      · rintro (h | h | h)
        · exact h
        · exact ⟨s, hm, h⟩
        · exact absurd h (inJ_nil _)
    | false =>
      simp only [Bool.false_eq_true, if_false]
      refine ⟨hn.append (NormJ.single hs) (fun x hx y hy => ?_), fun t => ?_⟩
      · obtain rfl : y = s := by simpa using hy
        exact hu rfl x hx
      · rw [inJ_append, inJ_cons]
  | o :: post, next, s, done, hn, hp, hnp, hs, hd, hu => by
    obtain ⟨p1, p2, p3⟩ := hp.cons
    have hno : ∀ x ∈ next, x.2 < o.1 := fun x hx => hnp x hx o List.mem_cons_self
    have hnp' : ∀ x ∈ next, ∀ y ∈ post, x.2 < y.1 := fun x hx y hy => hnp x hx y (List.mem_cons_of_mem _ hy)
    have he : inR (next, s, done) o = if o.2 < s.1 then (next ++ [o], s, done) else if s.2 < o.1 then ((if done then next else next ++ [s]) ++ [o], s, true) else (next, (min s.1 o.1, max s.2 o.2), done) := rfl
    rw [List.foldl_cons, he]
    clear he
    by_cases h1 : o.2 < s.1
    · rw [if_pos h1]
      have hdf : done = false := by
        cases done with
        | false => rfl
        | true => have := (hd rfl).2 o List.mem_cons_self; omega
      subst hdf
      obtain ⟨a, b⟩ := inR_norm post (next ++ [o]) s false (hn.append (NormJ.single p1) (fun x hx y hy => by rw [one_memJ hy]; exact hno x hx)) p3
        (fun x hx y hy => by
          rcases List.mem_append.1 hx with hx | hx
          · exact hnp' x hx y hy
          · obtain rfl : x = o := by simpa using hx
            exact p2 y hy) hs (fun h => by cases h) (fun _ x hx => by
          rcases List.mem_append.1 hx with hx | hx
          · exact hu rfl x hx
          · obtain rfl : x = o := by simpa using hx
            exact h1)
      refine ⟨a, fun t => ?_⟩
      rw [b t, inJ_append, inJ_cons, inJ_cons]
      simp only [inJ_nil, or_false]
      constructor
      · rintro ((h | h) | h | h)
        · exact .inl h
        · exact .inr (.inr (.inl h))
        · exact .inr (.inl h)
        · exact .inr (.inr (.inr h))
      · rintro (h | h | h | h)
        · exact .inl (.inl h)
        · exact .inr (.inl h)
        · exact .inl (.inr h)
        · exact .inr (.inr h)
    · rw [if_neg h1]
      by_cases h2 : s.2 < o.1
      · rw [if_pos h2]
        cases done with
        | true =>
          simp only [if_true]
          obtain ⟨hm, hpo⟩ := hd rfl
          obtain ⟨a, b⟩ := inR_norm post (next ++ [o]) s true (hn.append (NormJ.single p1) (fun x hx y hy => by rw [one_memJ hy]; exact hno x hx)) p3
            (fun x hx y hy => by
              rcases List.mem_append.1 hx with hx | hx
              · exact hnp' x hx y hy
              · obtain rfl : x = o := by simpa using hx
                exact p2 y hy) hs (fun _ => ⟨List.mem_append_left _ hm, fun y hy => hpo y (List.mem_cons_of_mem _ hy)⟩) (fun h => by cases h)
          refine ⟨a, fun t => ?_⟩
          rw [b t, inJ_append, inJ_cons, inJ_cons]
          simp only [inJ_nil, or_false]
          constructor
          · rintro ((h | h) | h | h)
            · exact .inl h
            · exact .inr (.inr (.inl h))
            · exact .inr (.inl h)
            · exact .inr (.inr (.inr h))
          · rintro (h | h | h | h)
            · exact .inl (.inl h)
            · exact .inr (.inl h)
            · exact .inl (.inr h)
            · exact .inr (.inr h)
        | false =>
          simp only [Bool.false_eq_true, if_false, List.append_assoc, List.singleton_append]
          obtain ⟨a, b⟩ := inR_norm post (next ++ [s, o]) s true (hn.append (NormJ.mk hs (fun y hy => by rw [one_memJ hy]; exact h2) (NormJ.single p1)) (fun x hx y hy => by
              rcases List.mem_cons.1 hy with rfl | hy
              · exact hu rfl x hx
              · obtain rfl : y = o := by simpa using hy
                exact hno x hx)) p3
            (fun x hx y hy => by
              have hy2 := p2 y hy
              rcases List.mem_append.1 hx with hx | hx
              · exact hnp' x hx y hy
              · rcases List.mem_cons.1 hx with rfl | hx
                · omega
                · obtain rfl : x = o := by simpa using hx
                  exact hy2) hs (fun _ => ⟨by simp, fun y hy => by have := p2 y hy; omega⟩) (fun h => by cases h)
          refine ⟨a, fun t => ?_⟩
          rw [b t, inJ_append, inJ_cons, inJ_cons, inJ_cons]
          simp only [inJ_nil, or_false]
          constructor
          · rintro ((h | h | h) | h | h)
            · exact .inl h
            · exact .inr (.inl h)
            · exact .inr (.inr (.inl h))
            · exact .inr (.inl h)
            · exact .inr (.inr (.inr h))
          · rintro (h | h | h | h)
            · exact .inl (.inl h)
            · exact .inr (.inl h)
            · exact .inl (.inr (.inr h))
            · exact .inr (.inr h)
      · rw [if_neg h2]
        have hdf : done = false := by
          cases done with
          | false => rfl
          | true => have := (hd rfl).2 o List.mem_cons_self; omega
        subst hdf
        obtain ⟨a, b⟩ := inR_norm post next (min s.1 o.1, max s.2 o.2) false hn p3 hnp' (by simp only; omega) (fun h => by cases h) (fun _ x hx => by have := hu rfl x hx; have := hno x hx; simp only; omega)
        refine ⟨a, fun t => ?_⟩
        rw [b t, inJ_cons]
        have : (min s.1 o.1 ≤ t ∧ t < max s.2 o.2) ↔ ((s.1 ≤ t ∧ t < s.2) ∨ (o.1 ≤ t ∧ t < o.2)) := by omega
        simp only [this, or_assoc]
theorem insR_norm {out : List (Int × Int)} (h : NormJ out) {s : Int × Int} (hs : s.1 < s.2) : NormJ (insR out s) ∧ ∀ t, inJ (insR out s) t ↔ (s.1 ≤ t ∧ t < s.2) ∨ inJ out t := by
  obtain ⟨a, b⟩ := inR_norm out [] s false NormJ.nil h (fun x hx => by cases hx) hs (fun h => by cases h) (fun _ x hx => by cases hx)
  exact ⟨a, fun t => by unfold insR; rw [b t]; simp [inJ_nil]⟩
def refJ (l : List (Int × Int)) : List (Int × Int) := l.foldl insR []
theorem refJ_norm {l : List (Int × Int)} (hp : ∀ s ∈ l, s.1 < s.2) : NormJ (refJ l) ∧ ∀ t, inJ (refJ l) t ↔ inJ l t := by
  have : ∀ (l acc : List (Int × Int)), NormJ acc → (∀ s ∈ l, s.1 < s.2) → NormJ (l.foldl insR acc) ∧ ∀ t, inJ (l.foldl insR acc) t ↔ inJ acc t ∨ inJ l t := by
    intro l
    induction l with
    | nil => intro acc h _; exact ⟨h, fun t => by simp [inJ_nil]⟩
    | cons s l ih =>
      intro acc h hp
      obtain ⟨a, b⟩ := insR_norm h (hp s List.mem_cons_self)
      obtain ⟨c, d⟩ := ih (insR acc s) a (fun x hx => hp x (List.mem_cons_of_mem _ hx))
      refine ⟨c, fun t => ?_⟩
      rw [List.foldl_cons, d t, b t, inJ_cons]
      constructor
      · rintro ((h | h) | h)
        · exact .inr (.inl h)
        · exact .inl h
        · exact .inr (.inr h)
      · rintro (h | h | h)
        · exact .inl (.inr h)
        · exact .inl (.inl h)
        · exact .inr h
  obtain ⟨a, b⟩ := this l [] NormJ.nil hp
  exact ⟨a, fun t => by unfold refJ; rw [b t]; simp [inJ_nil]⟩
/-- both ways to join tell the same -/
theorem foldJ_refJ {l l' : List (Int × Int)} (h : l'.Perm l) (hp : ∀ s ∈ l, s.1 < s.2) (hs : l'.Pairwise fun x y => x.1 ≤ y.1) : foldJ l' = refJ l := by
  obtain ⟨a, b⟩ := foldJ_norm (fun s hs => hp s (h.mem_iff.1 hs)) hs
  obtain ⟨c, d⟩ := refJ_norm hp
  exact NormJ.unique _ _ a c fun t => by rw [b t, d t, inJ_perm h t]
theorem refJ_succ (l : List (Int × Int)) (k : Nat) (h : k < l.length) : refJ (l.take (k + 1)) = insR (refJ (l.take k)) (l.getD k (0, 0)) := by
  rw [List.take_succ_eq_append_getElem h]
  unfold refJ
  rw [List.foldl_append]
  simp [List.getD, h]
theorem cutsOf_lt (l : List (Int × Int)) : ∀ s ∈ cutsOf l, s.1 < s.2 := by
  intro s hs
  unfold cutsOf at hs
  rw [List.mem_filterMap] at hs
  obtain ⟨x, _, hx⟩ := hs
  split at hx
  · cases hx
  · cases hx
    simp only
    omega
end Go.Proofs.Ytnmhdodcfbjalaa
