/- The law of regions that lay boxes and build rows, as a walk of the text. The conditions: the edges' checks, by computation. -/
import Derived.Test.YtgeldpfojmkdbaaBldB
namespace Go.Proofs.Ytgeldpfojmkdbaa.Bld
set_option linter.unusedVariables false
open Go Go.RowKit Go.Proofs.Ytgeldpfojmkdbaa
section
variable {P : Program} {ops : Array Oper} {md : Region.Mode} {W0 : World}

theorem lookup_none {β : Type} {d : Tmp} : ∀ {l : List (Tmp × β)}, l.lookup d = none → d ∉ l.map (·.1)
  | [], _ => by simp
  | (x, e) :: l, h => by
    by_cases hx : d = x
    · subst hx; simp [List.lookup] at h
    · rw [lookup_ne hx] at h
      have := lookup_none h
      simp only [List.map_cons, List.mem_cons, not_or]
      exact ⟨hx, this⟩
theorem lookup_mem {β : Type} {d : Tmp} {e : β} : ∀ {l : List (Tmp × β)}, l.lookup d = some e → (d, e) ∈ l
  | [], h => by simp [List.lookup] at h
  | (x, e') :: l, h => by
    by_cases hx : d = x
    · subst hx
      simp [List.lookup] at h
      subst h
      exact List.mem_cons_self
    · rw [lookup_ne hx] at h
      exact List.mem_cons_of_mem _ (lookup_mem h)
theorem lookup_of_mem {β : Type} {d : Tmp} {e : β} : ∀ {l : List (Tmp × β)}, (l.map (·.1)).Nodup → (d, e) ∈ l → l.lookup d = some e
  | [], _, h => by cases h
  | (x, e') :: l, hn, h => by
    simp only [List.map_cons, List.nodup_cons] at hn
    by_cases hx : d = x
    · subst hx
      rcases List.mem_cons.1 h with h | h
      · cases h; simp [List.lookup]
      · exact absurd (List.mem_map.2 ⟨_, h, rfl⟩) hn.1
    · rw [lookup_ne hx]
      rcases List.mem_cons.1 h with h | h
      · cases h; exact absurd rfl hx
      · exact lookup_of_mem hn.2 h
theorem putL_congr {E E' : Tmp → Ent} (blk : Tmp → Nat) : ∀ (l : List Tmp) (a : Act), (∀ d ∈ l, E d = E' d) → putL E blk l a = putL E' blk l a
  | [], _, _ => rfl
  | d :: l, a, h => by rw [putL, putL, h d List.mem_cons_self]; exact putL_congr blk l _ fun x hx => h x (List.mem_cons_of_mem _ hx)
theorem yieldsD_congr {E E' : Tmp → Ent} {ds : List Tmp} {o : Oper} {v : Value} {a : Act} (h : ∀ d ∈ ds, E d = E' d) (hy : yieldsD P ops W0 E ds o v a) : yieldsD P ops W0 E' ds o v a := fun blk => by
  have := hy blk
  rw [putL_congr blk ds a h] at this
  refine this.imp (fun ⟨h1, h2⟩ => ⟨h1, fun w hw hb => h2 w hw fun d hd => by rw [h d hd]; exact hb d hd⟩) id
def entOf (zs : List (Tmp × Ent)) (t : Tmp) : Ent := (zs.lookup t).getD (0, #[], none)
theorem entOf_mem {zs : List (Tmp × Ent)} (hn : (zs.map (·.1)).Nodup) {p : Tmp × Ent} (hp : p ∈ zs) : entOf zs p.1 = p.2 := by
  unfold entOf
  rw [lookup_of_mem hn (show (p.1, p.2) ∈ zs from hp)]
  rfl

def textB (P : Program) (ops : Array Oper) (W0 : World) (Q : List (Tmp × Ent) → List (Tmp × Array Value) → Act → Prop) : List Oper → List (Tmp × Ent) → List (Tmp × Array Value) → Act → Prop
  | [], zs, st, a => Q zs st a
  | o :: rest, zs, st, a =>
    if isAl o = true then ∃ (d : Tmp) (e : Ent), o.dst = some d ∧ zs.lookup d = none ∧ (∀ t ∈ o.looksAt ops, zs.lookup t = none) ∧ allocs P ops o e a ∧ textB P ops W0 Q rest ((d, e) :: zs) st a
    else match stAddr o with
      | some d => ∃ (e : Ent) (c : Array Value), zs.lookup d = some e ∧ st.lookup d = none ∧ (∀ t ∈ o.looksAt ops, t ≠ d → zs.lookup t = none) ∧ stores P o e d c a ∧ textB P ops W0 Q rest zs ((d, c) :: st) a
      | none => ∃ (v : Value) (ds : List Tmp), (∀ t ∈ o.looksAt ops, zs.lookup t ≠ none → t ∈ ds) ∧ (∀ d ∈ ds, d ∈ o.looksAt ops ∧ zs.lookup d ≠ none) ∧ yieldsD P ops W0 (entOf zs) ds o v a ∧ textB P ops W0 Q rest zs st (a.put o.dst v)

structure KnownFrom (P : Program) (ops : Array Oper) (W0 : World) (k : Nat) (vals : Nat → Value) (E : Tmp → Ent) (C : Tmp → Array Value) (F : Nat → Act) (zf : List (Tmp × Ent)) (sf : List (Tmp × Array Value)) : Prop where
  det : ∀ (i : Nat) (o : Oper), k ≤ i → ops[i]? = some o → isAl o = false → stAddr o = none → (∃ ds : List Tmp, yieldsD P ops W0 E ds o (vals i) (F i) ∧
      (∀ t ∈ o.looksAt ops, ∀ (j : Nat) (oj : Oper), ops[j]? = some oj → j < i → isAl oj = true → oj.dst = some t → t ∈ ds) ∧
      (∀ d ∈ ds, d ∈ o.looksAt ops ∧ ∃ (j : Nat) (oj : Oper), ops[j]? = some oj ∧ j < i ∧ isAl oj = true ∧ oj.dst = some d)) ∧ F (i + 1) = (F i).put o.dst (vals i)
  al : ∀ (i : Nat) (o : Oper) (d : Tmp), k ≤ i → ops[i]? = some o → isAl o = true → o.dst = some d → allocs P ops o (E d) (F i) ∧ (∀ t ∈ o.looksAt ops, ∀ (j : Nat) (oj : Oper), ops[j]? = some oj → j < i → isAl oj = true → oj.dst ≠ some t) ∧ F (i + 1) = F i ∧ (d, E d) ∈ zf
  st : ∀ (i : Nat) (o : Oper) (d : Tmp), k ≤ i → ops[i]? = some o → stAddr o = some d → stores P o (E d) d (C d) (F i) ∧ (∀ t ∈ o.looksAt ops, t ≠ d → ∀ (j : Nat) (oj : Oper), ops[j]? = some oj → j < i → isAl oj = true → oj.dst ≠ some t) ∧ F (i + 1) = F i ∧ (d, C d) ∈ sf
/-- what the walk of the text gives -/
theorem textB_get {Q : List (Tmp × Ent) → List (Tmp × Array Value) → Act → Prop} : ∀ (l : List Oper) (k : Nat) (zs : List (Tmp × Ent)) (st : List (Tmp × Array Value)) (a : Act), (∀ j, l[j]? = ops[k + j]?) →
    (zs.map (·.1)).Nodup → (st.map (·.1)).Nodup → (∀ t, zs.lookup t ≠ none ↔ ∃ (j : Nat) (oj : Oper), ops[j]? = some oj ∧ j < k ∧ isAl oj = true ∧ oj.dst = some t) →
    (∀ d ∈ st.map (·.1), ∃ (j : Nat) (oj : Oper), ops[j]? = some oj ∧ stAddr oj = some d) → textB P ops W0 Q l zs st a →
    ∃ (vals : Nat → Value) (E : Tmp → Ent) (C : Tmp → Array Value) (F : Nat → Act) (zf : List (Tmp × Ent)) (sf : List (Tmp × Array Value)), F k = a ∧ KnownFrom P ops W0 k vals E C F zf sf ∧
      (∀ p ∈ zf, E p.1 = p.2) ∧ (∀ p ∈ sf, C p.1 = p.2) ∧ (∀ p ∈ zs, p ∈ zf) ∧ (∀ p ∈ st, p ∈ sf) ∧ (zf.map (·.1)).Nodup ∧ (sf.map (·.1)).Nodup ∧
      (∀ d ∈ zf.map (·.1), ∃ (j : Nat) (oj : Oper), ops[j]? = some oj ∧ isAl oj = true ∧ oj.dst = some d) ∧ (∀ d ∈ sf.map (·.1), ∃ (j : Nat) (oj : Oper), ops[j]? = some oj ∧ stAddr oj = some d) ∧ Q zf sf (F (k + l.length))
  | [], k, zs, st, a, hl, hn, hs, hz, hst, h => by
    have hk : ∀ (i : Nat) (o : Oper), k ≤ i → ops[i]? ≠ some o := fun i o hi ho => by
      have := hl (i - k)
      rw [show k + (i - k) = i by omega, ho] at this
      simp at this
    refine ⟨fun _ => undef, entOf zs, fun d => (st.lookup d).getD #[], fun _ => a, zs, st, rfl, ⟨fun i o hi ho => absurd ho (hk i o hi), fun i o d hi ho => absurd ho (hk i o hi), fun i o d hi ho => absurd ho (hk i o hi)⟩,
      fun p hp => entOf_mem hn hp, fun p hp => by show (st.lookup p.1).getD #[] = p.2; rw [lookup_of_mem hs (show (p.1, p.2) ∈ st from hp)]; rfl, fun p hp => hp, fun p hp => hp, hn, hs, fun d hd => ?_, hst, h⟩
    have hne : zs.lookup d ≠ none := fun h0 => lookup_none h0 hd
    obtain ⟨j, oj, h1, _, h2, h3⟩ := (hz d).1 hne
    exact ⟨j, oj, h1, h2, h3⟩
  | o :: rest, k, zs, st, a, hl, hn, hs, hz, hst, h => by
    have ho : ops[k]? = some o := by simpa using (hl 0).symm
    have hl' : ∀ j, rest[j]? = ops[k + 1 + j]? := fun j => by
      have := hl (j + 1)
      rw [show k + 1 + j = k + (j + 1) by omega, ← this]
      simp
    have key : ∀ i, k ≤ i → i = k ∨ k + 1 ≤ i := fun i hi => by omega
    have hlen : k + (o :: rest).length = k + 1 + rest.length := by simp; omega
    by_cases hal : isAl o = true
    · simp only [textB, hal, if_true] at h
      obtain ⟨d, e, hd, hzd, hlk, ha, h⟩ := h
      have hz' : ∀ t, ((d, e) :: zs).lookup t ≠ none ↔ ∃ (j : Nat) (oj : Oper), ops[j]? = some oj ∧ j < k + 1 ∧ isAl oj = true ∧ oj.dst = some t := fun t => by
        by_cases ht : t = d
        · subst ht
          simp only [List.lookup, beq_self_eq_true, ne_eq, reduceCtorEq, not_false_eq_true, true_iff]
          exact ⟨k, o, ho, by omega, hal, hd⟩
        · rw [lookup_ne ht, hz t]
          constructor
          · rintro ⟨j, oj, h1, h2, h3⟩; exact ⟨j, oj, h1, by omega, h3⟩
          · rintro ⟨j, oj, h1, h2, h3, h4⟩
            refine ⟨j, oj, h1, ?_, h3, h4⟩
            refine Classical.byContradiction fun hn => ?_
            obtain rfl : j = k := by omega
            rw [ho] at h1; cases h1
            rw [hd] at h4
            exact ht (Option.some.inj h4).symm
      obtain ⟨vals, E, C, F, zf, sf, hF, K, hE, hC, hzf, hsf, n1, n2, g1, g2, hQ⟩ := textB_get rest (k + 1) _ st a hl' (by simp only [List.map_cons, List.nodup_cons]; exact ⟨lookup_none hzd, hn⟩) hs hz' hst h
      have hmem := hzf _ List.mem_cons_self
      have hEd : E d = e := hE _ hmem
      refine ⟨vals, E, C, fun i => if i = k then a else F i, zf, sf, by simp, ⟨fun i oi hi hoi ha' hs' => ?_, fun i oi d' hi hoi ha' hd' => ?_, fun i oi d' hi hoi hs' => ?_⟩, hE, hC, fun p hp => hzf p (List.mem_cons_of_mem _ hp), hsf, n1, n2, g1, g2, ?_⟩
      · rcases key i hi with rfl | hi'
        · rw [ho] at hoi; cases hoi; rw [hal] at ha'; cases ha'
        · have := K.det i oi hi' hoi ha' hs'
          simpa [show i ≠ k by omega, show i + 1 ≠ k by omega] using this
      · rcases key i hi with rfl | hi'
        · rw [ho] at hoi; cases hoi
          obtain rfl := Option.some.inj (hd.symm.trans hd')
          refine ⟨by simpa [hEd] using ha, fun t ht j oj hj hlt haj hdj => ?_, by simp [hF], by rw [hEd]; exact hmem⟩
          exact (hz t).2 ⟨j, oj, hj, hlt, haj, hdj⟩ (hlk t ht)
        · have := K.al i oi d' hi' hoi ha' hd'
          simpa [show i ≠ k by omega, show i + 1 ≠ k by omega] using this
      · rcases key i hi with rfl | hi'
        · rw [ho] at hoi; cases hoi; rw [isAl_stAddr hal] at hs'; cases hs'
        · have := K.st i oi d' hi' hoi hs'
          simpa [show i ≠ k by omega, show i + 1 ≠ k by omega] using this
      · rw [hlen]
        simp only [show k + 1 + rest.length ≠ k by omega, if_false]
        exact hQ
    · have hal' : isAl o = false := by simpa using hal
      simp only [textB, hal', Bool.false_eq_true, if_false] at h
      have hz' : ∀ t, zs.lookup t ≠ none ↔ ∃ (j : Nat) (oj : Oper), ops[j]? = some oj ∧ j < k + 1 ∧ isAl oj = true ∧ oj.dst = some t := fun t => by
        rw [hz t]
        constructor
        · rintro ⟨j, oj, h1, h2, h3⟩; exact ⟨j, oj, h1, by omega, h3⟩
        · rintro ⟨j, oj, h1, h2, h3, h4⟩
          refine ⟨j, oj, h1, ?_, h3, h4⟩
          refine Classical.byContradiction fun hn => ?_
          obtain rfl : j = k := by omega
          rw [ho] at h1; cases h1
          exact hal h3
      cases hst' : stAddr o with
      | some d =>
        simp only [hst'] at h
        obtain ⟨e, c, hzd, hsd, hlk, hss, h⟩ := h
        obtain ⟨vals, E, C, F, zf, sf, hF, K, hE, hC, hzf, hsf, n1, n2, g1, g2, hQ⟩ := textB_get rest (k + 1) zs _ a hl' hn (by simp only [List.map_cons, List.nodup_cons]; exact ⟨lookup_none hsd, hs⟩) hz' (fun x hx => by
          rcases List.mem_cons.1 hx with rfl | hx
          · exact ⟨k, o, ho, hst'⟩
          · exact hst x hx) h
        have hmem := hsf _ List.mem_cons_self
        have hCd : C d = c := hC _ hmem
        have hEd : E d = e := hE _ (hzf _ (lookup_mem hzd))
        refine ⟨vals, E, C, fun i => if i = k then a else F i, zf, sf, by simp, ⟨fun i oi hi hoi ha' hs' => ?_, fun i oi d' hi hoi ha' hd' => ?_, fun i oi d' hi hoi hs' => ?_⟩, hE, hC, hzf, fun p hp => hsf p (List.mem_cons_of_mem _ hp), n1, n2, g1, g2, ?_⟩
        · rcases key i hi with rfl | hi'
          · rw [ho] at hoi; cases hoi; rw [hst'] at hs'; cases hs'
          · have := K.det i oi hi' hoi ha' hs'
            simpa [show i ≠ k by omega, show i + 1 ≠ k by omega] using this
        · rcases key i hi with rfl | hi'
          · rw [ho] at hoi; cases hoi; rw [hal'] at ha'; cases ha'
          · have := K.al i oi d' hi' hoi ha' hd'
            simpa [show i ≠ k by omega, show i + 1 ≠ k by omega] using this
        · rcases key i hi with rfl | hi'
          · rw [ho] at hoi; cases hoi
            obtain rfl := Option.some.inj (hst'.symm.trans hs')
            refine ⟨by simpa [hEd, hCd] using hss, fun t ht htd j oj hj hlt haj hdj => ?_, by simp [hF], by rw [hCd]; exact hmem⟩
            exact (hz t).2 ⟨j, oj, hj, hlt, haj, hdj⟩ (hlk t ht htd)
          · have := K.st i oi d' hi' hoi hs'
            simpa [show i ≠ k by omega, show i + 1 ≠ k by omega] using this
        · rw [hlen]
          simp only [show k + 1 + rest.length ≠ k by omega, if_false]
          exact hQ
      | none =>
        simp only [hst'] at h
        obtain ⟨v, ds, hd1, hd2, hy, h⟩ := h
        obtain ⟨vals, E, C, F, zf, sf, hF, K, hE, hC, hzf, hsf, n1, n2, g1, g2, hQ⟩ := textB_get rest (k + 1) zs st _ hl' hn hs hz' hst h
        have hEE : ∀ d ∈ ds, entOf zs d = E d := fun d hd => by
          obtain ⟨e, he⟩ := Option.ne_none_iff_exists'.1 (hd2 d hd).2
          have hm := lookup_mem he
          rw [hE _ (hzf _ hm)]
          unfold entOf
          rw [he]
          rfl
        refine ⟨fun i => if i = k then v else vals i, E, C, fun i => if i = k then a else F i, zf, sf, by simp, ⟨fun i oi hi hoi ha' hs' => ?_, fun i oi d' hi hoi ha' hd' => ?_, fun i oi d' hi hoi hs' => ?_⟩, hE, hC, hzf, hsf, n1, n2, g1, g2, ?_⟩
        · rcases key i hi with rfl | hi'
          · rw [ho] at hoi; cases hoi
            refine ⟨⟨ds, by simpa using yieldsD_congr hEE hy, fun t ht j oj hj hlt haj hdj => hd1 t ht ((hz t).2 ⟨j, oj, hj, hlt, haj, hdj⟩), fun d hd => ⟨(hd2 d hd).1, ?_⟩⟩, by simp [hF]⟩
            exact (hz d).1 (hd2 d hd).2
          · have := K.det i oi hi' hoi ha' hs'
            simpa [show i ≠ k by omega, show i + 1 ≠ k by omega] using this
        · rcases key i hi with rfl | hi'
          · rw [ho] at hoi; cases hoi; rw [hal'] at ha'; cases ha'
          · have := K.al i oi d' hi' hoi ha' hd'
            simpa [show i ≠ k by omega, show i + 1 ≠ k by omega] using this
        · rcases key i hi with rfl | hi'
          · rw [ho] at hoi; cases hoi; rw [hst'] at hs'; cases hs'
          · have := K.st i oi d' hi' hoi hs'
            simpa [show i ≠ k by omega, show i + 1 ≠ k by omega] using this
        · rw [hlen]
          simp only [show k + 1 + rest.length ≠ k by omega, if_false]
          exact hQ
end
end Go.Proofs.Ytgeldpfojmkdbaa.Bld
