/- The law of regions that lay boxes and build rows. The conditions: the edges' checks, by computation. -/
import Derived.Test.YtgeldpfojmkdbaaBldC
namespace Go.Proofs.Ytgeldpfojmkdbaa.Bld
set_option linter.unusedVariables false
open Go Go.RowKit Go.Proofs.Ytgeldpfojmkdbaa
section
variable {P : Program} {ops : Array Oper} {md : Region.Mode} {W0 : World}

def putZ (blk : Tmp → Nat) : List (Tmp × Ent) → Act → Act
  | [], a => a
  | (d, e) :: l, a => putZ blk l (a.put (some d) (mkVal e.2.2 (blk d)))
theorem putZ_putL {E : Tmp → Ent} (blk : Tmp → Nat) : ∀ (l : List (Tmp × Ent)) (a : Act), (∀ p ∈ l, E p.1 = p.2) → putZ blk l a = putL E blk (l.map (·.1)) a
  | [], _, _ => rfl
  | (d, e) :: l, a, h => by
    have := h (d, e) List.mem_cons_self
    simp only at this
    rw [putZ, List.map_cons, putL, this]
    exact putZ_putL blk l _ fun p hp => h p (List.mem_cons_of_mem _ hp)
/-- what is laid and built comes to, in whatever order: other blocks, each new, each with its cells -/
def boxed (W0 : World) (Q : Exit → Act → World → Prop) (zf : List (Tmp × Ent)) (sf : List (Tmp × Array Value)) (a : Act) : Prop :=
  ∀ (blk : Tmp → Nat) (w : World), Below W0.heap.size W0 w → (∀ p ∈ zf, W0.heap.size ≤ blk p.1 ∧ w.heap[blk p.1]? = some (.cells ((sf.lookup p.1).getD p.2.2.1) p.2.1 (0, 0))) →
    (∀ p ∈ zf, ∀ q ∈ zf, p.1 ≠ q.1 → blk p.1 ≠ blk q.1) → Q .normal (putZ blk zf a) w
theorem wp_region_build {id : Nat} {Q : Exit → Act → World → Prop} {a : Act} {w : World} {l : List Oper} (W0 : World) (hm : P.follows .mixedOrders = true) (hB : boxB .any l.toArray = true)
    (h0 : Below W0.heap.size W0 w) (h : textB P l.toArray W0 (boxed W0 Q) l [] [] a) : (Code.region id l.toArray true).wp P Q a w := by
  have ok := boxB_spec hB
  obtain ⟨vals, E, C, F, zf, sf, hF, KF, hE, hC, _, _, n1, n2, g1, g2, hQ⟩ := textB_get (ops := l.toArray) l 0 [] [] a (fun j => by simp) (by simp) (by simp) (fun t => by simp [List.lookup]) (fun d hd => by simp at hd) h
  have K : Known P l.toArray W0 vals E C F := ⟨fun i o hi ha hs => KF.det i o (Nat.zero_le _) hi ha hs, fun i o d hi ha hd => by
    obtain ⟨h1, h2, h3, _⟩ := KF.al i o d (Nat.zero_le _) hi ha hd; exact ⟨h1, h2, h3⟩, fun i o d hi hs => by
    obtain ⟨h1, h2, h3, _⟩ := KF.st i o d (Nat.zero_le _) hi hs; exact ⟨h1, h2, h3⟩⟩
  refine wp_region_any hm ?_
  subst hF
  refine wpAny_of_inv ok K (fun blk listed a' w' inv hall => ?_) l.toArray.size (fun _ => 0) _ _ _ ?_ ⟨by simp, fun j oj _ hl => (by rw [getD_replicate_false] at hl; cases hl), ?_, h0.drew, fun i o d _ _ _ hl => (by rw [getD_replicate_false] at hl; cases hl), fun i o d _ _ _ hl => (by rw [getD_replicate_false] at hl; cases hl), fun i j oi oj d e _ _ _ _ _ _ hl => (by rw [getD_replicate_false] at hl; cases hl)⟩
  · have hn : l.toArray.size = l.length := by simp
    have hA := K.agr ok l.toArray.size (Nat.le_refl _)
    rw [hn] at hA
    have hlst : ∀ (i : Nat) (o : Oper), l.toArray[i]? = some o → listed.getD i false = true := fun i o hi => hall i (Array.getElem?_eq_some_iff.1 hi).1
    have hfin : a' = putZ blk zf (F l.length) := by
      rw [putZ_putL blk zf _ hE]
      have hd1 : a'.defers = (putL E blk (zf.map (·.1)) (F l.length)).defers := by rw [putL_defers, inv.agr.defers, hA.defers]
      have ht1 : a'.tmps = (putL E blk (zf.map (·.1)) (F l.length)).tmps := Array.ext_getElem? fun t => by
        by_cases hex : ∃ (i : Nat) (o : Oper), l.toArray[i]? = some o ∧ isAl o = true ∧ o.dst = some t
        · obtain ⟨i, o, hi, ha, hd⟩ := hex
          have hm := (KF.al i o t (Nat.zero_le _) hi ha hd).2.2.2
          rw [putL_in E blk _ _ (List.mem_map.2 ⟨_, hm, rfl⟩), inv.agr.onn i o t hi (hlst i o hi) hd, valOf_al hi ha hd]
          by_cases hlt : t < (F 0).tmps.size
          · simp [hlt, hA.size]
          · simp [hlt, hA.size]
        · rw [putL_out E blk _ _ (fun hm => by obtain ⟨j, oj, h1, h2, h3⟩ := g1 t hm; exact hex ⟨j, oj, h1, h2, h3⟩)]
          refine inv.agr.same hA t fun i o hi hd => ?_
          have hal : isAl o = false := by
            cases h : isAl o with
            | false => rfl
            | true => exact absurd ⟨i, o, hi, h, hd⟩ hex
          have hst : stAddr o = none := by
            cases h : stAddr o with
            | none => rfl
            | some e => have := ok.dstS i o e hi h; rw [this] at hd; cases hd
          have hlt := (Array.getElem?_eq_some_iff.1 hi).1
          rw [hn] at hlt
          exact ⟨⟨fun _ => ⟨hlt, o, hi, hal, hst⟩, fun _ => hlst i o hi⟩, fun _ => valOf_det hi hal⟩
      obtain ⟨tm, df⟩ := a'
      generalize putL E blk (zf.map (·.1)) (F l.length) = b at *
      obtain ⟨tm', df'⟩ := b
      simp only at hd1 ht1
      rw [hd1, ht1]
    rw [hfin]
    have hal : ∀ p ∈ zf, ∃ (i : Nat) (o : Oper), l.toArray[i]? = some o ∧ isAl o = true ∧ o.dst = some p.1 := fun p hp => by
      obtain ⟨j, oj, h1, h2, h3⟩ := g1 p.1 (List.mem_map.2 ⟨p, hp, rfl⟩)
      exact ⟨j, oj, h1, h2, h3⟩
    refine (show boxed W0 Q zf sf (F l.length) by simpa using hQ) blk w' inv.bel (fun p hp => ?_) (fun p hp q hq hne => ?_)
    · obtain ⟨i, o, hi, ha, hd⟩ := hal p hp
      obtain ⟨cs, h1, h2, h3⟩ := inv.box i o p.1 hi ha hd (hlst i o hi)
      refine ⟨inv.low i o p.1 hi ha hd (hlst i o hi), ?_⟩
      rw [h1, hE p hp]
      cases hs : sf.lookup p.1 with
      | some c =>
        have hm := lookup_mem hs
        obtain ⟨j, oj, e1, e2⟩ := g2 p.1 (List.mem_map.2 ⟨_, hm, rfl⟩)
        rw [h2 ⟨j, oj, e1, e2, hlst j oj e1⟩, hC _ hm]
        rfl
      | none =>
        have hns : ¬ Stored l.toArray listed p.1 := fun ⟨s, os, e1, e2, _⟩ => by
          have hm := (KF.st s os p.1 (Nat.zero_le _) e1 e2).2.2.2
          exact lookup_none hs (List.mem_map.2 ⟨_, hm, rfl⟩)
        rw [h3 hns, hE p hp]
        rfl
    · obtain ⟨i, o, hi, ha, hd⟩ := hal p hp
      obtain ⟨j, o', hj, ha', hd'⟩ := hal q hq
      exact inv.dist i j o o' p.1 q.1 hi hj ha ha' hd hd' (hlst i o hi) (hlst j o' hj) hne
  · unfold leftN
    have := List.countP_le_length (p := fun i => !(Array.replicate l.toArray.size false).getD i true) (l := List.range l.toArray.size)
    simpa using this
  · exact (Agr.refl (valOf l.toArray vals E fun _ => 0) _).congr (fun i o d _ _ => ⟨fun h => h.elim, fun h => by rw [getD_replicate_false] at h; cases h⟩) (fun _ _ _ _ _ h => h.elim)

section
variable {Q : List (Tmp × Ent) → List (Tmp × Array Value) → Act → Prop} {o : Oper} {rest : List Oper} {zs : List (Tmp × Ent)} {st : List (Tmp × Array Value)} {a : Act}
/-- of what an operation looks at, just these were laid -/
def dsOk (ops : Array Oper) (o : Oper) (zs : List (Tmp × Ent)) (ds : List Tmp) : Bool :=
  (o.looksAt ops).all (fun t => (zs.lookup t).isNone || ds.contains t) && ds.all fun d => (o.looksAt ops).contains d && (zs.lookup d).isSome
theorem dsOk_spec {ds : List Tmp} (h : dsOk ops o zs ds = true) : (∀ t ∈ o.looksAt ops, zs.lookup t ≠ none → t ∈ ds) ∧ (∀ d ∈ ds, d ∈ o.looksAt ops ∧ zs.lookup d ≠ none) := by
  simp only [dsOk, Bool.and_eq_true, List.all_eq_true] at h
  refine ⟨fun t ht hz => ?_, fun d hd => ?_⟩
  · have := h.1 t ht
    rw [Bool.or_eq_true] at this
    rcases this with h1 | h1
    · rw [Option.isNone_iff_eq_none] at h1; exact absurd h1 hz
    · simpa using h1
  · have := h.2 d hd
    refine ⟨by simpa using this.1, fun h0 => ?_⟩
    rw [h0] at this
    simp at this
theorem textB_det (v : Value) (h1 : isAl o = false) (h2 : stAddr o = none) (hd : dsOk ops o zs [] = true) (hw : Region.wanted o (yielded ops a.tmps) = true)
    (hy : ∀ w, Below W0.heap.size W0 w → comesTo P (fun w' => Below w.heap.size w w') v ((execOp a.eval o).run P w)) (h : textB P ops W0 Q rest zs st (a.put o.dst v)) : textB P ops W0 Q (o :: rest) zs st a := by
  simp only [textB, h1, h2, Bool.false_eq_true, if_false]
  exact ⟨v, [], (dsOk_spec hd).1, (dsOk_spec hd).2, fun blk => .inl ⟨hw, fun w hb _ => hy w hb⟩, h⟩
theorem textB_skip (h1 : isAl o = false) (h2 : stAddr o = none) (hd : dsOk ops o zs [] = true) (hw : Region.wanted o (yielded ops a.tmps) = false)
    (h : textB P ops W0 Q rest zs st (a.put o.dst undef)) : textB P ops W0 Q (o :: rest) zs st a := by
  simp only [textB, h1, h2, Bool.false_eq_true, if_false]
  exact ⟨undef, [], (dsOk_spec hd).1, (dsOk_spec hd).2, fun blk => .inr ⟨hw, rfl⟩, h⟩
/-- an operation that reads one slot that was laid -/
theorem textB_use (v : Value) (d : Tmp) (e : Ent) (h1 : isAl o = false) (h2 : stAddr o = none) (hd : dsOk ops o zs [d] = true) (he : zs.lookup d = some e) (hw : ∀ b, Region.wanted o (yielded ops (a.put (some d) (mkVal e.2.2 b)).tmps) = true)
    (hy : ∀ b w, Below W0.heap.size W0 w → W0.heap.size ≤ b → w.heap[b]? = some (.cells e.2.1 e.1 (0, 0)) → comesTo P (fun w' => Below w.heap.size w w') v ((execOp (a.put (some d) (mkVal e.2.2 b)).eval o).run P w))
    (h : textB P ops W0 Q rest zs st (a.put o.dst v)) : textB P ops W0 Q (o :: rest) zs st a := by
  simp only [textB, h1, h2, Bool.false_eq_true, if_false]
  have hE : entOf zs d = e := by unfold entOf; rw [he]; rfl
  refine ⟨v, [d], (dsOk_spec hd).1, (dsOk_spec hd).2, fun blk => .inl ?_, h⟩
  simp only [putL, hE]
  exact ⟨hw _, fun w hb hx => hy _ w hb (hx d List.mem_cons_self).1 (by have := (hx d List.mem_cons_self).2; rwa [hE] at this)⟩
theorem textB_alg (d : Tmp) (e : Ent) (h1 : isAl o = true) (hd : o.dst = some d) (hz : zs.lookup d = none) (hl : dsOk ops o zs [] = true) (hw : Region.wanted o (yielded ops a.tmps) = true) (ha : ∀ w, (execOp a.eval o).run P w = .ok (.value (mkVal e.2.2 w.heap.size)) (w.alloc (.cells e.2.1 e.1))) (h : textB P ops W0 Q rest ((d, e) :: zs) st a) : textB P ops W0 Q (o :: rest) zs st a := by
  simp only [textB, h1, if_true]
  refine ⟨d, e, hd, hz, fun t ht => Classical.byContradiction fun hn => ?_, ⟨hw, ha⟩, h⟩
  cases (dsOk_spec hl).1 t ht hn
theorem textB_al (d : Tmp) (e : Ent) (h1 : isAl o = true) (hd : o.dst = some d) (hz : zs.lookup d = none) (hl : dsOk ops o zs [] = true) (ha : ∀ w, (execOp a.eval o).run P w = .ok (.value (mkVal e.2.2 w.heap.size)) (w.alloc (.cells e.2.1 e.1))) (h : textB P ops W0 Q rest ((d, e) :: zs) st a) (hg : o.guard = none := by rfl) : textB P ops W0 Q (o :: rest) zs st a :=
  textB_alg d e h1 hd hz hl (wanted_none _ hg) ha h
theorem textB_st (d : Tmp) (e : Ent) (c : Array Value) (h1 : isAl o = false) (h2 : stAddr o = some d) (hz : zs.lookup d = some e) (hb : st.lookup d = none) (hl : dsOk ops o zs [d] = true) (hs : stores P o e d c a) (h : textB P ops W0 Q rest zs ((d, c) :: st) a) : textB P ops W0 Q (o :: rest) zs st a := by
  simp only [textB, h1, h2, Bool.false_eq_true, if_false]
  refine ⟨e, c, hz, hb, fun t ht htd => Classical.byContradiction fun hn => ?_, hs, h⟩
  have := (dsOk_spec hl).1 t ht hn
  simp at this
  exact htd this
end
end
end Go.Proofs.Ytgeldpfojmkdbaa.Bld
