/- The law of regions that lay boxes, for rows that are built and read too: the steps, the walk of the text, the law. The conditions: the edges' checks, by computation. -/
import Derived.Test.YtgeldpfojmkdbaaBld
namespace Go.Proofs.Ytgeldpfojmkdbaa.Bld
set_option linter.unusedVariables false
open Go Go.RowKit Go.Proofs.Ytgeldpfojmkdbaa
section
variable {P : Program} {ops : Array Oper} {md : Region.Mode} {W0 : World}

/-- a step keeps the invariant -/
theorem BoxInv.step {vals : Nat → Value} {E : Tmp → Ent} {C : Tmp → Array Value} {F : Nat → Act} {blk : Tmp → Nat} {listed : Array Bool} {a : Act} {w : World} {Q : Exit → Act → World → Prop} (ok : BoxOk md ops) (K : Known P ops W0 vals E C F)
    (inv : BoxInv md ops W0 vals E C (F 0) blk listed a w) {i : Nat} (hr : i ∈ Region.ready md ops listed) :
    wpOp P ops Q i (fun a' w' => ∃ blk', BoxInv md ops W0 vals E C (F 0) blk' (listed.setIfInBounds i true) a' w') a w := by
  obtain ⟨hun, o, hi, hall⟩ := mem_ready.1 hr
  have hin : i < ops.size := (Array.getElem?_eq_some_iff.1 hi).1
  have hni := not_listed hun
  have hil : i < listed.size := by rw [inv.size]; exact hin
  have hsize : (listed.setIfInBounds i true).size = ops.size := by simp [inv.size]
  have hclosed : ∀ (j : Nat) (oj : Oper), ops[j]? = some oj → (listed.setIfInBounds i true).getD j false = true → ∀ e ∈ oj.after, Region.binds md e = true → (listed.setIfInBounds i true).getD e.on false = true := fun j oj hj hl e he hb => by
    rcases set_back hl with h | rfl
    · exact getD_set_true (inv.closed j oj hj h e he hb)
    · obtain rfl : o = oj := Option.some.inj (hi.symm.trans hj)
      exact getD_set_true (hall e he hb)
  have hback : ∀ j, j ≠ i → (listed.setIfInBounds i true).getD j false = true → listed.getD j false = true := fun j hne h => (set_back h).resolve_right hne
  cases hal : isAl o with
  | true =>
    obtain ⟨d, hd⟩ := ok.dstA i o hi hal
    obtain ⟨hK, hKl, _⟩ := K.al i o d hi hal hd
    have hsame := exec_same (ops := ops) (o := o) (a := a) (a' := F i) (fun cs b => ok.sel i o cs b hi) (fun t ht => inv.looks ok K hi hr t ht (hKl t ht))
    unfold wpOp
    have hwd : Region.wanted o (yielded ops a.tmps) = true := by rw [hsame.2]; exact hK.1
    simp only [hi, hwd, if_true]
    refine .inl ?_
    unfold Oper.wp
    rw [hsame.1, hK.2 w, Oper.upon_value]
    have hne : ∀ j oj e, ops[j]? = some oj → isAl oj = true → oj.dst = some e → listed.getD j false = true → e ≠ d := fun j oj e hj _ he hl heq => by
      subst heq
      have := ok.dd j i oj o e hj hi he hd
      subst this
      exact hni hl
    refine ⟨fun e => if e = d then w.heap.size else blk e, hsize, hclosed, ?_, inv.bel.alloc inv.bel.size _, fun j oj e hj ha he hl => ?_, fun j oj e hj ha he hl => ?_, fun j k oj ok' e e' hj hk haj hak he he' hl hl' hee => ?_⟩
    · refine (inv.agr.put ok.dd hi hni _).congr (fun j oj e hj he => ⟨fun h => ?_, fun h => ?_⟩) (fun j oj e hj he hl => ?_)
      · rcases h with h | rfl
        · exact getD_set_true h
        · exact set_self hil
      · exact set_back h
      · by_cases hji : j = i
        · subst hji
          obtain rfl : o = oj := Option.some.inj (hi.symm.trans hj)
          simp [valOf, hi, hal, hd]
        · simp only [hji, if_false]
          cases haj : isAl oj with
          | false => rw [valOf_det hj haj, valOf_det hj haj]
          | true =>
            have := hne j oj e hj haj he (hl.resolve_right hji)
            rw [valOf_al hj haj he, valOf_al hj haj he]
            simp [this]
    · rcases set_back hl with h | rfl
      · have := hne j oj e hj ha he h
        simp only [this, if_false]
        exact inv.low j oj e hj ha he h
      · obtain rfl : o = oj := Option.some.inj (hi.symm.trans hj)
        obtain rfl : d = e := Option.some.inj (hd.symm.trans he)
        simp only [if_true]
        exact inv.bel.size
    · have hst : ∀ e, Stored ops (listed.setIfInBounds i true) e ↔ Stored ops listed e := fun e => by
        constructor
        · rintro ⟨s, os, h1, h2, h3⟩
          refine ⟨s, os, h1, h2, hback s (fun h => ?_) h3⟩
          subst h
          obtain rfl : o = os := Option.some.inj (hi.symm.trans h1)
          rw [isAl_stAddr hal] at h2; cases h2
        · rintro ⟨s, os, h1, h2, h3⟩
          exact ⟨s, os, h1, h2, getD_set_true h3⟩
      rcases set_back hl with h | rfl
      · have hed := hne j oj e hj ha he h
        obtain ⟨cs, h1, h2, h3⟩ := inv.box j oj e hj ha he h
        refine ⟨cs, ?_, fun hs => h2 ((hst e).1 hs), fun hs => h3 (fun hs' => hs ((hst e).2 hs'))⟩
        simp only [hed, if_false]
        rw [Below.heap_alloc _ _ _ (blk_lt h1)]
        exact h1
      · obtain rfl : o = oj := Option.some.inj (hi.symm.trans hj)
        obtain rfl : d = e := Option.some.inj (hd.symm.trans he)
        refine ⟨(E d).2.1, by simp only [if_true]; show (w.heap.push _)[w.heap.size]? = _; simp, fun hs' => ?_, fun _ => rfl⟩
        obtain ⟨s', os', h1, h2, h3⟩ := (hst d).1 hs'
        obtain ⟨j', oj', hj', haj', hdj', hw'⟩ := ok.allocOf s' os' d h1 h2
        have : j' = j := ok.dd j' j oj' o d hj' hi hdj' hd
        subst this
        obtain ⟨e, he', hb, hon⟩ := waitsOn_spec hw'
        have := inv.closed s' os' h1 h3 e he' hb
        rw [hon] at this
        exact absurd this hni
    · have key : ∀ j oj e, ops[j]? = some oj → isAl oj = true → oj.dst = some e → listed.getD j false = true → blk e < w.heap.size := fun j oj e hj ha he hl => by
        obtain ⟨cs, h1, _⟩ := inv.box j oj e hj ha he hl
        exact blk_lt h1
      rcases set_back hl with h | rfl
      · have h1 := hne j oj e hj haj he h
        have b1 := key j oj e hj haj he h
        rcases set_back hl' with h' | rfl
        · have h2 := hne k ok' e' hk hak he' h'
          simp only [h1, h2, if_false]
          exact inv.dist j k oj ok' e e' hj hk haj hak he he' h h' hee
        · obtain rfl : o = ok' := Option.some.inj (hi.symm.trans hk)
          obtain rfl : d = e' := Option.some.inj (hd.symm.trans he')
          simp only [h1, if_false, if_true]
          omega
      · obtain rfl : o = oj := Option.some.inj (hi.symm.trans hj)
        obtain rfl : d = e := Option.some.inj (hd.symm.trans he)
        rcases set_back hl' with h' | rfl
        · have h2 := hne k ok' e' hk hak he' h'
          have b1 := key k ok' e' hk hak he' h'
          simp only [h2, if_false, if_true]
          omega
        · obtain rfl : o = ok' := Option.some.inj (hi.symm.trans hk)
          exact absurd (Option.some.inj (hd.symm.trans he')) hee
  | false =>
    have hagr : ∀ v, (∀ d, o.dst = some d → v = vals i) → Agr ops (fun j => (listed.setIfInBounds i true).getD j false = true) (valOf ops vals E blk) (F 0) (a.put o.dst v) := fun v hv => by
      refine (inv.agr.put ok.dd hi hni _).congr (fun j oj e hj he => ⟨fun h => ?_, fun h => ?_⟩) (fun j oj e hj he hl => ?_)
      · rcases h with h | rfl
        · exact getD_set_true h
        · exact set_self hil
      · exact set_back h
      · by_cases hji : j = i
        · subst hji
          obtain rfl : o = oj := Option.some.inj (hi.symm.trans hj)
          simp only [if_true]
          rw [valOf_det hi hal, hv e he]
        · simp only [hji, if_false]
    have halj : ∀ j oj, ops[j]? = some oj → isAl oj = true → j ≠ i := fun j oj hj ha h => by
      subst h
      obtain rfl : o = oj := Option.some.inj (hi.symm.trans hj)
      rw [hal] at ha; cases ha
    cases hst : stAddr o with
    | none =>
      obtain ⟨⟨ds, hy0, hds1, hds2⟩, hF⟩ := K.det i o hi hal hst
      have hy := hy0 blk
      have hmem : ∀ d ∈ ds, ∃ (j : Nat) (oj : Oper), ops[j]? = some oj ∧ isAl oj = true ∧ oj.dst = some d ∧ listed.getD j false = true ∧ ∀ (s : Nat) (os : Oper), ops[s]? = some os → stAddr os ≠ some d := fun d hd => by
        obtain ⟨hl, j, oj, hj, hlt, ha, hdj⟩ := hds2 d hd
        refine ⟨j, oj, hj, ha, hdj, ?_⟩
        rcases ok.look i j o oj d hi hj hdj hl with h | ⟨_, hw, hsp⟩ | ⟨h, _⟩
        · omega
        · obtain ⟨e, he, hb, hon⟩ := waitsOn_spec hw
          refine ⟨by rw [← hon]; exact hall e he hb, ?_⟩
          rcases hsp ha with h | h
          · rw [hst] at h; cases h
          · exact h
        · omega
      have hbox : ∀ d ∈ ds, W0.heap.size ≤ blk d ∧ w.heap[blk d]? = some (.cells (E d).2.1 (E d).1 (0, 0)) := fun d hd => by
        obtain ⟨j, oj, hj, ha, hdj, hlj, hns⟩ := hmem d hd
        obtain ⟨cs, h1, _, h3⟩ := inv.box j oj d hj ha hdj hlj
        refine ⟨inv.low j oj d hj ha hdj hlj, ?_⟩
        rw [h1, h3 fun ⟨s, os, e1, e2, _⟩ => hns s os e1 e2]
      have hFs := (K.agr ok i (by omega)).size
      have hsame := exec_same (ops := ops) (o := o) (a := a) (a' := putL E blk ds (F i)) (fun cs b => ok.sel i o cs b hi) (fun t ht => by
        by_cases htd : t ∈ ds
        · obtain ⟨j, oj, hj, ha, hdj, hlj, _⟩ := hmem t htd
          rw [inv.agr.onn j oj t hj hlj hdj, valOf_al hj ha hdj, putL_in E blk ds _ htd]
          by_cases hlt : t < (F 0).tmps.size
          · simp [hlt, hFs]
          · simp [hlt, hFs]
        · rw [putL_out E blk ds _ htd]
          exact inv.looks ok K hi hr t ht fun j oj hj hlt ha hd => htd (hds1 t ht j oj hj hlt ha hd))
      have hstd : ∀ e, Stored ops (listed.setIfInBounds i true) e ↔ Stored ops listed e := fun e => by
        constructor
        · rintro ⟨s, os, h1, h2, h3⟩
          refine ⟨s, os, h1, h2, hback s (fun h => ?_) h3⟩
          subst h
          obtain rfl : o = os := Option.some.inj (hi.symm.trans h1)
          rw [hst] at h2; cases h2
        · rintro ⟨s, os, h1, h2, h3⟩
          exact ⟨s, os, h1, h2, getD_set_true h3⟩
      have done : ∀ w', Below w.heap.size w w' → ∃ blk', BoxInv md ops W0 vals E C (F 0) blk' (listed.setIfInBounds i true) (a.put o.dst (vals i)) w' := fun w' hb => by
        refine ⟨blk, hsize, hclosed, hagr _ fun _ _ => rfl, inv.bel.trans (hb.mono inv.bel.size), fun j oj e hj ha he hl => inv.low j oj e hj ha he (hback j (halj j oj hj ha) hl), fun j oj e hj ha he hl => ?_,
          fun j k oj ok' e e' hj hk haj hak he he' hl hl' hee => inv.dist j k oj ok' e e' hj hk haj hak he he' (hback j (halj j oj hj haj) hl) (hback k (halj k ok' hk hak) hl') hee⟩
        obtain ⟨cs, h1, h2, h3⟩ := inv.box j oj e hj ha he (hback j (halj j oj hj ha) hl)
        exact ⟨cs, (hb.block _ (blk_lt h1)).trans h1, fun hs => h2 ((hstd e).1 hs), fun hs => h3 (fun hs' => hs ((hstd e).2 hs'))⟩
      unfold wpOp
      simp only [hi]
      rcases hy with ⟨hw, hy⟩ | ⟨hw, hv⟩
      · rw [← hsame.2] at hw
        simp only [hw, if_true]
        refine .inl ?_
        have h1 := hy w inv.bel hbox
        unfold Oper.wp
        rw [hsame.1]
        generalize (execOp (putL E blk ds (F i)).eval o).run P w = r at *
        cases r with
        | ok n w' =>
          cases n <;> simp only [comesTo] at h1 <;> simp only [Oper.upon]
          case value u => obtain ⟨rfl, h2⟩ := h1; exact done _ h2
          case skip => obtain ⟨h0, h2⟩ := h1; rw [← h0]; exact done _ h2
          case enter f args => exact h1.mono fun e w'' ⟨he, h2⟩ => by subst he; exact done _ h2
        | halt x w' => simp only [comesTo] at h1
      · rw [← hsame.2] at hw
        simp only [hw, Bool.false_eq_true, if_false]
        rw [← hv]
        exact done w (Below.refl _ _)
    | some d =>
      obtain ⟨hy, hyl, hF⟩ := K.st i o d hi hst
      have hdst := ok.dstS i o d hi hst
      obtain ⟨j, oj, hj, haj, hdj, hw⟩ := ok.allocOf i o d hi hst
      obtain ⟨e, he, hb, hon⟩ := waitsOn_spec hw
      have hlj : listed.getD j false = true := by rw [← hon]; exact hall e he hb
      obtain ⟨cs, hc, _, hz⟩ := inv.box j oj d hj haj hdj hlj
      have hns : ¬ Stored ops listed d := fun ⟨s, os, h1, h2, h3⟩ => by
        have := ok.ss s i os o d h1 hi h2 hst
        subst this
        exact hni h3
      obtain rfl := hz hns
      obtain ⟨w', hrun, hwr⟩ := hy (blk d) w hc
      have hFs := (K.agr ok i (by omega)).size
      have hsame := exec_same (ops := ops) (o := o) (a := a) (a' := (F i).put (some d) (mkVal (E d).2.2 (blk d))) (fun cs b => ok.sel i o cs b hi) (fun t ht => by
        by_cases htd : t = d
        · subst htd
          rw [inv.agr.onn j oj t hj hlj hdj, valOf_al hj haj hdj]
          simp only [Act.put, Array.getElem?_setIfInBounds, if_true, hFs]
          by_cases hlt : t < (F 0).tmps.size
          · simp [hlt]
          · simp [hlt]
        · rw [inv.looks ok K hi hr t ht (hyl t ht htd)]
          simp only [Act.put, Array.getElem?_setIfInBounds_ne (Ne.symm htd)])
      unfold wpOp
      simp only [hi, wanted_none _ (ok.guardS i o d hi hst), if_true]
      refine .inl ?_
      unfold Oper.wp
      rw [hsame.1, hrun, Oper.upon_skip]
      have hbl : W0.heap.size ≤ blk d := inv.low j oj d hj haj hdj hlj
      have hbel : Below W0.heap.size W0 w' := inv.bel.trans ⟨hwr.os, hwr.tape, hwr.output, by rw [hwr.size]; exact Nat.le_refl _, fun k hk => hwr.rest k (by omega)⟩
      refine ⟨blk, hsize, hclosed, hagr _ (fun d h => by rw [hdst] at h; cases h), hbel, fun k ok' e' hk ha he' hl => inv.low k ok' e' hk ha he' (hback k (halj k ok' hk ha) hl), fun k ok' e' hk ha he' hl => ?_,
        fun j k oj ok' e e' hj hk haj hak he he' hl hl' hee => inv.dist j k oj ok' e e' hj hk haj hak he he' (hback j (halj j oj hj haj) hl) (hback k (halj k ok' hk hak) hl') hee⟩
      have hlk := hback k (halj k ok' hk ha) hl
      by_cases hed : e' = d
      · subst hed
        exact ⟨C e', hwr.there, fun _ => rfl, fun hn => absurd ⟨i, o, hi, hst, set_self hil⟩ hn⟩
      · obtain ⟨cs', h1, h2, h3⟩ := inv.box k ok' e' hk ha he' hlk
        have hbb := inv.dist k j ok' oj e' d hk hj ha haj he' hdj hlk hlj hed
        have hstd : Stored ops (listed.setIfInBounds i true) e' ↔ Stored ops listed e' := by
          constructor
          · rintro ⟨s, os, h1, h2, h3⟩
            refine ⟨s, os, h1, h2, hback s (fun h => ?_) h3⟩
            subst h
            obtain rfl : o = os := Option.some.inj (hi.symm.trans h1)
            rw [hst] at h2
            exact hed (Option.some.inj h2).symm
          · rintro ⟨s, os, h1, h2, h3⟩
            exact ⟨s, os, h1, h2, getD_set_true h3⟩
        exact ⟨cs', (hwr.rest _ hbb).trans h1, fun hs => h2 (hstd.1 hs), fun hs => h3 (fun hs' => hs (hstd.2 hs'))⟩

/-- where nothing may come up, all has -/
theorem all_listed {listed : Array Bool} (ok : BoxOk md ops) (hs : listed.size = ops.size) (h : Region.ready md ops listed = []) : ∀ i, i < ops.size → listed.getD i false = true := by
  intro i
  induction i using Nat.strongRecOn with
  | _ i ih =>
    intro hi
    refine Classical.byContradiction fun hn => ?_
    have hf : listed.getD i false = false := by simpa using hn
    have hu : listed.getD i true = false := getD_in (by omega) hf
    have ho : ops[i]? = some ops[i] := Array.getElem?_eq_getElem hi
    have : i ∈ Region.ready md ops listed := mem_ready.2 ⟨hu, _, ho, fun e he hb => by
      have hlt := ok.back i _ ho e he hb
      exact ih e.on hlt (by omega)⟩
    rw [h] at this; cases this

theorem wpAny_of_inv {vals : Nat → Value} {E : Tmp → Ent} {C : Tmp → Array Value} {F : Nat → Act} {Q : Exit → Act → World → Prop} (ok : BoxOk md ops) (K : Known P ops W0 vals E C F)
    (hend : ∀ blk listed a w, BoxInv md ops W0 vals E C (F 0) blk listed a w → (∀ i, i < ops.size → listed.getD i false = true) → Q .normal a w) :
    ∀ (fuel : Nat) (blk : Tmp → Nat) (listed : Array Bool) (a : Act) (w : World), leftN ops listed ≤ fuel → BoxInv md ops W0 vals E C (F 0) blk listed a w → wpAny P md ops Q fuel listed a w
  | 0, blk, listed, a, w, hf, inv => by
    have hr : Region.ready md ops listed = [] := by
      cases hr : Region.ready md ops listed with
      | nil => rfl
      | cons i l =>
        have := leftN_set (ops := ops) (i := i) (md := md) (by rw [hr]; exact List.mem_cons_self) inv.size
        omega
    exact ⟨hr, hend blk listed a w inv (all_listed ok inv.size hr)⟩
  | fuel + 1, blk, listed, a, w, hf, inv => by
    refine ⟨fun hr => hend blk listed a w inv (all_listed ok inv.size hr), fun i hi => ?_⟩
    have hless := leftN_set hi inv.size
    refine wpOp_mono (fun a' w' ⟨blk', inv'⟩ => ?_) (inv.step ok K hi)
    exact wpAny_of_inv ok K hend fuel blk' _ a' w' (by omega) inv'
end
end Go.Proofs.Ytgeldpfojmkdbaa.Bld
