/- A law of regions that draw their order: operations that yield one value in every world that has grown, beside new blocks that are laid and stored into once each, in whatever order. The conditions: the edges' checks, by computation. -/
import Derived.Test.YtfakejfpicjedaaGrow
import Derived.Below
namespace Go.Proofs.Ytfakejfpicjedaa
set_option linter.unusedVariables false
open Go Go.RowKit
section
variable {P : Program} {ops : Array Oper} {md : Region.Mode}

def isAl (o : Oper) : Bool := match o.op with | .alloc _ => true | _ => false
def stAddr (o : Oper) : Option Tmp := match o.op with | .store _ (.tmp d) _ => some d | _ => none
def waitsOn (md : Region.Mode) (o : Oper) (j : Nat) : Bool := o.after.any fun e => Region.binds md e && e.on == j
/-- what is asked of a region's edges -/
def boxB (md : Region.Mode) (ops : Array Oper) : Bool :=
  Region.noSelect ops && (List.range ops.size).all fun i => match ops[i]? with
    | none => true
    | some oi =>
      oi.after.all (fun e => !Region.binds md e || decide (e.on < i)) && ((!isAl oi && (stAddr oi).isNone) || oi.guard.isNone) && ((stAddr oi).isNone || oi.dst.isNone) &&
      (match stAddr oi with
        | none => true
        | some d => (List.range ops.size).any fun j => match ops[j]? with | none => false | some oj => isAl oj && oj.dst == some d && waitsOn md oi j) &&
      (!isAl oi || (oi.dst.isSome && (List.range ops.size).any fun j => match ops[j]? with | none => false | some oj => stAddr oj == oi.dst)) &&
      (List.range ops.size).all fun j => match ops[j]? with
        | none => true
        | some oj => j == i || ((oi.dst.isNone || oj.dst != oi.dst) && ((stAddr oi).isNone || stAddr oj != stAddr oi) &&
            (match oj.dst with
              | none => true
              | some t => !(oi.looksAt ops).contains t || (decide (j < i) && waitsOn md oi j && (!isAl oj || stAddr oi == some t)) || (decide (i < j) && waitsOn md oj i)))

/-- what the check says -/
structure BoxOk (md : Region.Mode) (ops : Array Oper) : Prop where
  sel : ∀ (j : Nat) (o : Oper) cs b, ops[j]? = some o → o.op ≠ .select cs b
  back : ∀ (i : Nat) (oi : Oper), ops[i]? = some oi → ∀ e ∈ oi.after, Region.binds md e = true → e.on < i
  guardA : ∀ (i : Nat) (oi : Oper), ops[i]? = some oi → isAl oi = true → oi.guard = none
  guardS : ∀ (i : Nat) (oi : Oper) (d : Tmp), ops[i]? = some oi → stAddr oi = some d → oi.guard = none
  dstS : ∀ (i : Nat) (oi : Oper) (d : Tmp), ops[i]? = some oi → stAddr oi = some d → oi.dst = none
  allocOf : ∀ (i : Nat) (oi : Oper) (d : Tmp), ops[i]? = some oi → stAddr oi = some d → ∃ (j : Nat) (oj : Oper), ops[j]? = some oj ∧ isAl oj = true ∧ oj.dst = some d ∧ waitsOn md oi j = true
  dstA : ∀ (i : Nat) (oi : Oper), ops[i]? = some oi → isAl oi = true → ∃ d, oi.dst = some d ∧ ∃ (j : Nat) (oj : Oper), ops[j]? = some oj ∧ stAddr oj = some d
  dd : ∀ (i j : Nat) (oi oj : Oper) (d : Tmp), ops[i]? = some oi → ops[j]? = some oj → oi.dst = some d → oj.dst = some d → i = j
  ss : ∀ (i j : Nat) (oi oj : Oper) (d : Tmp), ops[i]? = some oi → ops[j]? = some oj → stAddr oi = some d → stAddr oj = some d → i = j
  look : ∀ (i j : Nat) (oi oj : Oper) (t : Tmp), ops[i]? = some oi → ops[j]? = some oj → oj.dst = some t → t ∈ oi.looksAt ops → j = i ∨ (j < i ∧ waitsOn md oi j = true ∧ (isAl oj = true → stAddr oi = some t)) ∨ (i < j ∧ waitsOn md oj i = true)
theorem boxB_spec (h : boxB md ops = true) : BoxOk md ops := by
  simp only [boxB, Bool.and_eq_true] at h
  obtain ⟨hs, h⟩ := h
  have H : ∀ (i : Nat) (oi : Oper), ops[i]? = some oi → ((oi.after.all (fun e => !Region.binds md e || decide (e.on < i)) = true ∧ ((!isAl oi && (stAddr oi).isNone) || oi.guard.isNone) = true) ∧ ((stAddr oi).isNone || oi.dst.isNone) = true) ∧
      (match stAddr oi with
        | none => true
        | some d => (List.range ops.size).any fun j => match ops[j]? with | none => false | some oj => isAl oj && oj.dst == some d && waitsOn md oi j) = true ∧
      (!isAl oi || (oi.dst.isSome && (List.range ops.size).any fun j => match ops[j]? with | none => false | some oj => stAddr oj == oi.dst)) = true ∧
      ((List.range ops.size).all fun j => match ops[j]? with
        | none => true
        | some oj => j == i || ((oi.dst.isNone || oj.dst != oi.dst) && ((stAddr oi).isNone || stAddr oj != stAddr oi) &&
            (match oj.dst with
              | none => true
              | some t => !(oi.looksAt ops).contains t || (decide (j < i) && waitsOn md oi j && (!isAl oj || stAddr oi == some t)) || (decide (i < j) && waitsOn md oj i)))) = true := fun i oi hi => by
    have := List.all_eq_true.1 h i (List.mem_range.2 (Array.getElem?_eq_some_iff.1 hi).1)
    simp only [hi, Bool.and_eq_true] at this
    exact ⟨this.1.1.1, this.1.1.2, this.1.2, this.2⟩
  have J : ∀ (i : Nat) (oi : Oper), ops[i]? = some oi → ∀ j oj, ops[j]? = some oj → j ≠ i → ((oi.dst.isNone || oj.dst != oi.dst) && ((stAddr oi).isNone || stAddr oj != stAddr oi) &&
            (match oj.dst with
              | none => true
              | some t => !(oi.looksAt ops).contains t || (decide (j < i) && waitsOn md oi j && (!isAl oj || stAddr oi == some t)) || (decide (i < j) && waitsOn md oj i))) = true := fun i oi hi j oj hj hne => by
    have := List.all_eq_true.1 (H i oi hi).2.2.2 j (List.mem_range.2 (Array.getElem?_eq_some_iff.1 hj).1)
    simp only [hj, Bool.or_eq_true, beq_iff_eq, hne, false_or] at this
    exact this
  refine ⟨fun j o cs b hj => Region.noSelect_spec hs j o cs b hj, fun i oi hi e he hb => ?_, fun i oi hi ha => ?_, fun i oi d hi ha => ?_, fun i oi d hi ha => ?_, fun i oi d hi ha => ?_, fun i oi hi ha => ?_, fun i j oi oj d hi hj h1 h2 => ?_, fun i j oi oj d hi hj h1 h2 => ?_, fun i j oi oj t hi hj h1 h2 => ?_⟩
  · have := Array.all_eq_true_iff_forall_mem.1 (H i oi hi).1.1.1 e he
    simpa [hb] using this
  · have := (H i oi hi).1.1.2
    simpa [ha] using this
  · have := (H i oi hi).1.1.2
    simpa [ha] using this
  · have := (H i oi hi).1.2
    simpa [ha] using this
  · have := (H i oi hi).2.1
    simp only [ha, List.any_eq_true] at this
    obtain ⟨j, _, hj⟩ := this
    cases ho : ops[j]? with
    | none => simp [ho] at hj
    | some oj => simp [ho] at hj; exact ⟨j, oj, ho, hj.1.1, hj.1.2, hj.2⟩
  · have := (H i oi hi).2.2.1
    simp only [ha, Bool.not_true, Bool.false_or, Bool.and_eq_true, List.any_eq_true] at this
    obtain ⟨hd, j, _, hj⟩ := this
    obtain ⟨d, hd⟩ := Option.isSome_iff_exists.1 hd
    refine ⟨d, hd, ?_⟩
    cases ho : ops[j]? with
    | none => simp [ho] at hj
    | some oj => simp [ho, hd] at hj; exact ⟨j, oj, ho, hj⟩
  · refine Classical.byContradiction fun hne => ?_
    have := J i oi hi j oj hj (fun h => hne h.symm)
    simp [h1, h2] at this
  · refine Classical.byContradiction fun hne => ?_
    have := J i oi hi j oj hj (fun h => hne h.symm)
    simp [h1, h2] at this
  · by_cases hji : j = i
    · exact .inl hji
    · have := J i oi hi j oj hj hji
      simp only [h1, Bool.and_eq_true, Bool.or_eq_true] at this
      have h3 := this.2
      rcases h3 with (h3 | ⟨⟨h3, h4⟩, h5⟩) | ⟨h3, h4⟩
      · simp [h2] at h3
      · refine .inr (.inl ⟨by simpa using h3, h4, fun ha => ?_⟩)
        simpa [ha] using h5
      · exact .inr (.inr ⟨by simpa using h3, h4⟩)

/-- a frame: that of the beginning, with the values of the operations of L -/
structure Agr (ops : Array Oper) (L : Nat → Prop) (val : Nat → Value) (a0 a : Act) : Prop where
  defers : a.defers = a0.defers
  size : a.tmps.size = a0.tmps.size
  onn : ∀ (i : Nat) (o : Oper) (d : Tmp), ops[i]? = some o → L i → o.dst = some d → a.tmps[d]? = (a0.tmps[d]?).map (fun _ => val i)
  off : ∀ t : Nat, (∀ (i : Nat) (o : Oper), ops[i]? = some o → L i → o.dst ≠ some t) → a.tmps[t]? = a0.tmps[t]?
theorem Agr.refl (val : Nat → Value) (a0 : Act) : Agr ops (fun _ => False) val a0 a0 := ⟨rfl, rfl, fun _ _ _ _ h => h.elim, fun _ _ => rfl⟩
theorem Agr.congr {L L' : Nat → Prop} {val val' : Nat → Value} {a0 a : Act} (h : Agr ops L val a0 a) (hL : ∀ (i : Nat) (o : Oper) (d : Tmp), ops[i]? = some o → o.dst = some d → (L i ↔ L' i)) (hv : ∀ (i : Nat) (o : Oper) (d : Tmp), ops[i]? = some o → o.dst = some d → L i → val i = val' i) : Agr ops L' val' a0 a :=
  ⟨h.defers, h.size, fun i o d hi hl hd => by have hl' := (hL i o d hi hd).2 hl; rw [← hv i o d hi hd hl']; exact h.onn i o d hi hl' hd,
   fun t ht => h.off t fun i o hi hl hd => ht i o hi ((hL i o t hi hd).1 hl) hd⟩
theorem Agr.put (dd : ∀ (i j : Nat) (oi oj : Oper) (d : Tmp), ops[i]? = some oi → ops[j]? = some oj → oi.dst = some d → oj.dst = some d → i = j) {L : Nat → Prop} {val : Nat → Value} {a0 a : Act} (h : Agr ops L val a0 a)
    {i : Nat} {o : Oper} (hi : ops[i]? = some o) (hni : ¬ L i) (v : Value) : Agr ops (fun j => L j ∨ j = i) (fun j => if j = i then v else val j) a0 (a.put o.dst v) := by
  cases hdst : o.dst with
  | none =>
    refine ⟨h.defers, h.size, fun j oj d hj hl hd => ?_, fun t ht => h.off t fun j oj hj hl hd => ht j oj hj (.inl hl) hd⟩
    by_cases hji : j = i
    · subst hji
      obtain rfl : o = oj := Option.some.inj (hi.symm.trans hj)
      rw [hdst] at hd; cases hd
    · simp only [hji, if_false]
      exact h.onn j oj d hj (hl.resolve_right hji) hd
  | some e =>
    refine ⟨h.defers, by simp [Act.put, h.size], fun j oj d hj hl hd => ?_, fun t ht => ?_⟩
    · by_cases hji : j = i
      · subst hji
        obtain rfl : o = oj := Option.some.inj (hi.symm.trans hj)
        obtain rfl : e = d := Option.some.inj (hdst.symm.trans hd)
        simp only [Act.put, if_true, Array.getElem?_setIfInBounds]
        rw [h.size]
        by_cases hlt : e < a0.tmps.size
        · simp [hlt]
        · simp [hlt]
      · have hne : e ≠ d := fun he => hji (dd j i oj o d hj hi hd (by rw [hdst, he]))
        simp only [Act.put, hji, if_false, Array.getElem?_setIfInBounds_ne hne]
        exact h.onn j oj d hj (hl.resolve_right hji) hd
    · have hne : e ≠ t := fun he => ht i o hi (.inr rfl) (by rw [hdst, he])
      simp only [Act.put, Array.getElem?_setIfInBounds_ne hne]
      exact h.off t fun j oj hj hl hd => ht j oj hj (.inl hl) hd
theorem Agr.same {L L' : Nat → Prop} {val val' : Nat → Value} {a0 a a' : Act} (h : Agr ops L val a0 a) (h' : Agr ops L' val' a0 a') (t : Nat)
    (ht : ∀ i o, ops[i]? = some o → o.dst = some t → (L i ↔ L' i) ∧ (L i → val i = val' i)) : a.tmps[t]? = a'.tmps[t]? := by
  by_cases hex : ∃ (i : Nat) (o : Oper), ops[i]? = some o ∧ L i ∧ o.dst = some t
  · obtain ⟨i, o, hi, hl, hd⟩ := hex
    have := ht i o hi hd
    rw [h.onn i o t hi hl hd, h'.onn i o t hi (this.1.1 hl) hd, this.2 hl]
  · rw [h.off t fun i o hi hl hd => hex ⟨i, o, hi, hl, hd⟩, h'.off t fun i o hi hl hd => hex ⟨i, o, hi, (ht i o hi hd).1.2 hl, hd⟩]
theorem Agr.unique {L L' : Nat → Prop} {val val' : Nat → Value} {a0 a a' : Act} (h : Agr ops L val a0 a) (h' : Agr ops L' val' a0 a')
    (ht : ∀ (i : Nat) (o : Oper) (d : Tmp), ops[i]? = some o → o.dst = some d → (L i ↔ L' i) ∧ (L i → val i = val' i)) : a = a' := by
  obtain ⟨tm, df⟩ := a
  obtain ⟨tm', df'⟩ := a'
  have h1 : df = df' := h.defers.trans h'.defers.symm
  have h2 : tm = tm' := Array.ext_getElem? fun t => h.same h' t fun i o hi hd => ht i o t hi hd
  rw [h1, h2]
theorem exec_same {o : Oper} {a a' : Act} (hs : ∀ cs b, o.op ≠ .select cs b) (h : ∀ t ∈ o.looksAt ops, a.tmps[t]? = a'.tmps[t]?) :
    execOp a.eval o = execOp a'.eval o ∧ Region.wanted o (yielded ops a.tmps) = Region.wanted o (yielded ops a'.tmps) := by
  constructor
  · refine execOp_congr o hs fun x hx => ?_
    cases x with
    | tmp t =>
      have := h t (List.mem_append_left _ (List.mem_filterMap.2 ⟨.tmp t, by simpa using hx, rfl⟩))
      simp only [Act.eval, Array.getD_eq_getD_getElem?, this]
    | _ => rfl
  · unfold Region.wanted
    cases hg : o.guard with
    | none => rfl
    | some gw =>
      obtain ⟨g, want⟩ := gw
      have hy : yielded ops a.tmps g = yielded ops a'.tmps g := by
        unfold yielded
        cases ht : (ops[g]?).bind (·.dst) with
        | none => rfl
        | some t =>
          have := h t (by simp [Oper.looksAt, hg, ht])
          simp [this]
      simp only [hy]
end
end Go.Proofs.Ytfakejfpicjedaa
