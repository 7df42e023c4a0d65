/- The law of regions that lay boxes, for rows that are built and read too (the slice of a variadic call): the invariant of every order. The conditions: the edges' checks, by computation. -/
import Derived.Test.YtgeldpfojmkdbaaBoxC
namespace Go.Proofs.Ytgeldpfojmkdbaa.Bld
set_option linter.unusedVariables false
open Go Go.RowKit Go.Proofs.Ytgeldpfojmkdbaa
section
variable {P : Program} {ops : Array Oper} {md : Region.Mode} {W0 : World}

def isAl (o : Oper) : Bool := match o.op with | .alloc _ => true | .buildSlice _ _ _ => true | _ => false
/-- a block's type, its cells, and how it is handed on: by its address, or as a slice -/
abbrev Ent := TypeId × Array Value × Option Nat
def mkVal (k : Option Nat) (b : Nat) : Value := match k with | none => .pointer (some ⟨b, 0, none⟩) | some n => .slice (some ⟨b, 0, none⟩) n n
def noSt (ops : Array Oper) (t : Tmp) : Bool := ops.all fun o => stAddr o != some t
def boxB (md : Region.Mode) (ops : Array Oper) : Bool :=
  Region.noSelect ops && (List.range ops.size).all fun i => match ops[i]? with
    | none => true
    | some oi =>
      oi.after.all (fun e => !Region.binds md e || decide (e.on < i)) && ((stAddr oi).isNone || oi.guard.isNone) && ((stAddr oi).isNone || oi.dst.isNone) &&
      (match stAddr oi with
        | none => true
        | some d => (List.range ops.size).any fun j => match ops[j]? with | none => false | some oj => isAl oj && oj.dst == some d && waitsOn md oi j) &&
      (!isAl oi || oi.dst.isSome) &&
      (List.range ops.size).all fun j => match ops[j]? with
        | none => true
        | some oj => j == i || ((oi.dst.isNone || oj.dst != oi.dst) && ((stAddr oi).isNone || stAddr oj != stAddr oi) &&
            (match oj.dst with
              | none => true
              | some t => !(oi.looksAt ops).contains t || (decide (j < i) && waitsOn md oi j && (!isAl oj || stAddr oi == some t || noSt ops t)) || (decide (i < j) && waitsOn md oj i)))
structure BoxOk (md : Region.Mode) (ops : Array Oper) : Prop where
  sel : ∀ (j : Nat) (o : Oper) cs b, ops[j]? = some o → o.op ≠ .select cs b
  back : ∀ (i : Nat) (oi : Oper), ops[i]? = some oi → ∀ e ∈ oi.after, Region.binds md e = true → e.on < i
  guardS : ∀ (i : Nat) (oi : Oper) (d : Tmp), ops[i]? = some oi → stAddr oi = some d → oi.guard = none
  dstS : ∀ (i : Nat) (oi : Oper) (d : Tmp), ops[i]? = some oi → stAddr oi = some d → oi.dst = none
  allocOf : ∀ (i : Nat) (oi : Oper) (d : Tmp), ops[i]? = some oi → stAddr oi = some d → ∃ (j : Nat) (oj : Oper), ops[j]? = some oj ∧ isAl oj = true ∧ oj.dst = some d ∧ waitsOn md oi j = true
  dstA : ∀ (i : Nat) (oi : Oper), ops[i]? = some oi → isAl oi = true → ∃ d, oi.dst = some d
  dd : ∀ (i j : Nat) (oi oj : Oper) (d : Tmp), ops[i]? = some oi → ops[j]? = some oj → oi.dst = some d → oj.dst = some d → i = j
  ss : ∀ (i j : Nat) (oi oj : Oper) (d : Tmp), ops[i]? = some oi → ops[j]? = some oj → stAddr oi = some d → stAddr oj = some d → i = j
  look : ∀ (i j : Nat) (oi oj : Oper) (t : Tmp), ops[i]? = some oi → ops[j]? = some oj → oj.dst = some t → t ∈ oi.looksAt ops →
    j = i ∨ (j < i ∧ waitsOn md oi j = true ∧ (isAl oj = true → stAddr oi = some t ∨ ∀ (s : Nat) (os : Oper), ops[s]? = some os → stAddr os ≠ some t)) ∨ (i < j ∧ waitsOn md oj i = true)
theorem boxB_spec (h : boxB md ops = true) : BoxOk md ops := by
  simp only [boxB, Bool.and_eq_true] at h
  obtain ⟨hs, h⟩ := h
  have H : ∀ (i : Nat) (oi : Oper), ops[i]? = some oi → ((oi.after.all (fun e => !Region.binds md e || decide (e.on < i)) = true ∧ ((stAddr oi).isNone || oi.guard.isNone) = true) ∧ ((stAddr oi).isNone || oi.dst.isNone) = true) ∧
      (match stAddr oi with
        | none => true
        | some d => (List.range ops.size).any fun j => match ops[j]? with | none => false | some oj => isAl oj && oj.dst == some d && waitsOn md oi j) = true ∧
      (!isAl oi || oi.dst.isSome) = true ∧
      ((List.range ops.size).all fun j => match ops[j]? with
        | none => true
        | some oj => j == i || ((oi.dst.isNone || oj.dst != oi.dst) && ((stAddr oi).isNone || stAddr oj != stAddr oi) &&
            (match oj.dst with
              | none => true
              | some t => !(oi.looksAt ops).contains t || (decide (j < i) && waitsOn md oi j && (!isAl oj || stAddr oi == some t || noSt ops t)) || (decide (i < j) && waitsOn md oj i)))) = true := fun i oi hi => by
    have := List.all_eq_true.1 h i (List.mem_range.2 (Array.getElem?_eq_some_iff.1 hi).1)
    simp only [hi, Bool.and_eq_true] at this
    exact ⟨this.1.1.1, this.1.1.2, this.1.2, this.2⟩
  have J : ∀ (i : Nat) (oi : Oper), ops[i]? = some oi → ∀ (j : Nat) (oj : Oper), ops[j]? = some oj → j ≠ i → ((oi.dst.isNone || oj.dst != oi.dst) && ((stAddr oi).isNone || stAddr oj != stAddr oi) &&
            (match oj.dst with
              | none => true
              | some t => !(oi.looksAt ops).contains t || (decide (j < i) && waitsOn md oi j && (!isAl oj || stAddr oi == some t || noSt ops t)) || (decide (i < j) && waitsOn md oj i))) = true := fun i oi hi j oj hj hne => by
    have := List.all_eq_true.1 (H i oi hi).2.2.2 j (List.mem_range.2 (Array.getElem?_eq_some_iff.1 hj).1)
    simp only [hj, Bool.or_eq_true, beq_iff_eq, hne, false_or] at this
    exact this
  refine ⟨fun j o cs b hj => Region.noSelect_spec hs j o cs b hj, fun i oi hi e he hb => ?_, fun i oi d hi ha => ?_, fun i oi d hi ha => ?_, fun i oi d hi ha => ?_, fun i oi hi ha => ?_, fun i j oi oj d hi hj h1 h2 => ?_, fun i j oi oj d hi hj h1 h2 => ?_, fun i j oi oj t hi hj h1 h2 => ?_⟩
  · have := Array.all_eq_true_iff_forall_mem.1 (H i oi hi).1.1.1 e he
    simpa [hb] using this
  · have := (H i oi hi).1.1.2
    simpa [ha] using this
  · have := (H i oi hi).1.2
    simpa [ha] using this
  · have := (H i oi hi).2.1
    simp only [ha, List.any_eq_true] at this
    obtain ⟨j, _, hj⟩ := this
    cases ho : ops[j]? with
    | none => simp [ho] at hj
    | some oj => simp [ho] at hj; exact ⟨j, oj, ho, hj.1.1, hj.1.2, hj.2⟩
  · have := (H i oi hi).2.2.1
    simp only [ha, Bool.not_true, Bool.false_or] at this
    exact Option.isSome_iff_exists.1 this
  · refine Classical.byContradiction fun hne => ?_
    have := J i oi hi j oj hj (fun h => hne h.symm)
    simp [h1, h2] at this
  · refine Classical.byContradiction fun hne => ?_
    have := J i oi hi j oj hj (fun h => hne h.symm)
    simp [h1, h2] at this
  · by_cases hji : j = i
    · exact .inl hji
    · have := J i oi hi j oj hj hji
      simp only [h1, Bool.and_eq_true, Bool.or_eq_true] at this
      have h3 := this.2
      rcases h3 with (h3 | ⟨⟨h3, h4⟩, h5⟩) | ⟨h3, h4⟩
      · simp [h2] at h3
      · refine .inr (.inl ⟨by simpa using h3, h4, fun ha => ?_⟩)
        rcases h5 with (h5 | h5) | h5
        · simp [ha] at h5
        · exact .inl (by simpa using h5)
        · refine .inr fun s os hs' => ?_
          have := Array.all_eq_true_iff_forall_mem.1 h5 os (Array.mem_of_getElem? hs')
          simpa using this
      · exact .inr (.inr ⟨by simpa using h3, h4⟩)

/-- the slots of what is laid, filled -/
def putL (E : Tmp → Ent) (blk : Tmp → Nat) : List Tmp → Act → Act
  | [], a => a
  | d :: l, a => putL E blk l (a.put (some d) (mkVal (E d).2.2 (blk d)))
theorem putL_size (E : Tmp → Ent) (blk : Tmp → Nat) : ∀ (l : List Tmp) (a : Act), (putL E blk l a).tmps.size = a.tmps.size
  | [], _ => rfl
  | d :: l, a => by rw [putL, putL_size E blk l]; simp [Act.put]
theorem putL_out (E : Tmp → Ent) (blk : Tmp → Nat) {t : Tmp} : ∀ (l : List Tmp) (a : Act), t ∉ l → (putL E blk l a).tmps[t]? = a.tmps[t]?
  | [], _, _ => rfl
  | d :: l, a, h => by
    rw [putL, putL_out E blk l _ (fun h' => h (List.mem_cons_of_mem _ h'))]
    have hne : d ≠ t := fun he => h (he ▸ List.mem_cons_self)
    simp only [Act.put, Array.getElem?_setIfInBounds_ne hne]
theorem putL_in (E : Tmp → Ent) (blk : Tmp → Nat) {t : Tmp} : ∀ (l : List Tmp) (a : Act), t ∈ l → (putL E blk l a).tmps[t]? = (a.tmps[t]?).map (fun _ => mkVal (E t).2.2 (blk t))
  | [], _, h => by cases h
  | d :: l, a, h => by
    rw [putL]
    by_cases hl : t ∈ l
    · rw [putL_in E blk l _ hl]
      by_cases hd : d = t
      · subst hd
        simp only [Act.put, Array.getElem?_setIfInBounds, if_true]
        by_cases hlt : d < a.tmps.size
        · simp [hlt]
        · simp [hlt]
      · simp only [Act.put, Array.getElem?_setIfInBounds_ne hd]
    · rw [putL_out E blk l _ hl]
      obtain rfl : t = d := (List.mem_cons.1 h).resolve_right hl
      simp only [Act.put, Array.getElem?_setIfInBounds, if_true]
      by_cases hlt : t < a.tmps.size
      · simp [hlt]
      · simp [hlt]
theorem putL_defers (E : Tmp → Ent) (blk : Tmp → Nat) : ∀ (l : List Tmp) (a : Act), (putL E blk l a).defers = a.defers
  | [], _ => rfl
  | d :: l, a => by rw [putL, putL_defers E blk l]; rfl

/-- an operation that may read what was laid, where that is as it was laid -/
def yieldsD (P : Program) (ops : Array Oper) (W0 : World) (E : Tmp → Ent) (ds : List Tmp) (o : Oper) (v : Value) (a : Act) : Prop :=
  ∀ blk : Tmp → Nat,
    (Region.wanted o (yielded ops (putL E blk ds a).tmps) = true ∧
      ∀ w, Below W0.heap.size W0 w → (∀ d ∈ ds, W0.heap.size ≤ blk d ∧ w.heap[blk d]? = some (.cells (E d).2.1 (E d).1 (0, 0))) → comesTo P (fun w' => Below w.heap.size w w') v ((execOp (putL E blk ds a).eval o).run P w)) ∨
    (Region.wanted o (yielded ops (putL E blk ds a).tmps) = false ∧ v = undef)
def allocs (P : Program) (ops : Array Oper) (o : Oper) (e : Ent) (a : Act) : Prop := Region.wanted o (yielded ops a.tmps) = true ∧ ∀ w, (execOp a.eval o).run P w = .ok (.value (mkVal e.2.2 w.heap.size)) (w.alloc (.cells e.2.1 e.1))
def stores (P : Program) (o : Oper) (e : Ent) (d : Tmp) (c : Array Value) (a : Act) : Prop :=
  ∀ b w, w.heap[b]? = some (.cells e.2.1 e.1 (0, 0)) → ∃ w', (execOp (a.put (some d) (mkVal e.2.2 b)).eval o).run P w = .ok .skip w' ∧ WroteTo b e.1 c w w'
structure Known (P : Program) (ops : Array Oper) (W0 : World) (vals : Nat → Value) (E : Tmp → Ent) (C : Tmp → Array Value) (F : Nat → Act) : Prop where
  det : ∀ (i : Nat) (o : Oper), ops[i]? = some o → isAl o = false → stAddr o = none → (∃ ds : List Tmp, yieldsD P ops W0 E ds o (vals i) (F i) ∧
      (∀ t ∈ o.looksAt ops, ∀ (j : Nat) (oj : Oper), ops[j]? = some oj → j < i → isAl oj = true → oj.dst = some t → t ∈ ds) ∧
      (∀ d ∈ ds, d ∈ o.looksAt ops ∧ ∃ (j : Nat) (oj : Oper), ops[j]? = some oj ∧ j < i ∧ isAl oj = true ∧ oj.dst = some d)) ∧ F (i + 1) = (F i).put o.dst (vals i)
  al : ∀ (i : Nat) (o : Oper) (d : Tmp), ops[i]? = some o → isAl o = true → o.dst = some d → allocs P ops o (E d) (F i) ∧ (∀ t ∈ o.looksAt ops, ∀ (j : Nat) (oj : Oper), ops[j]? = some oj → j < i → isAl oj = true → oj.dst ≠ some t) ∧ F (i + 1) = F i
  st : ∀ (i : Nat) (o : Oper) (d : Tmp), ops[i]? = some o → stAddr o = some d → stores P o (E d) d (C d) (F i) ∧ (∀ t ∈ o.looksAt ops, t ≠ d → ∀ (j : Nat) (oj : Oper), ops[j]? = some oj → j < i → isAl oj = true → oj.dst ≠ some t) ∧ F (i + 1) = F i
def valOf (ops : Array Oper) (vals : Nat → Value) (E : Tmp → Ent) (blk : Tmp → Nat) (i : Nat) : Value :=
  match ops[i]? with
  | some o => if isAl o then (match o.dst with | some d => mkVal (E d).2.2 (blk d) | none => vals i) else vals i
  | none => vals i
def isDet (ops : Array Oper) (i : Nat) : Prop := ∃ o, ops[i]? = some o ∧ isAl o = false ∧ stAddr o = none
theorem isAl_stAddr {o : Oper} (h : isAl o = true) : stAddr o = none := by
  unfold isAl at h; unfold stAddr
  split at h <;> simp_all
theorem valOf_det {vals : Nat → Value} {E : Tmp → Ent} {blk : Tmp → Nat} {i : Nat} {o : Oper} (hi : ops[i]? = some o) (h : isAl o = false) : valOf ops vals E blk i = vals i := by simp [valOf, hi, h]
theorem valOf_al {vals : Nat → Value} {E : Tmp → Ent} {blk : Tmp → Nat} {i : Nat} {o : Oper} {d : Tmp} (hi : ops[i]? = some o) (h : isAl o = true) (hd : o.dst = some d) : valOf ops vals E blk i = mkVal (E d).2.2 (blk d) := by simp [valOf, hi, h, hd]
theorem Known.agr {vals : Nat → Value} {E : Tmp → Ent} {C : Tmp → Array Value} {F : Nat → Act} (ok : BoxOk md ops) (K : Known P ops W0 vals E C F) :
    ∀ k, k ≤ ops.size → Agr ops (fun j => j < k ∧ isDet ops j) vals (F 0) (F k)
  | 0, _ => (Agr.refl vals (F 0)).congr (fun i o d _ _ => by simp) (fun _ _ _ _ _ h => h.elim)
  | k + 1, hk => by
    have ih := Known.agr ok K k (by omega)
    have ho : ops[k]? = some ops[k] := Array.getElem?_eq_getElem (by omega)
    by_cases hal : isAl ops[k] = true
    · obtain ⟨d, hd⟩ := ok.dstA k _ ho hal
      rw [(K.al k _ d ho hal hd).2.2]
      refine ih.congr (fun i o d hi hd' => ⟨fun h => ⟨by omega, h.2⟩, fun h => ⟨?_, h.2⟩⟩) (fun _ _ _ _ _ _ => rfl)
      refine Classical.byContradiction fun hn => ?_
      obtain rfl : i = k := by omega
      obtain ⟨o', h1, h2, _⟩ := h.2
      rw [ho] at h1; cases h1
      rw [hal] at h2; cases h2
    · cases hst : stAddr ops[k] with
      | some d =>
        rw [(K.st k _ d ho hst).2.2]
        refine ih.congr (fun i o d hi hd' => ⟨fun h => ⟨by omega, h.2⟩, fun h => ⟨?_, h.2⟩⟩) (fun _ _ _ _ _ _ => rfl)
        refine Classical.byContradiction fun hn => ?_
        obtain rfl : i = k := by omega
        obtain ⟨o', h1, _, h2⟩ := h.2
        rw [ho] at h1; cases h1
        rw [hst] at h2; cases h2
      | none =>
        have hal' : isAl ops[k] = false := by simpa using hal
        rw [(K.det k _ ho hal' hst).2]
        refine (ih.put ok.dd ho (fun h => by omega) (vals k)).congr (fun i o d hi hd' => ⟨fun h => ?_, fun h => ?_⟩) (fun i o d hi hd' h => ?_)
        · rcases h with h | rfl
          · exact ⟨by omega, h.2⟩
          · exact ⟨by omega, _, ho, hal', hst⟩
        · by_cases hik : i = k
          · exact .inr hik
          · exact .inl ⟨by omega, h.2⟩
        · by_cases hik : i = k
          · simp [hik]
          · simp [hik]

structure BoxInv (md : Region.Mode) (ops : Array Oper) (W0 : World) (vals : Nat → Value) (E : Tmp → Ent) (C : Tmp → Array Value) (a0 : Act) (blk : Tmp → Nat) (listed : Array Bool) (a : Act) (w : World) : Prop where
  size : listed.size = ops.size
  closed : ∀ (j : Nat) (oj : Oper), ops[j]? = some oj → listed.getD j false = true → ∀ e ∈ oj.after, Region.binds md e = true → listed.getD e.on false = true
  agr : Agr ops (fun i => listed.getD i false = true) (valOf ops vals E blk) a0 a
  bel : Below W0.heap.size W0 w
  low : ∀ (i : Nat) (o : Oper) (d : Tmp), ops[i]? = some o → isAl o = true → o.dst = some d → listed.getD i false = true → W0.heap.size ≤ blk d
  box : ∀ (i : Nat) (o : Oper) (d : Tmp), ops[i]? = some o → isAl o = true → o.dst = some d → listed.getD i false = true →
    ∃ cs, w.heap[blk d]? = some (.cells cs (E d).1 (0, 0)) ∧ (Stored ops listed d → cs = C d) ∧ (¬ Stored ops listed d → cs = (E d).2.1)
  dist : ∀ (i j : Nat) (oi oj : Oper) (d e : Tmp), ops[i]? = some oi → ops[j]? = some oj → isAl oi = true → isAl oj = true → oi.dst = some d → oj.dst = some e → listed.getD i false = true → listed.getD j false = true → d ≠ e → blk d ≠ blk e
/-- what an operation looks at, of what was not laid, is as in the text's order -/
theorem BoxInv.looks {vals : Nat → Value} {E : Tmp → Ent} {C : Tmp → Array Value} {F : Nat → Act} {blk : Tmp → Nat} {listed : Array Bool} {a : Act} {w : World} (ok : BoxOk md ops) (K : Known P ops W0 vals E C F)
    (inv : BoxInv md ops W0 vals E C (F 0) blk listed a w) {i : Nat} {o : Oper} (hi : ops[i]? = some o) (hr : i ∈ Region.ready md ops listed) (t : Tmp) (ht : t ∈ o.looksAt ops)
    (hne : ∀ (j : Nat) (oj : Oper), ops[j]? = some oj → j < i → isAl oj = true → oj.dst ≠ some t) : a.tmps[t]? = (F i).tmps[t]? := by
  have hin : i < ops.size := (Array.getElem?_eq_some_iff.1 hi).1
  obtain ⟨hun, o', ho', hall⟩ := mem_ready.1 hr
  obtain rfl : o' = o := Option.some.inj (ho'.symm.trans hi)
  refine inv.agr.same (K.agr ok i (by omega)) t fun j oj hj hd => ?_
  rcases ok.look i j o' oj t hi hj hd ht with rfl | ⟨hlt, hw, hsp⟩ | ⟨hlt, hw⟩
  · refine ⟨⟨fun h => absurd h (not_listed hun), fun h => by omega⟩, fun h => absurd h (not_listed hun)⟩
  · obtain ⟨e, he, hb, rfl⟩ := waitsOn_spec hw
    have hl := hall e he hb
    have hal : isAl oj = false := by
      cases h : isAl oj with
      | false => rfl
      | true => exact absurd hd (hne _ oj hj hlt h)
    have hst : stAddr oj = none := by
      cases h : stAddr oj with
      | none => rfl
      | some d => have := ok.dstS _ _ _ hj h; rw [this] at hd; cases hd
    exact ⟨⟨fun _ => ⟨hlt, oj, hj, hal, hst⟩, fun _ => hl⟩, fun _ => valOf_det hj hal⟩
  · obtain ⟨e, he, hb, he'⟩ := waitsOn_spec hw
    have hn : ¬ listed.getD j false = true := fun h => by
      have := inv.closed j oj hj h e he hb
      rw [he'] at this
      exact not_listed hun this
    exact ⟨⟨fun h => absurd h hn, fun h => by omega⟩, fun h => absurd h hn⟩
end
end Go.Proofs.Ytgeldpfojmkdbaa.Bld
