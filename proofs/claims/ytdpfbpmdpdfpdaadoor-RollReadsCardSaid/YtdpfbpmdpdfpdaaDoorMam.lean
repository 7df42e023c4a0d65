/- Laws that belong together: The law of regions that lay boxes, for rows that are built and read too (the slice of a variadic call): the invariant of every order. The conditions: the edges' checks, by computation.; The law of regions that lay boxes, for rows that are built and read too: the steps, the walk of the text, the law. The conditions: the edges' checks, by computation.; The law of regions that lay boxes and build rows, as a walk of the text. The conditions: the edges' checks, by computation.; The law of regions that lay boxes and build rows. The conditions: the edges' checks, by computation. -/
import Derived.Test.YtdpfbpmdpdfpdaaDoorMab
namespace Go.Proofs.YtdpfbpmdpdfpdaaDoor.Bld
set_option linter.unusedVariables false
open Go Go.RowKit Go.Proofs.YtdpfbpmdpdfpdaaDoor
section
variable {P : Program} {ops : Array Oper} {md : Region.Mode} {W0 : World}

def isAl (o : Oper) : Bool := match o.op with | .alloc _ => true | .buildSlice _ _ _ => true | _ => false
/-- a block's type, its cells, and how it is handed on: by its address, or as a slice -/
abbrev Ent := TypeId × Array Value × Option Nat
def mkVal (k : Option Nat) (b : Nat) : Value := match k with | none => .pointer (some ⟨b, 0, none⟩) | some n => .slice (some ⟨b, 0, none⟩) n n
def noSt (ops : Array Oper) (t : Tmp) : Bool := ops.all fun o => stAddr o != some t
def boxB (md : Region.Mode) (ops : Array Oper) : Bool :=
  Region.noSelect ops && (List.range ops.size).all fun i => match ops[i]? with
    | none => true
    | some oi =>
      oi.after.all (fun e => !Region.binds md e || decide (e.on < i)) && ((stAddr oi).isNone || oi.guard.isNone) && ((stAddr oi).isNone || oi.dst.isNone) &&
      (match stAddr oi with
        | none => true
        | some d => (List.range ops.size).any fun j => match ops[j]? with | none => false | some oj => isAl oj && oj.dst == some d && waitsOn md oi j) &&
      (!isAl oi || oi.dst.isSome) &&
      (List.range ops.size).all fun j => match ops[j]? with
        | none => true
        | some oj => j == i || ((oi.dst.isNone || oj.dst != oi.dst) && ((stAddr oi).isNone || stAddr oj != stAddr oi) &&
            (match oj.dst with
              | none => true
              | some t => !(oi.looksAt ops).contains t || (decide (j < i) && waitsOn md oi j && (!isAl oj || stAddr oi == some t || noSt ops t)) || (decide (i < j) && waitsOn md oj i)))
structure BoxOk (md : Region.Mode) (ops : Array Oper) : Prop where
  sel : ∀ (j : Nat) (o : Oper) cs b, ops[j]? = some o → o.op ≠ .select cs b
  back : ∀ (i : Nat) (oi : Oper), ops[i]? = some oi → ∀ e ∈ oi.after, Region.binds md e = true → e.on < i
  guardS : ∀ (i : Nat) (oi : Oper) (d : Tmp), ops[i]? = some oi → stAddr oi = some d → oi.guard = none
  dstS : ∀ (i : Nat) (oi : Oper) (d : Tmp), ops[i]? = some oi → stAddr oi = some d → oi.dst = none
  allocOf : ∀ (i : Nat) (oi : Oper) (d : Tmp), ops[i]? = some oi → stAddr oi = some d → ∃ (j : Nat) (oj : Oper), ops[j]? = some oj ∧ isAl oj = true ∧ oj.dst = some d ∧ waitsOn md oi j = true
  dstA : ∀ (i : Nat) (oi : Oper), ops[i]? = some oi → isAl oi = true → ∃ d, oi.dst = some d
  dd : ∀ (i j : Nat) (oi oj : Oper) (d : Tmp), ops[i]? = some oi → ops[j]? = some oj → oi.dst = some d → oj.dst = some d → i = j
  ss : ∀ (i j : Nat) (oi oj : Oper) (d : Tmp), ops[i]? = some oi → ops[j]? = some oj → stAddr oi = some d → stAddr oj = some d → i = j
  look : ∀ (i j : Nat) (oi oj : Oper) (t : Tmp), ops[i]? = some oi → ops[j]? = some oj → oj.dst = some t → t ∈ oi.looksAt ops →
    j = i ∨ (j < i ∧ waitsOn md oi j = true ∧ (isAl oj = true → stAddr oi = some t ∨ ∀ (s : Nat) (os : Oper), ops[s]? = some os → stAddr os ≠ some t)) ∨ (i < j ∧ waitsOn md oj i = true)
theorem boxB_spec (h : boxB md ops = true) : BoxOk md ops := by
  simp only [boxB, Bool.and_eq_true] at h
  obtain ⟨hs, h⟩ := h
  have H : ∀ (i : Nat) (oi : Oper), ops[i]? = some oi → ((oi.after.all (fun e => !Region.binds md e || decide (e.on < i)) = true ∧ ((stAddr oi).isNone || oi.guard.isNone) = true) ∧ ((stAddr oi).isNone || oi.dst.isNone) = true) ∧
      (match stAddr oi with
        | none => true
        | some d => (List.range ops.size).any fun j => match ops[j]? with | none => false | some oj => isAl oj && oj.dst == some d && waitsOn md oi j) = true ∧
      (!isAl oi || oi.dst.isSome) = true ∧
      ((List.range ops.size).all fun j => match ops[j]? with
        | none => true
        | some oj => j == i || ((oi.dst.isNone || oj.dst != oi.dst) && ((stAddr oi).isNone || stAddr oj != stAddr oi) &&
            (match oj.dst with
              | none => true
              | some t => !(oi.looksAt ops).contains t || (decide (j < i) && waitsOn md oi j && (!isAl oj || stAddr oi == some t || noSt ops t)) || (decide (i < j) && waitsOn md oj i)))) = true := fun i oi hi => by
    have := List.all_eq_true.1 h i (List.mem_range.2 (Array.getElem?_eq_some_iff.1 hi).1)
    simp only [hi, Bool.and_eq_true] at this
    exact ⟨this.1.1.1, this.1.1.2, this.1.2, this.2⟩
  have J : ∀ (i : Nat) (oi : Oper), ops[i]? = some oi → ∀ (j : Nat) (oj : Oper), ops[j]? = some oj → j ≠ i → ((oi.dst.isNone || oj.dst != oi.dst) && ((stAddr oi).isNone || stAddr oj != stAddr oi) &&
            (match oj.dst with
              | none => true
              | some t => !(oi.looksAt ops).contains t || (decide (j < i) && waitsOn md oi j && (!isAl oj || stAddr oi == some t || noSt ops t)) || (decide (i < j) && waitsOn md oj i))) = true := fun i oi hi j oj hj hne => by
    have := List.all_eq_true.1 (H i oi hi).2.2.2 j (List.mem_range.2 (Array.getElem?_eq_some_iff.1 hj).1)
    simp only [hj, Bool.or_eq_true, beq_iff_eq, hne, false_or] at this
    exact this
  refine ⟨fun j o cs b hj => Region.noSelect_spec hs j o cs b hj, fun i oi hi e he hb => ?_, fun i oi d hi ha => ?_, fun i oi d hi ha => ?_, fun i oi d hi ha => ?_, fun i oi hi ha => ?_, fun i j oi oj d hi hj h1 h2 => ?_, fun i j oi oj d hi hj h1 h2 => ?_, fun i j oi oj t hi hj h1 h2 => ?_⟩
  · have := Array.all_eq_true_iff_forall_mem.1 (H i oi hi).1.1.1 e he
    simpa [hb] using this
  · have := (H i oi hi).1.1.2
    simpa [ha] using this
  · have := (H i oi hi).1.2
    simpa [ha] using this
  · have := (H i oi hi).2.1
    simp only [ha, List.any_eq_true] at this
    obtain ⟨j, _, hj⟩ := this
    cases ho : ops[j]? with
    | none => simp [ho] at hj
    | some oj => simp [ho] at hj; exact ⟨j, oj, ho, hj.1.1, hj.1.2, hj.2⟩
  · have := (H i oi hi).2.2.1
    simp only [ha, Bool.not_true, Bool.false_or] at this
    exact Option.isSome_iff_exists.1 this
  · refine Classical.byContradiction fun hne => ?_
    have := J i oi hi j oj hj (fun h => hne h.symm)
    simp [h1, h2] at this
  · refine Classical.byContradiction fun hne => ?_
    have := J i oi hi j oj hj (fun h => hne h.symm)
    simp [h1, h2] at this
  · by_cases hji : j = i
    · exact .inl hji
    · have := J i oi hi j oj hj hji
      simp only [h1, Bool.and_eq_true, Bool.or_eq_true] at this
      have h3 := this.2
      rcases h3 with (h3 | ⟨⟨h3, h4⟩, h5⟩) | ⟨h3, h4⟩
      · simp [h2] at h3
      · refine .inr (.inl ⟨by simpa using h3, h4, fun ha => ?_⟩)
        rcases h5 with (h5 | h5) | h5
        · simp [ha] at h5
        · exact .inl (by simpa using h5)
        · refine .inr fun s os hs' => ?_
          have := Array.all_eq_true_iff_forall_mem.1 h5 os (Array.mem_of_getElem? hs')
          simpa using this
      · exact .inr (.inr ⟨by simpa using h3, h4⟩)

/-- the slots of what is laid, filled -/
def putL (E : Tmp → Ent) (blk : Tmp → Nat) : List Tmp → Act → Act
  | [], a => a
  | d :: l, a => putL E blk l (a.put (some d) (mkVal (E d).2.2 (blk d)))
theorem putL_size (E : Tmp → Ent) (blk : Tmp → Nat) : ∀ (l : List Tmp) (a : Act), (putL E blk l a).tmps.size = a.tmps.size
  | [], _ => rfl
  | d :: l, a => by rw [putL, putL_size E blk l]; simp [Act.put]
theorem putL_out (E : Tmp → Ent) (blk : Tmp → Nat) {t : Tmp} : ∀ (l : List Tmp) (a : Act), t ∉ l → (putL E blk l a).tmps[t]? = a.tmps[t]?
  | [], _, _ => rfl
  | d :: l, a, h => by
    rw [putL, putL_out E blk l _ (fun h' => h (List.mem_cons_of_mem _ h'))]
    have hne : d ≠ t := fun he => h (he ▸ List.mem_cons_self)
    simp only [Act.put, Array.getElem?_setIfInBounds_ne hne]
theorem putL_in (E : Tmp → Ent) (blk : Tmp → Nat) {t : Tmp} : ∀ (l : List Tmp) (a : Act), t ∈ l → (putL E blk l a).tmps[t]? = (a.tmps[t]?).map (fun _ => mkVal (E t).2.2 (blk t))
  | [], _, h => by cases h
  | d :: l, a, h => by
    rw [putL]
    by_cases hl : t ∈ l
    · rw [putL_in E blk l _ hl]
      by_cases hd : d = t
      · subst hd
        simp only [Act.put, Array.getElem?_setIfInBounds, if_true]
        by_cases hlt : d < a.tmps.size
        · simp [hlt]
        · simp [hlt]
      · simp only [Act.put, Array.getElem?_setIfInBounds_ne hd]
    · rw [putL_out E blk l _ hl]
      obtain rfl : t = d := (List.mem_cons.1 h).resolve_right hl
      simp only [Act.put, Array.getElem?_setIfInBounds, if_true]
      by_cases hlt : t < a.tmps.size
      · simp [hlt]
      · simp [hlt]
theorem putL_defers (E : Tmp → Ent) (blk : Tmp → Nat) : ∀ (l : List Tmp) (a : Act), (putL E blk l a).defers = a.defers
  | [], _ => rfl
  | d :: l, a => by rw [putL, putL_defers E blk l]; rfl

/-- an operation that may read what was laid, where that is as it was laid -/
def yieldsD (P : Program) (ops : Array Oper) (W0 : World) (E : Tmp → Ent) (ds : List Tmp) (o : Oper) (v : Value) (a : Act) : Prop :=
  ∀ blk : Tmp → Nat,
    (Region.wanted o (yielded ops (putL E blk ds a).tmps) = true ∧
      ∀ w, Below W0.heap.size W0 w → (∀ d ∈ ds, W0.heap.size ≤ blk d ∧ w.heap[blk d]? = some (.cells (E d).2.1 (E d).1 (0, 0))) → comesTo P (fun w' => Below w.heap.size w w') v ((execOp (putL E blk ds a).eval o).run P w)) ∨
    (Region.wanted o (yielded ops (putL E blk ds a).tmps) = false ∧ v = undef)
def allocs (P : Program) (ops : Array Oper) (o : Oper) (e : Ent) (a : Act) : Prop := Region.wanted o (yielded ops a.tmps) = true ∧ ∀ w, (execOp a.eval o).run P w = .ok (.value (mkVal e.2.2 w.heap.size)) (w.alloc (.cells e.2.1 e.1))
def stores (P : Program) (o : Oper) (e : Ent) (d : Tmp) (c : Array Value) (a : Act) : Prop :=
  ∀ b w, w.heap[b]? = some (.cells e.2.1 e.1 (0, 0)) → ∃ w', (execOp (a.put (some d) (mkVal e.2.2 b)).eval o).run P w = .ok .skip w' ∧ WroteTo b e.1 c w w'
structure Known (P : Program) (ops : Array Oper) (W0 : World) (vals : Nat → Value) (E : Tmp → Ent) (C : Tmp → Array Value) (F : Nat → Act) : Prop where
  det : ∀ (i : Nat) (o : Oper), ops[i]? = some o → isAl o = false → stAddr o = none → (∃ ds : List Tmp, yieldsD P ops W0 E ds o (vals i) (F i) ∧
      (∀ t ∈ o.looksAt ops, ∀ (j : Nat) (oj : Oper), ops[j]? = some oj → j < i → isAl oj = true → oj.dst = some t → t ∈ ds) ∧
      (∀ d ∈ ds, d ∈ o.looksAt ops ∧ ∃ (j : Nat) (oj : Oper), ops[j]? = some oj ∧ j < i ∧ isAl oj = true ∧ oj.dst = some d)) ∧ F (i + 1) = (F i).put o.dst (vals i)
  al : ∀ (i : Nat) (o : Oper) (d : Tmp), ops[i]? = some o → isAl o = true → o.dst = some d → allocs P ops o (E d) (F i) ∧ (∀ t ∈ o.looksAt ops, ∀ (j : Nat) (oj : Oper), ops[j]? = some oj → j < i → isAl oj = true → oj.dst ≠ some t) ∧ F (i + 1) = F i
  st : ∀ (i : Nat) (o : Oper) (d : Tmp), ops[i]? = some o → stAddr o = some d → stores P o (E d) d (C d) (F i) ∧ (∀ t ∈ o.looksAt ops, t ≠ d → ∀ (j : Nat) (oj : Oper), ops[j]? = some oj → j < i → isAl oj = true → oj.dst ≠ some t) ∧ F (i + 1) = F i
def valOf (ops : Array Oper) (vals : Nat → Value) (E : Tmp → Ent) (blk : Tmp → Nat) (i : Nat) : Value :=
  match ops[i]? with
  | some o => if isAl o then (match o.dst with | some d => mkVal (E d).2.2 (blk d) | none => vals i) else vals i
  | none => vals i
def isDet (ops : Array Oper) (i : Nat) : Prop := ∃ o, ops[i]? = some o ∧ isAl o = false ∧ stAddr o = none
theorem isAl_stAddr {o : Oper} (h : isAl o = true) : stAddr o = none := by
  unfold isAl at h; unfold stAddr
  split at h <;> simp_all
theorem valOf_det {vals : Nat → Value} {E : Tmp → Ent} {blk : Tmp → Nat} {i : Nat} {o : Oper} (hi : ops[i]? = some o) (h : isAl o = false) : valOf ops vals E blk i = vals i := by simp [valOf, hi, h]
theorem valOf_al {vals : Nat → Value} {E : Tmp → Ent} {blk : Tmp → Nat} {i : Nat} {o : Oper} {d : Tmp} (hi : ops[i]? = some o) (h : isAl o = true) (hd : o.dst = some d) : valOf ops vals E blk i = mkVal (E d).2.2 (blk d) := by simp [valOf, hi, h, hd]
theorem Known.agr {vals : Nat → Value} {E : Tmp → Ent} {C : Tmp → Array Value} {F : Nat → Act} (ok : BoxOk md ops) (K : Known P ops W0 vals E C F) :
    ∀ k, k ≤ ops.size → Agr ops (fun j => j < k ∧ isDet ops j) vals (F 0) (F k)
  | 0, _ => (Agr.refl vals (F 0)).congr (fun i o d _ _ => by simp) (fun _ _ _ _ _ h => h.elim)
  | k + 1, hk => by
    have ih := Known.agr ok K k (by omega)
    have ho : ops[k]? = some ops[k] := Array.getElem?_eq_getElem (by omega)
    by_cases hal : isAl ops[k] = true
    · obtain ⟨d, hd⟩ := ok.dstA k _ ho hal
      rw [(K.al k _ d ho hal hd).2.2]
      refine ih.congr (fun i o d hi hd' => ⟨fun h => ⟨by omega, h.2⟩, fun h => ⟨?_, h.2⟩⟩) (fun _ _ _ _ _ _ => rfl)
      refine Classical.byContradiction fun hn => ?_
      obtain rfl : i = k := by omega
      obtain ⟨o', h1, h2, _⟩ := h.2
      rw [ho] at h1; cases h1
      rw [hal] at h2; cases h2
    · cases hst : stAddr ops[k] with
      | some d =>
        rw [(K.st k _ d ho hst).2.2]
        refine ih.congr (fun i o d hi hd' => ⟨fun h => ⟨by omega, h.2⟩, fun h => ⟨?_, h.2⟩⟩) (fun _ _ _ _ _ _ => rfl)
        refine Classical.byContradiction fun hn => ?_
        obtain rfl : i = k := by omega
        obtain ⟨o', h1, _, h2⟩ := h.2
        rw [ho] at h1; cases h1
        rw [hst] at h2; cases h2
      | none =>
        have hal' : isAl ops[k] = false := by simpa using hal
        rw [(K.det k _ ho hal' hst).2]
        refine (ih.put ok.dd ho (fun h => by omega) (vals k)).congr (fun i o d hi hd' => ⟨fun h => ?_, fun h => ?_⟩) (fun i o d hi hd' h => ?_)
        · rcases h with h | rfl
          · exact ⟨by omega, h.2⟩
          · exact ⟨by omega, _, ho, hal', hst⟩
        · by_cases hik : i = k
          · exact .inr hik
          · exact .inl ⟨by omega, h.2⟩
        · by_cases hik : i = k
          · simp [hik]
          · simp [hik]

structure BoxInv (md : Region.Mode) (ops : Array Oper) (W0 : World) (vals : Nat → Value) (E : Tmp → Ent) (C : Tmp → Array Value) (a0 : Act) (blk : Tmp → Nat) (listed : Array Bool) (a : Act) (w : World) : Prop where
  size : listed.size = ops.size
  closed : ∀ (j : Nat) (oj : Oper), ops[j]? = some oj → listed.getD j false = true → ∀ e ∈ oj.after, Region.binds md e = true → listed.getD e.on false = true
  agr : Agr ops (fun i => listed.getD i false = true) (valOf ops vals E blk) a0 a
  bel : Below W0.heap.size W0 w
  low : ∀ (i : Nat) (o : Oper) (d : Tmp), ops[i]? = some o → isAl o = true → o.dst = some d → listed.getD i false = true → W0.heap.size ≤ blk d
  box : ∀ (i : Nat) (o : Oper) (d : Tmp), ops[i]? = some o → isAl o = true → o.dst = some d → listed.getD i false = true →
    ∃ cs, w.heap[blk d]? = some (.cells cs (E d).1 (0, 0)) ∧ (Stored ops listed d → cs = C d) ∧ (¬ Stored ops listed d → cs = (E d).2.1)
  dist : ∀ (i j : Nat) (oi oj : Oper) (d e : Tmp), ops[i]? = some oi → ops[j]? = some oj → isAl oi = true → isAl oj = true → oi.dst = some d → oj.dst = some e → listed.getD i false = true → listed.getD j false = true → d ≠ e → blk d ≠ blk e
/-- what an operation looks at, of what was not laid, is as in the text's order -/
theorem BoxInv.looks {vals : Nat → Value} {E : Tmp → Ent} {C : Tmp → Array Value} {F : Nat → Act} {blk : Tmp → Nat} {listed : Array Bool} {a : Act} {w : World} (ok : BoxOk md ops) (K : Known P ops W0 vals E C F)
    (inv : BoxInv md ops W0 vals E C (F 0) blk listed a w) {i : Nat} {o : Oper} (hi : ops[i]? = some o) (hr : i ∈ Region.ready md ops listed) (t : Tmp) (ht : t ∈ o.looksAt ops)
    (hne : ∀ (j : Nat) (oj : Oper), ops[j]? = some oj → j < i → isAl oj = true → oj.dst ≠ some t) : a.tmps[t]? = (F i).tmps[t]? := by
  have hin : i < ops.size := (Array.getElem?_eq_some_iff.1 hi).1
  obtain ⟨hun, o', ho', hall⟩ := mem_ready.1 hr
  obtain rfl : o' = o := Option.some.inj (ho'.symm.trans hi)
  refine inv.agr.same (K.agr ok i (by omega)) t fun j oj hj hd => ?_
  rcases ok.look i j o' oj t hi hj hd ht with rfl | ⟨hlt, hw, hsp⟩ | ⟨hlt, hw⟩
  · refine ⟨⟨fun h => absurd h (not_listed hun), fun h => by omega⟩, fun h => absurd h (not_listed hun)⟩
  · obtain ⟨e, he, hb, rfl⟩ := waitsOn_spec hw
    have hl := hall e he hb
    have hal : isAl oj = false := by
      cases h : isAl oj with
      | false => rfl
      | true => exact absurd hd (hne _ oj hj hlt h)
    have hst : stAddr oj = none := by
      cases h : stAddr oj with
      | none => rfl
      | some d => have := ok.dstS _ _ _ hj h; rw [this] at hd; cases hd
    exact ⟨⟨fun _ => ⟨hlt, oj, hj, hal, hst⟩, fun _ => hl⟩, fun _ => valOf_det hj hal⟩
  · obtain ⟨e, he, hb, he'⟩ := waitsOn_spec hw
    have hn : ¬ listed.getD j false = true := fun h => by
      have := inv.closed j oj hj h e he hb
      rw [he'] at this
      exact not_listed hun this
    exact ⟨⟨fun h => absurd h hn, fun h => by omega⟩, fun h => absurd h hn⟩
end
end Go.Proofs.YtdpfbpmdpdfpdaaDoor.Bld
namespace Go.Proofs.YtdpfbpmdpdfpdaaDoor.Bld
set_option linter.unusedVariables false
open Go Go.RowKit Go.Proofs.YtdpfbpmdpdfpdaaDoor
section
variable {P : Program} {ops : Array Oper} {md : Region.Mode} {W0 : World}

/-- a step keeps the invariant -/
theorem BoxInv.step {vals : Nat → Value} {E : Tmp → Ent} {C : Tmp → Array Value} {F : Nat → Act} {blk : Tmp → Nat} {listed : Array Bool} {a : Act} {w : World} {Q : Exit → Act → World → Prop} (ok : BoxOk md ops) (K : Known P ops W0 vals E C F)
    (inv : BoxInv md ops W0 vals E C (F 0) blk listed a w) {i : Nat} (hr : i ∈ Region.ready md ops listed) :
    wpOp P ops Q i (fun a' w' => ∃ blk', BoxInv md ops W0 vals E C (F 0) blk' (listed.setIfInBounds i true) a' w') a w := by
  obtain ⟨hun, o, hi, hall⟩ := mem_ready.1 hr
  have hin : i < ops.size := (Array.getElem?_eq_some_iff.1 hi).1
  have hni := not_listed hun
  have hil : i < listed.size := by rw [inv.size]; exact hin
  have hsize : (listed.setIfInBounds i true).size = ops.size := by simp [inv.size]
  have hclosed : ∀ (j : Nat) (oj : Oper), ops[j]? = some oj → (listed.setIfInBounds i true).getD j false = true → ∀ e ∈ oj.after, Region.binds md e = true → (listed.setIfInBounds i true).getD e.on false = true := fun j oj hj hl e he hb => by
    rcases set_back hl with h | rfl
    · exact getD_set_true (inv.closed j oj hj h e he hb)
    · obtain rfl : o = oj := Option.some.inj (hi.symm.trans hj)
      exact getD_set_true (hall e he hb)
  have hback : ∀ j, j ≠ i → (listed.setIfInBounds i true).getD j false = true → listed.getD j false = true := fun j hne h => (set_back h).resolve_right hne
  cases hal : isAl o with
  | true =>
    obtain ⟨d, hd⟩ := ok.dstA i o hi hal
    obtain ⟨hK, hKl, _⟩ := K.al i o d hi hal hd
    have hsame := exec_same (ops := ops) (o := o) (a := a) (a' := F i) (fun cs b => ok.sel i o cs b hi) (fun t ht => inv.looks ok K hi hr t ht (hKl t ht))
    unfold wpOp
    have hwd : Region.wanted o (yielded ops a.tmps) = true := by rw [hsame.2]; exact hK.1
    simp only [hi, hwd, if_true]
    refine .inl ?_
    unfold Oper.wp
    rw [hsame.1, hK.2 w, Oper.upon_value]
    have hne : ∀ j oj e, ops[j]? = some oj → isAl oj = true → oj.dst = some e → listed.getD j false = true → e ≠ d := fun j oj e hj _ he hl heq => by
      subst heq
      have := ok.dd j i oj o e hj hi he hd
      subst this
      exact hni hl
    refine ⟨fun e => if e = d then w.heap.size else blk e, hsize, hclosed, ?_, inv.bel.alloc inv.bel.size _, fun j oj e hj ha he hl => ?_, fun j oj e hj ha he hl => ?_, fun j k oj ok' e e' hj hk haj hak he he' hl hl' hee => ?_⟩
    · refine (inv.agr.put ok.dd hi hni _).congr (fun j oj e hj he => ⟨fun h => ?_, fun h => ?_⟩) (fun j oj e hj he hl => ?_)
      · rcases h with h | rfl
        · exact getD_set_true h
        · exact set_self hil
      · exact set_back h
      · by_cases hji : j = i
        · subst hji
          obtain rfl : o = oj := Option.some.inj (hi.symm.trans hj)
          simp [valOf, hi, hal, hd]
        · simp only [hji, if_false]
          cases haj : isAl oj with
          | false => rw [valOf_det hj haj, valOf_det hj haj]
          | true =>
            have := hne j oj e hj haj he (hl.resolve_right hji)
            rw [valOf_al hj haj he, valOf_al hj haj he]
            simp [this]
    · rcases set_back hl with h | rfl
      · have := hne j oj e hj ha he h
        simp only [this, if_false]
        exact inv.low j oj e hj ha he h
      · obtain rfl : o = oj := Option.some.inj (hi.symm.trans hj)
        obtain rfl : d = e := Option.some.inj (hd.symm.trans he)
        simp only [if_true]
        exact inv.bel.size
    · have hst : ∀ e, Stored ops (listed.setIfInBounds i true) e ↔ Stored ops listed e := fun e => by
        constructor
        · rintro ⟨s, os, h1, h2, h3⟩
          refine ⟨s, os, h1, h2, hback s (fun h => ?_) h3⟩
          subst h
          obtain rfl : o = os := Option.some.inj (hi.symm.trans h1)
          rw [isAl_stAddr hal] at h2; cases h2
        · rintro ⟨s, os, h1, h2, h3⟩
          exact ⟨s, os, h1, h2, getD_set_true h3⟩
      rcases set_back hl with h | rfl
      · have hed := hne j oj e hj ha he h
        obtain ⟨cs, h1, h2, h3⟩ := inv.box j oj e hj ha he h
        refine ⟨cs, ?_, fun hs => h2 ((hst e).1 hs), fun hs => h3 (fun hs' => hs ((hst e).2 hs'))⟩
        simp only [hed, if_false]
        rw [Below.heap_alloc _ _ _ (blk_lt h1)]
        exact h1
      · obtain rfl : o = oj := Option.some.inj (hi.symm.trans hj)
        obtain rfl : d = e := Option.some.inj (hd.symm.trans he)
        refine ⟨(E d).2.1, by simp only [if_true]; show (w.heap.push _)[w.heap.size]? = _; simp, fun hs' => ?_, fun _ => rfl⟩
        obtain ⟨s', os', h1, h2, h3⟩ := (hst d).1 hs'
        obtain ⟨j', oj', hj', haj', hdj', hw'⟩ := ok.allocOf s' os' d h1 h2
        have : j' = j := ok.dd j' j oj' o d hj' hi hdj' hd
        subst this
        obtain ⟨e, he', hb, hon⟩ := waitsOn_spec hw'
        have := inv.closed s' os' h1 h3 e he' hb
        rw [hon] at this
        exact absurd this hni
    · have key : ∀ j oj e, ops[j]? = some oj → isAl oj = true → oj.dst = some e → listed.getD j false = true → blk e < w.heap.size := fun j oj e hj ha he hl => by
        obtain ⟨cs, h1, _⟩ := inv.box j oj e hj ha he hl
        exact blk_lt h1
      rcases set_back hl with h | rfl
      · have h1 := hne j oj e hj haj he h
        have b1 := key j oj e hj haj he h
        rcases set_back hl' with h' | rfl
        · have h2 := hne k ok' e' hk hak he' h'
          simp only [h1, h2, if_false]
          exact inv.dist j k oj ok' e e' hj hk haj hak he he' h h' hee
        · obtain rfl : o = ok' := Option.some.inj (hi.symm.trans hk)
          obtain rfl : d = e' := Option.some.inj (hd.symm.trans he')
          simp only [h1, if_false, if_true]
          omega
      · obtain rfl : o = oj := Option.some.inj (hi.symm.trans hj)
        obtain rfl : d = e := Option.some.inj (hd.symm.trans he)
        rcases set_back hl' with h' | rfl
        · have h2 := hne k ok' e' hk hak he' h'
          have b1 := key k ok' e' hk hak he' h'
          simp only [h2, if_false, if_true]
          omega
        · obtain rfl : o = ok' := Option.some.inj (hi.symm.trans hk)
          exact absurd (Option.some.inj (hd.symm.trans he')) hee
  | false =>
    have hagr : ∀ v, (∀ d, o.dst = some d → v = vals i) → Agr ops (fun j => (listed.setIfInBounds i true).getD j false = true) (valOf ops vals E blk) (F 0) (a.put o.dst v) := fun v hv => by
      refine (inv.agr.put ok.dd hi hni _).congr (fun j oj e hj he => ⟨fun h => ?_, fun h => ?_⟩) (fun j oj e hj he hl => ?_)
      · rcases h with h | rfl
        · exact getD_set_true h
        · exact set_self hil
      · exact set_back h
      · by_cases hji : j = i
        · subst hji
          obtain rfl : o = oj := Option.some.inj (hi.symm.trans hj)
          simp only [if_true]
          rw [valOf_det hi hal, hv e he]
        · simp only [hji, if_false]
    have halj : ∀ j oj, ops[j]? = some oj → isAl oj = true → j ≠ i := fun j oj hj ha h => by
      subst h
      obtain rfl : o = oj := Option.some.inj (hi.symm.trans hj)
      rw [hal] at ha; cases ha
    cases hst : stAddr o with
    | none =>
      obtain ⟨⟨ds, hy0, hds1, hds2⟩, hF⟩ := K.det i o hi hal hst
      have hy := hy0 blk
      have hmem : ∀ d ∈ ds, ∃ (j : Nat) (oj : Oper), ops[j]? = some oj ∧ isAl oj = true ∧ oj.dst = some d ∧ listed.getD j false = true ∧ ∀ (s : Nat) (os : Oper), ops[s]? = some os → stAddr os ≠ some d := fun d hd => by
        obtain ⟨hl, j, oj, hj, hlt, ha, hdj⟩ := hds2 d hd
        refine ⟨j, oj, hj, ha, hdj, ?_⟩
        rcases ok.look i j o oj d hi hj hdj hl with h | ⟨_, hw, hsp⟩ | ⟨h, _⟩
        · omega
        · obtain ⟨e, he, hb, hon⟩ := waitsOn_spec hw
          refine ⟨by rw [← hon]; exact hall e he hb, ?_⟩
          rcases hsp ha with h | h
          · rw [hst] at h; cases h
          · exact h
        · omega
      have hbox : ∀ d ∈ ds, W0.heap.size ≤ blk d ∧ w.heap[blk d]? = some (.cells (E d).2.1 (E d).1 (0, 0)) := fun d hd => by
        obtain ⟨j, oj, hj, ha, hdj, hlj, hns⟩ := hmem d hd
        obtain ⟨cs, h1, _, h3⟩ := inv.box j oj d hj ha hdj hlj
        refine ⟨inv.low j oj d hj ha hdj hlj, ?_⟩
        rw [h1, h3 fun ⟨s, os, e1, e2, _⟩ => hns s os e1 e2]
      have hFs := (K.agr ok i (by omega)).size
      have hsame := exec_same (ops := ops) (o := o) (a := a) (a' := putL E blk ds (F i)) (fun cs b => ok.sel i o cs b hi) (fun t ht => by
        by_cases htd : t ∈ ds
        · obtain ⟨j, oj, hj, ha, hdj, hlj, _⟩ := hmem t htd
          rw [inv.agr.onn j oj t hj hlj hdj, valOf_al hj ha hdj, putL_in E blk ds _ htd]
          by_cases hlt : t < (F 0).tmps.size
          · simp [hlt, hFs]
          · simp [hlt, hFs]
        · rw [putL_out E blk ds _ htd]
          exact inv.looks ok K hi hr t ht fun j oj hj hlt ha hd => htd (hds1 t ht j oj hj hlt ha hd))
      have hstd : ∀ e, Stored ops (listed.setIfInBounds i true) e ↔ Stored ops listed e := fun e => by
        constructor
        · rintro ⟨s, os, h1, h2, h3⟩
          refine ⟨s, os, h1, h2, hback s (fun h => ?_) h3⟩
          subst h
          obtain rfl : o = os := Option.some.inj (hi.symm.trans h1)
          rw [hst] at h2; cases h2
        · rintro ⟨s, os, h1, h2, h3⟩
          exact ⟨s, os, h1, h2, getD_set_true h3⟩
      have done : ∀ w', Below w.heap.size w w' → ∃ blk', BoxInv md ops W0 vals E C (F 0) blk' (listed.setIfInBounds i true) (a.put o.dst (vals i)) w' := fun w' hb => by
        refine ⟨blk, hsize, hclosed, hagr _ fun _ _ => rfl, inv.bel.trans (hb.mono inv.bel.size), fun j oj e hj ha he hl => inv.low j oj e hj ha he (hback j (halj j oj hj ha) hl), fun j oj e hj ha he hl => ?_,
          fun j k oj ok' e e' hj hk haj hak he he' hl hl' hee => inv.dist j k oj ok' e e' hj hk haj hak he he' (hback j (halj j oj hj haj) hl) (hback k (halj k ok' hk hak) hl') hee⟩
        obtain ⟨cs, h1, h2, h3⟩ := inv.box j oj e hj ha he (hback j (halj j oj hj ha) hl)
        exact ⟨cs, (hb.block _ (blk_lt h1)).trans h1, fun hs => h2 ((hstd e).1 hs), fun hs => h3 (fun hs' => hs ((hstd e).2 hs'))⟩
      unfold wpOp
      simp only [hi]
      rcases hy with ⟨hw, hy⟩ | ⟨hw, hv⟩
      · rw [← hsame.2] at hw
        simp only [hw, if_true]
        refine .inl ?_
        have h1 := hy w inv.bel hbox
        unfold Oper.wp
        rw [hsame.1]
        generalize (execOp (putL E blk ds (F i)).eval o).run P w = r at *
        cases r with
        | ok n w' =>
          cases n <;> simp only [comesTo] at h1 <;> simp only [Oper.upon]
          case value u => obtain ⟨rfl, h2⟩ := h1; exact done _ h2
          case skip => obtain ⟨h0, h2⟩ := h1; rw [← h0]; exact done _ h2
          case enter f args => exact h1.mono fun e w'' ⟨he, h2⟩ => by subst he; exact done _ h2
        | halt x w' => simp only [comesTo] at h1
      · rw [← hsame.2] at hw
        simp only [hw, Bool.false_eq_true, if_false]
        rw [← hv]
        exact done w (Below.refl _ _)
    | some d =>
      obtain ⟨hy, hyl, hF⟩ := K.st i o d hi hst
      have hdst := ok.dstS i o d hi hst
      obtain ⟨j, oj, hj, haj, hdj, hw⟩ := ok.allocOf i o d hi hst
      obtain ⟨e, he, hb, hon⟩ := waitsOn_spec hw
      have hlj : listed.getD j false = true := by rw [← hon]; exact hall e he hb
      obtain ⟨cs, hc, _, hz⟩ := inv.box j oj d hj haj hdj hlj
      have hns : ¬ Stored ops listed d := fun ⟨s, os, h1, h2, h3⟩ => by
        have := ok.ss s i os o d h1 hi h2 hst
        subst this
        exact hni h3
      obtain rfl := hz hns
      obtain ⟨w', hrun, hwr⟩ := hy (blk d) w hc
      have hFs := (K.agr ok i (by omega)).size
      have hsame := exec_same (ops := ops) (o := o) (a := a) (a' := (F i).put (some d) (mkVal (E d).2.2 (blk d))) (fun cs b => ok.sel i o cs b hi) (fun t ht => by
        by_cases htd : t = d
        · subst htd
          rw [inv.agr.onn j oj t hj hlj hdj, valOf_al hj haj hdj]
          simp only [Act.put, Array.getElem?_setIfInBounds, if_true, hFs]
          by_cases hlt : t < (F 0).tmps.size
          · simp [hlt]
          · simp [hlt]
        · rw [inv.looks ok K hi hr t ht (hyl t ht htd)]
          simp only [Act.put, Array.getElem?_setIfInBounds_ne (Ne.symm htd)])
      unfold wpOp
      simp only [hi, wanted_none _ (ok.guardS i o d hi hst), if_true]
      refine .inl ?_
      unfold Oper.wp
      rw [hsame.1, hrun, Oper.upon_skip]
      have hbl : W0.heap.size ≤ blk d := inv.low j oj d hj haj hdj hlj
      have hbel : Below W0.heap.size W0 w' := inv.bel.trans ⟨hwr.os, hwr.tape, hwr.output, by rw [hwr.size]; exact Nat.le_refl _, fun k hk => hwr.rest k (by omega)⟩
      refine ⟨blk, hsize, hclosed, hagr _ (fun d h => by rw [hdst] at h; cases h), hbel, fun k ok' e' hk ha he' hl => inv.low k ok' e' hk ha he' (hback k (halj k ok' hk ha) hl), fun k ok' e' hk ha he' hl => ?_,
        fun j k oj ok' e e' hj hk haj hak he he' hl hl' hee => inv.dist j k oj ok' e e' hj hk haj hak he he' (hback j (halj j oj hj haj) hl) (hback k (halj k ok' hk hak) hl') hee⟩
      have hlk := hback k (halj k ok' hk ha) hl
      by_cases hed : e' = d
      · subst hed
        exact ⟨C e', hwr.there, fun _ => rfl, fun hn => absurd ⟨i, o, hi, hst, set_self hil⟩ hn⟩
      · obtain ⟨cs', h1, h2, h3⟩ := inv.box k ok' e' hk ha he' hlk
        have hbb := inv.dist k j ok' oj e' d hk hj ha haj he' hdj hlk hlj hed
        have hstd : Stored ops (listed.setIfInBounds i true) e' ↔ Stored ops listed e' := by
          constructor
          · rintro ⟨s, os, h1, h2, h3⟩
            refine ⟨s, os, h1, h2, hback s (fun h => ?_) h3⟩
            subst h
            obtain rfl : o = os := Option.some.inj (hi.symm.trans h1)
            rw [hst] at h2
            exact hed (Option.some.inj h2).symm
          · rintro ⟨s, os, h1, h2, h3⟩
            exact ⟨s, os, h1, h2, getD_set_true h3⟩
        exact ⟨cs', (hwr.rest _ hbb).trans h1, fun hs => h2 (hstd.1 hs), fun hs => h3 (fun hs' => hs (hstd.2 hs'))⟩

/-- where nothing may come up, all has -/
theorem all_listed {listed : Array Bool} (ok : BoxOk md ops) (hs : listed.size = ops.size) (h : Region.ready md ops listed = []) : ∀ i, i < ops.size → listed.getD i false = true := by
  intro i
  induction i using Nat.strongRecOn with
  | _ i ih =>
    intro hi
    refine Classical.byContradiction fun hn => ?_
    have hf : listed.getD i false = false := by simpa using hn
    have hu : listed.getD i true = false := getD_in (by omega) hf
    have ho : ops[i]? = some ops[i] := Array.getElem?_eq_getElem hi
    have : i ∈ Region.ready md ops listed := mem_ready.2 ⟨hu, _, ho, fun e he hb => by
      have hlt := ok.back i _ ho e he hb
      exact ih e.on hlt (by omega)⟩
    rw [h] at this; cases this

theorem wpAny_of_inv {vals : Nat → Value} {E : Tmp → Ent} {C : Tmp → Array Value} {F : Nat → Act} {Q : Exit → Act → World → Prop} (ok : BoxOk md ops) (K : Known P ops W0 vals E C F)
    (hend : ∀ blk listed a w, BoxInv md ops W0 vals E C (F 0) blk listed a w → (∀ i, i < ops.size → listed.getD i false = true) → Q .normal a w) :
    ∀ (fuel : Nat) (blk : Tmp → Nat) (listed : Array Bool) (a : Act) (w : World), leftN ops listed ≤ fuel → BoxInv md ops W0 vals E C (F 0) blk listed a w → wpAny P md ops Q fuel listed a w
  | 0, blk, listed, a, w, hf, inv => by
    have hr : Region.ready md ops listed = [] := by
      cases hr : Region.ready md ops listed with
      | nil => rfl
      | cons i l =>
        have := leftN_set (ops := ops) (i := i) (md := md) (by rw [hr]; exact List.mem_cons_self) inv.size
        omega
    exact ⟨hr, hend blk listed a w inv (all_listed ok inv.size hr)⟩
  | fuel + 1, blk, listed, a, w, hf, inv => by
    refine ⟨fun hr => hend blk listed a w inv (all_listed ok inv.size hr), fun i hi => ?_⟩
    have hless := leftN_set hi inv.size
    refine wpOp_mono (fun a' w' ⟨blk', inv'⟩ => ?_) (inv.step ok K hi)
    exact wpAny_of_inv ok K hend fuel blk' _ a' w' (by omega) inv'
end
end Go.Proofs.YtdpfbpmdpdfpdaaDoor.Bld
namespace Go.Proofs.YtdpfbpmdpdfpdaaDoor.Bld
set_option linter.unusedVariables false
open Go Go.RowKit Go.Proofs.YtdpfbpmdpdfpdaaDoor
section
variable {P : Program} {ops : Array Oper} {md : Region.Mode} {W0 : World}

theorem lookup_none {β : Type} {d : Tmp} : ∀ {l : List (Tmp × β)}, l.lookup d = none → d ∉ l.map (·.1)
  | [], _ => by simp
  | (x, e) :: l, h => by
    by_cases hx : d = x
    · subst hx; simp [List.lookup] at h
    · rw [lookup_ne hx] at h
      have := lookup_none h
      simp only [List.map_cons, List.mem_cons, not_or]
      exact ⟨hx, this⟩
theorem lookup_mem {β : Type} {d : Tmp} {e : β} : ∀ {l : List (Tmp × β)}, l.lookup d = some e → (d, e) ∈ l
  | [], h => by simp [List.lookup] at h
  | (x, e') :: l, h => by
    by_cases hx : d = x
    · subst hx
      simp [List.lookup] at h
      subst h
      exact List.mem_cons_self
    · rw [lookup_ne hx] at h
      exact List.mem_cons_of_mem _ (lookup_mem h)
theorem lookup_of_mem {β : Type} {d : Tmp} {e : β} : ∀ {l : List (Tmp × β)}, (l.map (·.1)).Nodup → (d, e) ∈ l → l.lookup d = some e
  | [], _, h => by cases h
  | (x, e') :: l, hn, h => by
    simp only [List.map_cons, List.nodup_cons] at hn
    by_cases hx : d = x
    · subst hx
      rcases List.mem_cons.1 h with h | h
      · cases h; simp [List.lookup]
      · exact absurd (List.mem_map.2 ⟨_, h, rfl⟩) hn.1
    · rw [lookup_ne hx]
      rcases List.mem_cons.1 h with h | h
      · cases h; exact absurd rfl hx
      · exact lookup_of_mem hn.2 h
theorem putL_congr {E E' : Tmp → Ent} (blk : Tmp → Nat) : ∀ (l : List Tmp) (a : Act), (∀ d ∈ l, E d = E' d) → putL E blk l a = putL E' blk l a
  | [], _, _ => rfl
  | d :: l, a, h => by rw [putL, putL, h d List.mem_cons_self]; exact putL_congr blk l _ fun x hx => h x (List.mem_cons_of_mem _ hx)
theorem yieldsD_congr {E E' : Tmp → Ent} {ds : List Tmp} {o : Oper} {v : Value} {a : Act} (h : ∀ d ∈ ds, E d = E' d) (hy : yieldsD P ops W0 E ds o v a) : yieldsD P ops W0 E' ds o v a := fun blk => by
  have := hy blk
  rw [putL_congr blk ds a h] at this
  refine this.imp (fun ⟨h1, h2⟩ => ⟨h1, fun w hw hb => h2 w hw fun d hd => by rw [h d hd]; exact hb d hd⟩) id
def entOf (zs : List (Tmp × Ent)) (t : Tmp) : Ent := (zs.lookup t).getD (0, #[], none)
theorem entOf_mem {zs : List (Tmp × Ent)} (hn : (zs.map (·.1)).Nodup) {p : Tmp × Ent} (hp : p ∈ zs) : entOf zs p.1 = p.2 := by
  unfold entOf
  rw [lookup_of_mem hn (show (p.1, p.2) ∈ zs from hp)]
  rfl

def textB (P : Program) (ops : Array Oper) (W0 : World) (Q : List (Tmp × Ent) → List (Tmp × Array Value) → Act → Prop) : List Oper → List (Tmp × Ent) → List (Tmp × Array Value) → Act → Prop
  | [], zs, st, a => Q zs st a
  | o :: rest, zs, st, a =>
    if isAl o = true then ∃ (d : Tmp) (e : Ent), o.dst = some d ∧ zs.lookup d = none ∧ (∀ t ∈ o.looksAt ops, zs.lookup t = none) ∧ allocs P ops o e a ∧ textB P ops W0 Q rest ((d, e) :: zs) st a
    else match stAddr o with
      | some d => ∃ (e : Ent) (c : Array Value), zs.lookup d = some e ∧ st.lookup d = none ∧ (∀ t ∈ o.looksAt ops, t ≠ d → zs.lookup t = none) ∧ stores P o e d c a ∧ textB P ops W0 Q rest zs ((d, c) :: st) a
      | none => ∃ (v : Value) (ds : List Tmp), (∀ t ∈ o.looksAt ops, zs.lookup t ≠ none → t ∈ ds) ∧ (∀ d ∈ ds, d ∈ o.looksAt ops ∧ zs.lookup d ≠ none) ∧ yieldsD P ops W0 (entOf zs) ds o v a ∧ textB P ops W0 Q rest zs st (a.put o.dst v)

structure KnownFrom (P : Program) (ops : Array Oper) (W0 : World) (k : Nat) (vals : Nat → Value) (E : Tmp → Ent) (C : Tmp → Array Value) (F : Nat → Act) (zf : List (Tmp × Ent)) (sf : List (Tmp × Array Value)) : Prop where
  det : ∀ (i : Nat) (o : Oper), k ≤ i → ops[i]? = some o → isAl o = false → stAddr o = none → (∃ ds : List Tmp, yieldsD P ops W0 E ds o (vals i) (F i) ∧
      (∀ t ∈ o.looksAt ops, ∀ (j : Nat) (oj : Oper), ops[j]? = some oj → j < i → isAl oj = true → oj.dst = some t → t ∈ ds) ∧
      (∀ d ∈ ds, d ∈ o.looksAt ops ∧ ∃ (j : Nat) (oj : Oper), ops[j]? = some oj ∧ j < i ∧ isAl oj = true ∧ oj.dst = some d)) ∧ F (i + 1) = (F i).put o.dst (vals i)
  al : ∀ (i : Nat) (o : Oper) (d : Tmp), k ≤ i → ops[i]? = some o → isAl o = true → o.dst = some d → allocs P ops o (E d) (F i) ∧ (∀ t ∈ o.looksAt ops, ∀ (j : Nat) (oj : Oper), ops[j]? = some oj → j < i → isAl oj = true → oj.dst ≠ some t) ∧ F (i + 1) = F i ∧ (d, E d) ∈ zf
  st : ∀ (i : Nat) (o : Oper) (d : Tmp), k ≤ i → ops[i]? = some o → stAddr o = some d → stores P o (E d) d (C d) (F i) ∧ (∀ t ∈ o.looksAt ops, t ≠ d → ∀ (j : Nat) (oj : Oper), ops[j]? = some oj → j < i → isAl oj = true → oj.dst ≠ some t) ∧ F (i + 1) = F i ∧ (d, C d) ∈ sf
/-- what the walk of the text gives -/
theorem textB_get {Q : List (Tmp × Ent) → List (Tmp × Array Value) → Act → Prop} : ∀ (l : List Oper) (k : Nat) (zs : List (Tmp × Ent)) (st : List (Tmp × Array Value)) (a : Act), (∀ j, l[j]? = ops[k + j]?) →
    (zs.map (·.1)).Nodup → (st.map (·.1)).Nodup → (∀ t, zs.lookup t ≠ none ↔ ∃ (j : Nat) (oj : Oper), ops[j]? = some oj ∧ j < k ∧ isAl oj = true ∧ oj.dst = some t) →
    (∀ d ∈ st.map (·.1), ∃ (j : Nat) (oj : Oper), ops[j]? = some oj ∧ stAddr oj = some d) → textB P ops W0 Q l zs st a →
    ∃ (vals : Nat → Value) (E : Tmp → Ent) (C : Tmp → Array Value) (F : Nat → Act) (zf : List (Tmp × Ent)) (sf : List (Tmp × Array Value)), F k = a ∧ KnownFrom P ops W0 k vals E C F zf sf ∧
      (∀ p ∈ zf, E p.1 = p.2) ∧ (∀ p ∈ sf, C p.1 = p.2) ∧ (∀ p ∈ zs, p ∈ zf) ∧ (∀ p ∈ st, p ∈ sf) ∧ (zf.map (·.1)).Nodup ∧ (sf.map (·.1)).Nodup ∧
      (∀ d ∈ zf.map (·.1), ∃ (j : Nat) (oj : Oper), ops[j]? = some oj ∧ isAl oj = true ∧ oj.dst = some d) ∧ (∀ d ∈ sf.map (·.1), ∃ (j : Nat) (oj : Oper), ops[j]? = some oj ∧ stAddr oj = some d) ∧ Q zf sf (F (k + l.length))
  | [], k, zs, st, a, hl, hn, hs, hz, hst, h => by
    have hk : ∀ (i : Nat) (o : Oper), k ≤ i → ops[i]? ≠ some o := fun i o hi ho => by
      have := hl (i - k)
      rw [show k + (i - k) = i by omega, ho] at this
      simp at this
    refine ⟨fun _ => undef, entOf zs, fun d => (st.lookup d).getD #[], fun _ => a, zs, st, rfl, ⟨fun i o hi ho => absurd ho (hk i o hi), fun i o d hi ho => absurd ho (hk i o hi), fun i o d hi ho => absurd ho (hk i o hi)⟩,
      fun p hp => entOf_mem hn hp, fun p hp => by show (st.lookup p.1).getD #[] = p.2; rw [lookup_of_mem hs (show (p.1, p.2) ∈ st from hp)]; rfl, fun p hp => hp, fun p hp => hp, hn, hs, fun d hd => ?_, hst, h⟩
    have hne : zs.lookup d ≠ none := fun h0 => lookup_none h0 hd
    obtain ⟨j, oj, h1, _, h2, h3⟩ := (hz d).1 hne
    exact ⟨j, oj, h1, h2, h3⟩
  | o :: rest, k, zs, st, a, hl, hn, hs, hz, hst, h => by
    have ho : ops[k]? = some o := by simpa using (hl 0).symm
    have hl' : ∀ j, rest[j]? = ops[k + 1 + j]? := fun j => by
      have := hl (j + 1)
      rw [show k + 1 + j = k + (j + 1) by omega, ← this]
      simp
    have key : ∀ i, k ≤ i → i = k ∨ k + 1 ≤ i := fun i hi => by omega
    have hlen : k + (o :: rest).length = k + 1 + rest.length := by simp; omega
    by_cases hal : isAl o = true
    · simp only [textB, hal, if_true] at h
      obtain ⟨d, e, hd, hzd, hlk, ha, h⟩ := h
      have hz' : ∀ t, ((d, e) :: zs).lookup t ≠ none ↔ ∃ (j : Nat) (oj : Oper), ops[j]? = some oj ∧ j < k + 1 ∧ isAl oj = true ∧ oj.dst = some t := fun t => by
        by_cases ht : t = d
        · subst ht
          simp only [List.lookup, beq_self_eq_true, ne_eq, reduceCtorEq, not_false_eq_true, true_iff]
          exact ⟨k, o, ho, by omega, hal, hd⟩
        · rw [lookup_ne ht, hz t]
          constructor
          · rintro ⟨j, oj, h1, h2, h3⟩; exact ⟨j, oj, h1, by omega, h3⟩
          · rintro ⟨j, oj, h1, h2, h3, h4⟩
            refine ⟨j, oj, h1, ?_, h3, h4⟩
            refine Classical.byContradiction fun hn => ?_
            obtain rfl : j = k := by omega
            rw [ho] at h1; cases h1
            rw [hd] at h4
            exact ht (Option.some.inj h4).symm
      obtain ⟨vals, E, C, F, zf, sf, hF, K, hE, hC, hzf, hsf, n1, n2, g1, g2, hQ⟩ := textB_get rest (k + 1) _ st a hl' (by simp only [List.map_cons, List.nodup_cons]; exact ⟨lookup_none hzd, hn⟩) hs hz' hst h
      have hmem := hzf _ List.mem_cons_self
      have hEd : E d = e := hE _ hmem
      refine ⟨vals, E, C, fun i => if i = k then a else F i, zf, sf, by simp, ⟨fun i oi hi hoi ha' hs' => ?_, fun i oi d' hi hoi ha' hd' => ?_, fun i oi d' hi hoi hs' => ?_⟩, hE, hC, fun p hp => hzf p (List.mem_cons_of_mem _ hp), hsf, n1, n2, g1, g2, ?_⟩
      · rcases key i hi with rfl | hi'
        · rw [ho] at hoi; cases hoi; rw [hal] at ha'; cases ha'
        · have := K.det i oi hi' hoi ha' hs'
          simpa [show i ≠ k by omega, show i + 1 ≠ k by omega] using this
      · rcases key i hi with rfl | hi'
        · rw [ho] at hoi; cases hoi
          obtain rfl := Option.some.inj (hd.symm.trans hd')
          refine ⟨by simpa [hEd] using ha, fun t ht j oj hj hlt haj hdj => ?_, by simp [hF], by rw [hEd]; exact hmem⟩
          exact (hz t).2 ⟨j, oj, hj, hlt, haj, hdj⟩ (hlk t ht)
        · have := K.al i oi d' hi' hoi ha' hd'
          simpa [show i ≠ k by omega, show i + 1 ≠ k by omega] using this
      · rcases key i hi with rfl | hi'
        · rw [ho] at hoi; cases hoi; rw [isAl_stAddr hal] at hs'; cases hs'
        · have := K.st i oi d' hi' hoi hs'
          simpa [show i ≠ k by omega, show i + 1 ≠ k by omega] using this
      · rw [hlen]
        simp only [show k + 1 + rest.length ≠ k by omega, if_false]
        exact hQ
    · have hal' : isAl o = false := by simpa using hal
      simp only [textB, hal', Bool.false_eq_true, if_false] at h
      have hz' : ∀ t, zs.lookup t ≠ none ↔ ∃ (j : Nat) (oj : Oper), ops[j]? = some oj ∧ j < k + 1 ∧ isAl oj = true ∧ oj.dst = some t := fun t => by
        rw [hz t]
        constructor
        · rintro ⟨j, oj, h1, h2, h3⟩; exact ⟨j, oj, h1, by omega, h3⟩
        · rintro ⟨j, oj, h1, h2, h3, h4⟩
          refine ⟨j, oj, h1, ?_, h3, h4⟩
          refine Classical.byContradiction fun hn => ?_
          obtain rfl : j = k := by omega
          rw [ho] at h1; cases h1
          exact hal h3
      cases hst' : stAddr o with
      | some d =>
        simp only [hst'] at h
        obtain ⟨e, c, hzd, hsd, hlk, hss, h⟩ := h
        obtain ⟨vals, E, C, F, zf, sf, hF, K, hE, hC, hzf, hsf, n1, n2, g1, g2, hQ⟩ := textB_get rest (k + 1) zs _ a hl' hn (by simp only [List.map_cons, List.nodup_cons]; exact ⟨lookup_none hsd, hs⟩) hz' (fun x hx => by
          rcases List.mem_cons.1 hx with rfl | hx
          · exact ⟨k, o, ho, hst'⟩
          · exact hst x hx) h
        have hmem := hsf _ List.mem_cons_self
        have hCd : C d = c := hC _ hmem
        have hEd : E d = e := hE _ (hzf _ (lookup_mem hzd))
        refine ⟨vals, E, C, fun i => if i = k then a else F i, zf, sf, by simp, ⟨fun i oi hi hoi ha' hs' => ?_, fun i oi d' hi hoi ha' hd' => ?_, fun i oi d' hi hoi hs' => ?_⟩, hE, hC, hzf, fun p hp => hsf p (List.mem_cons_of_mem _ hp), n1, n2, g1, g2, ?_⟩
        · rcases key i hi with rfl | hi'
          · rw [ho] at hoi; cases hoi; rw [hst'] at hs'; cases hs'
          · have := K.det i oi hi' hoi ha' hs'
            simpa [show i ≠ k by omega, show i + 1 ≠ k by omega] using this
        · rcases key i hi with rfl | hi'
          · rw [ho] at hoi; cases hoi; rw [hal'] at ha'; cases ha'
          · have := K.al i oi d' hi' hoi ha' hd'
            simpa [show i ≠ k by omega, show i + 1 ≠ k by omega] using this
        · rcases key i hi with rfl | hi'
          · rw [ho] at hoi; cases hoi
            obtain rfl := Option.some.inj (hst'.symm.trans hs')
            refine ⟨by simpa [hEd, hCd] using hss, fun t ht htd j oj hj hlt haj hdj => ?_, by simp [hF], by rw [hCd]; exact hmem⟩
            exact (hz t).2 ⟨j, oj, hj, hlt, haj, hdj⟩ (hlk t ht htd)
          · have := K.st i oi d' hi' hoi hs'
            simpa [show i ≠ k by omega, show i + 1 ≠ k by omega] using this
        · rw [hlen]
          simp only [show k + 1 + rest.length ≠ k by omega, if_false]
          exact hQ
      | none =>
        simp only [hst'] at h
        obtain ⟨v, ds, hd1, hd2, hy, h⟩ := h
        obtain ⟨vals, E, C, F, zf, sf, hF, K, hE, hC, hzf, hsf, n1, n2, g1, g2, hQ⟩ := textB_get rest (k + 1) zs st _ hl' hn hs hz' hst h
        have hEE : ∀ d ∈ ds, entOf zs d = E d := fun d hd => by
          obtain ⟨e, he⟩ := Option.ne_none_iff_exists'.1 (hd2 d hd).2
          have hm := lookup_mem he
          rw [hE _ (hzf _ hm)]
          unfold entOf
          rw [he]
          rfl
        refine ⟨fun i => if i = k then v else vals i, E, C, fun i => if i = k then a else F i, zf, sf, by simp, ⟨fun i oi hi hoi ha' hs' => ?_, fun i oi d' hi hoi ha' hd' => ?_, fun i oi d' hi hoi hs' => ?_⟩, hE, hC, hzf, hsf, n1, n2, g1, g2, ?_⟩
        · rcases key i hi with rfl | hi'
          · rw [ho] at hoi; cases hoi
            refine ⟨⟨ds, by simpa using yieldsD_congr hEE hy, fun t ht j oj hj hlt haj hdj => hd1 t ht ((hz t).2 ⟨j, oj, hj, hlt, haj, hdj⟩), fun d hd => ⟨(hd2 d hd).1, ?_⟩⟩, by simp [hF]⟩
            exact (hz d).1 (hd2 d hd).2
          · have := K.det i oi hi' hoi ha' hs'
            simpa [show i ≠ k by omega, show i + 1 ≠ k by omega] using this
        · rcases key i hi with rfl | hi'
          · rw [ho] at hoi; cases hoi; rw [hal'] at ha'; cases ha'
          · have := K.al i oi d' hi' hoi ha' hd'
            simpa [show i ≠ k by omega, show i + 1 ≠ k by omega] using this
        · rcases key i hi with rfl | hi'
          · rw [ho] at hoi; cases hoi; rw [hst'] at hs'; cases hs'
          · have := K.st i oi d' hi' hoi hs'
            simpa [show i ≠ k by omega, show i + 1 ≠ k by omega] using this
        · rw [hlen]
          simp only [show k + 1 + rest.length ≠ k by omega, if_false]
          exact hQ
end
end Go.Proofs.YtdpfbpmdpdfpdaaDoor.Bld
namespace Go.Proofs.YtdpfbpmdpdfpdaaDoor.Bld
set_option linter.unusedVariables false
open Go Go.RowKit Go.Proofs.YtdpfbpmdpdfpdaaDoor
section
variable {P : Program} {ops : Array Oper} {md : Region.Mode} {W0 : World}

def putZ (blk : Tmp → Nat) : List (Tmp × Ent) → Act → Act
  | [], a => a
  | (d, e) :: l, a => putZ blk l (a.put (some d) (mkVal e.2.2 (blk d)))
theorem putZ_putL {E : Tmp → Ent} (blk : Tmp → Nat) : ∀ (l : List (Tmp × Ent)) (a : Act), (∀ p ∈ l, E p.1 = p.2) → putZ blk l a = putL E blk (l.map (·.1)) a
  | [], _, _ => rfl
  | (d, e) :: l, a, h => by
    have := h (d, e) List.mem_cons_self
    simp only at this
    rw [putZ, List.map_cons, putL, this]
    exact putZ_putL blk l _ fun p hp => h p (List.mem_cons_of_mem _ hp)
/-- what is laid and built comes to, in whatever order: other blocks, each new, each with its cells -/
def boxed (W0 : World) (Q : Exit → Act → World → Prop) (zf : List (Tmp × Ent)) (sf : List (Tmp × Array Value)) (a : Act) : Prop :=
  ∀ (blk : Tmp → Nat) (w : World), Below W0.heap.size W0 w → (∀ p ∈ zf, W0.heap.size ≤ blk p.1 ∧ w.heap[blk p.1]? = some (.cells ((sf.lookup p.1).getD p.2.2.1) p.2.1 (0, 0))) →
    (∀ p ∈ zf, ∀ q ∈ zf, p.1 ≠ q.1 → blk p.1 ≠ blk q.1) → Q .normal (putZ blk zf a) w
theorem wp_region_build {id : Nat} {Q : Exit → Act → World → Prop} {a : Act} {w : World} {l : List Oper} (W0 : World) (hm : P.follows .mixedOrders = true) (hB : boxB .any l.toArray = true)
    (h0 : Below W0.heap.size W0 w) (h : textB P l.toArray W0 (boxed W0 Q) l [] [] a) : (Code.region id l.toArray true).wp P Q a w := by
  have ok := boxB_spec hB
  obtain ⟨vals, E, C, F, zf, sf, hF, KF, hE, hC, _, _, n1, n2, g1, g2, hQ⟩ := textB_get (ops := l.toArray) l 0 [] [] a (fun j => by simp) (by simp) (by simp) (fun t => by simp [List.lookup]) (fun d hd => by simp at hd) h
  have K : Known P l.toArray W0 vals E C F := ⟨fun i o hi ha hs => KF.det i o (Nat.zero_le _) hi ha hs, fun i o d hi ha hd => by
    obtain ⟨h1, h2, h3, _⟩ := KF.al i o d (Nat.zero_le _) hi ha hd; exact ⟨h1, h2, h3⟩, fun i o d hi hs => by
    obtain ⟨h1, h2, h3, _⟩ := KF.st i o d (Nat.zero_le _) hi hs; exact ⟨h1, h2, h3⟩⟩
  refine wp_region_any hm ?_
  subst hF
  refine wpAny_of_inv ok K (fun blk listed a' w' inv hall => ?_) l.toArray.size (fun _ => 0) _ _ _ ?_ ⟨by simp, fun j oj _ hl => (by rw [getD_replicate_false] at hl; cases hl), ?_, h0.drew, fun i o d _ _ _ hl => (by rw [getD_replicate_false] at hl; cases hl), fun i o d _ _ _ hl => (by rw [getD_replicate_false] at hl; cases hl), fun i j oi oj d e _ _ _ _ _ _ hl => (by rw [getD_replicate_false] at hl; cases hl)⟩
  · have hn : l.toArray.size = l.length := by simp
    have hA := K.agr ok l.toArray.size (Nat.le_refl _)
    rw [hn] at hA
    have hlst : ∀ (i : Nat) (o : Oper), l.toArray[i]? = some o → listed.getD i false = true := fun i o hi => hall i (Array.getElem?_eq_some_iff.1 hi).1
    have hfin : a' = putZ blk zf (F l.length) := by
      rw [putZ_putL blk zf _ hE]
      have hd1 : a'.defers = (putL E blk (zf.map (·.1)) (F l.length)).defers := by rw [putL_defers, inv.agr.defers, hA.defers]
      have ht1 : a'.tmps = (putL E blk (zf.map (·.1)) (F l.length)).tmps := Array.ext_getElem? fun t => by
        by_cases hex : ∃ (i : Nat) (o : Oper), l.toArray[i]? = some o ∧ isAl o = true ∧ o.dst = some t
        · obtain ⟨i, o, hi, ha, hd⟩ := hex
          have hm := (KF.al i o t (Nat.zero_le _) hi ha hd).2.2.2
          rw [putL_in E blk _ _ (List.mem_map.2 ⟨_, hm, rfl⟩), inv.agr.onn i o t hi (hlst i o hi) hd, valOf_al hi ha hd]
          by_cases hlt : t < (F 0).tmps.size
          · simp [hlt, hA.size]
          · simp [hlt, hA.size]
        · rw [putL_out E blk _ _ (fun hm => by obtain ⟨j, oj, h1, h2, h3⟩ := g1 t hm; exact hex ⟨j, oj, h1, h2, h3⟩)]
          refine inv.agr.same hA t fun i o hi hd => ?_
          have hal : isAl o = false := by
            cases h : isAl o with
            | false => rfl
            | true => exact absurd ⟨i, o, hi, h, hd⟩ hex
          have hst : stAddr o = none := by
            cases h : stAddr o with
            | none => rfl
            | some e => have := ok.dstS i o e hi h; rw [this] at hd; cases hd
          have hlt := (Array.getElem?_eq_some_iff.1 hi).1
          rw [hn] at hlt
          exact ⟨⟨fun _ => ⟨hlt, o, hi, hal, hst⟩, fun _ => hlst i o hi⟩, fun _ => valOf_det hi hal⟩
      obtain ⟨tm, df⟩ := a'
      generalize putL E blk (zf.map (·.1)) (F l.length) = b at *
      obtain ⟨tm', df'⟩ := b
      simp only at hd1 ht1
      rw [hd1, ht1]
    rw [hfin]
    have hal : ∀ p ∈ zf, ∃ (i : Nat) (o : Oper), l.toArray[i]? = some o ∧ isAl o = true ∧ o.dst = some p.1 := fun p hp => by
      obtain ⟨j, oj, h1, h2, h3⟩ := g1 p.1 (List.mem_map.2 ⟨p, hp, rfl⟩)
      exact ⟨j, oj, h1, h2, h3⟩
    refine (show boxed W0 Q zf sf (F l.length) by simpa using hQ) blk w' inv.bel (fun p hp => ?_) (fun p hp q hq hne => ?_)
    · obtain ⟨i, o, hi, ha, hd⟩ := hal p hp
      obtain ⟨cs, h1, h2, h3⟩ := inv.box i o p.1 hi ha hd (hlst i o hi)
      refine ⟨inv.low i o p.1 hi ha hd (hlst i o hi), ?_⟩
      rw [h1, hE p hp]
      cases hs : sf.lookup p.1 with
      | some c =>
        have hm := lookup_mem hs
        obtain ⟨j, oj, e1, e2⟩ := g2 p.1 (List.mem_map.2 ⟨_, hm, rfl⟩)
        rw [h2 ⟨j, oj, e1, e2, hlst j oj e1⟩, hC _ hm]
        rfl
      | none =>
        have hns : ¬ Stored l.toArray listed p.1 := fun ⟨s, os, e1, e2, _⟩ => by
          have hm := (KF.st s os p.1 (Nat.zero_le _) e1 e2).2.2.2
          exact lookup_none hs (List.mem_map.2 ⟨_, hm, rfl⟩)
        rw [h3 hns, hE p hp]
        rfl
    · obtain ⟨i, o, hi, ha, hd⟩ := hal p hp
      obtain ⟨j, o', hj, ha', hd'⟩ := hal q hq
      exact inv.dist i j o o' p.1 q.1 hi hj ha ha' hd hd' (hlst i o hi) (hlst j o' hj) hne
  · unfold leftN
    have := List.countP_le_length (p := fun i => !(Array.replicate l.toArray.size false).getD i true) (l := List.range l.toArray.size)
    simpa using this
  · exact (Agr.refl (valOf l.toArray vals E fun _ => 0) _).congr (fun i o d _ _ => ⟨fun h => h.elim, fun h => by rw [getD_replicate_false] at h; cases h⟩) (fun _ _ _ _ _ h => h.elim)

section
variable {Q : List (Tmp × Ent) → List (Tmp × Array Value) → Act → Prop} {o : Oper} {rest : List Oper} {zs : List (Tmp × Ent)} {st : List (Tmp × Array Value)} {a : Act}
/-- of what an operation looks at, just these were laid -/
def dsOk (ops : Array Oper) (o : Oper) (zs : List (Tmp × Ent)) (ds : List Tmp) : Bool :=
  (o.looksAt ops).all (fun t => (zs.lookup t).isNone || ds.contains t) && ds.all fun d => (o.looksAt ops).contains d && (zs.lookup d).isSome
theorem dsOk_spec {ds : List Tmp} (h : dsOk ops o zs ds = true) : (∀ t ∈ o.looksAt ops, zs.lookup t ≠ none → t ∈ ds) ∧ (∀ d ∈ ds, d ∈ o.looksAt ops ∧ zs.lookup d ≠ none) := by
  simp only [dsOk, Bool.and_eq_true, List.all_eq_true] at h
  refine ⟨fun t ht hz => ?_, fun d hd => ?_⟩
  · have := h.1 t ht
    rw [Bool.or_eq_true] at this
    rcases this with h1 | h1
    · rw [Option.isNone_iff_eq_none] at h1; exact absurd h1 hz
    · simpa using h1
  · have := h.2 d hd
    refine ⟨by simpa using this.1, fun h0 => ?_⟩
    rw [h0] at this
    simp at this
theorem textB_det (v : Value) (h1 : isAl o = false) (h2 : stAddr o = none) (hd : dsOk ops o zs [] = true) (hw : Region.wanted o (yielded ops a.tmps) = true)
    (hy : ∀ w, Below W0.heap.size W0 w → comesTo P (fun w' => Below w.heap.size w w') v ((execOp a.eval o).run P w)) (h : textB P ops W0 Q rest zs st (a.put o.dst v)) : textB P ops W0 Q (o :: rest) zs st a := by
  simp only [textB, h1, h2, Bool.false_eq_true, if_false]
  exact ⟨v, [], (dsOk_spec hd).1, (dsOk_spec hd).2, fun blk => .inl ⟨hw, fun w hb _ => hy w hb⟩, h⟩
theorem textB_skip (h1 : isAl o = false) (h2 : stAddr o = none) (hd : dsOk ops o zs [] = true) (hw : Region.wanted o (yielded ops a.tmps) = false)
    (h : textB P ops W0 Q rest zs st (a.put o.dst undef)) : textB P ops W0 Q (o :: rest) zs st a := by
  simp only [textB, h1, h2, Bool.false_eq_true, if_false]
  exact ⟨undef, [], (dsOk_spec hd).1, (dsOk_spec hd).2, fun blk => .inr ⟨hw, rfl⟩, h⟩
/-- an operation that reads one slot that was laid -/
theorem textB_use (v : Value) (d : Tmp) (e : Ent) (h1 : isAl o = false) (h2 : stAddr o = none) (hd : dsOk ops o zs [d] = true) (he : zs.lookup d = some e) (hw : ∀ b, Region.wanted o (yielded ops (a.put (some d) (mkVal e.2.2 b)).tmps) = true)
    (hy : ∀ b w, Below W0.heap.size W0 w → W0.heap.size ≤ b → w.heap[b]? = some (.cells e.2.1 e.1 (0, 0)) → comesTo P (fun w' => Below w.heap.size w w') v ((execOp (a.put (some d) (mkVal e.2.2 b)).eval o).run P w))
    (h : textB P ops W0 Q rest zs st (a.put o.dst v)) : textB P ops W0 Q (o :: rest) zs st a := by
  simp only [textB, h1, h2, Bool.false_eq_true, if_false]
  have hE : entOf zs d = e := by unfold entOf; rw [he]; rfl
  refine ⟨v, [d], (dsOk_spec hd).1, (dsOk_spec hd).2, fun blk => .inl ?_, h⟩
  simp only [putL, hE]
  exact ⟨hw _, fun w hb hx => hy _ w hb (hx d List.mem_cons_self).1 (by have := (hx d List.mem_cons_self).2; rwa [hE] at this)⟩
theorem textB_alg (d : Tmp) (e : Ent) (h1 : isAl o = true) (hd : o.dst = some d) (hz : zs.lookup d = none) (hl : dsOk ops o zs [] = true) (hw : Region.wanted o (yielded ops a.tmps) = true) (ha : ∀ w, (execOp a.eval o).run P w = .ok (.value (mkVal e.2.2 w.heap.size)) (w.alloc (.cells e.2.1 e.1))) (h : textB P ops W0 Q rest ((d, e) :: zs) st a) : textB P ops W0 Q (o :: rest) zs st a := by
  simp only [textB, h1, if_true]
  refine ⟨d, e, hd, hz, fun t ht => Classical.byContradiction fun hn => ?_, ⟨hw, ha⟩, h⟩
  cases (dsOk_spec hl).1 t ht hn
theorem textB_al (d : Tmp) (e : Ent) (h1 : isAl o = true) (hd : o.dst = some d) (hz : zs.lookup d = none) (hl : dsOk ops o zs [] = true) (ha : ∀ w, (execOp a.eval o).run P w = .ok (.value (mkVal e.2.2 w.heap.size)) (w.alloc (.cells e.2.1 e.1))) (h : textB P ops W0 Q rest ((d, e) :: zs) st a) (hg : o.guard = none := by rfl) : textB P ops W0 Q (o :: rest) zs st a :=
  textB_alg d e h1 hd hz hl (wanted_none _ hg) ha h
theorem textB_st (d : Tmp) (e : Ent) (c : Array Value) (h1 : isAl o = false) (h2 : stAddr o = some d) (hz : zs.lookup d = some e) (hb : st.lookup d = none) (hl : dsOk ops o zs [d] = true) (hs : stores P o e d c a) (h : textB P ops W0 Q rest zs ((d, c) :: st) a) : textB P ops W0 Q (o :: rest) zs st a := by
  simp only [textB, h1, h2, Bool.false_eq_true, if_false]
  refine ⟨e, c, hz, hb, fun t ht htd => Classical.byContradiction fun hn => ?_, hs, h⟩
  have := (dsOk_spec hl).1 t ht hn
  simp at this
  exact htd this
end
end
end Go.Proofs.YtdpfbpmdpdfpdaaDoor.Bld
