/- The law of regions that lay boxes: the invariant of every order, and the walk of the text. The conditions: the edges' checks, by computation. -/
import Derived.Test.YtfakejfpicjedaaBox
namespace Go.Proofs.Ytfakejfpicjedaa
set_option linter.unusedVariables false
open Go Go.RowKit
section
variable {P : Program} {ops : Array Oper} {md : Region.Mode} {W0 : World}

/-- one block has been written, whole -/
structure WroteTo (b : Nat) (T : TypeId) (c : Array Value) (w w' : World) : Prop where
  os : w'.os = w.os
  tape : w'.tape = w.tape
  output : w'.output = w.output
  size : w'.heap.size = w.heap.size
  rest : ∀ k, k ≠ b → w'.heap[k]? = w.heap[k]?
  there : w'.heap[b]? = some (.cells c T (0, 0))
def yieldsB (P : Program) (ops : Array Oper) (W0 : World) (o : Oper) (v : Value) (a : Act) : Prop :=
  (Region.wanted o (yielded ops a.tmps) = true ∧ ∀ w, Below W0.heap.size W0 w → comesTo P (fun w' => Below w.heap.size w w') v ((execOp a.eval o).run P w)) ∨
  (Region.wanted o (yielded ops a.tmps) = false ∧ v = undef)
def allocs (P : Program) (o : Oper) (T : TypeId) (z : Array Value) : Prop := ∀ (ρ : Operand → Value) w, (execOp ρ o).run P w = .ok (.value (.pointer (some ⟨w.heap.size, 0, none⟩))) (w.alloc (.cells z T))
def stores (P : Program) (o : Oper) (T : TypeId) (d : Tmp) (z c : Array Value) (a : Act) : Prop :=
  ∀ b w, w.heap[b]? = some (.cells z T (0, 0)) → ∃ w', (execOp (a.put (some d) (.pointer (some ⟨b, 0, none⟩))).eval o).run P w = .ok .skip w' ∧ WroteTo b T c w w'

/-- what is known of the text's order: the values, the frames, what is laid and stored -/
structure Known (P : Program) (ops : Array Oper) (W0 : World) (vals : Nat → Value) (Z C : Tmp → Array Value) (TT : Tmp → TypeId) (F : Nat → Act) : Prop where
  det : ∀ (i : Nat) (o : Oper), ops[i]? = some o → isAl o = false → stAddr o = none → yieldsB P ops W0 o (vals i) (F i) ∧ F (i + 1) = (F i).put o.dst (vals i)
  al : ∀ (i : Nat) (o : Oper) (d : Tmp), ops[i]? = some o → isAl o = true → o.dst = some d → allocs P o (TT d) (Z d) ∧ F (i + 1) = F i
  st : ∀ (i : Nat) (o : Oper) (d : Tmp), ops[i]? = some o → stAddr o = some d → stores P o (TT d) d (Z d) (C d) (F i) ∧ F (i + 1) = F i
/-- an operation's value, where its block's number is known -/
def valOf (ops : Array Oper) (vals : Nat → Value) (blk : Tmp → Nat) (i : Nat) : Value :=
  match ops[i]? with
  | some o => if isAl o then (match o.dst with | some d => .pointer (some ⟨blk d, 0, none⟩) | none => vals i) else vals i
  | none => vals i
def isDet (ops : Array Oper) (i : Nat) : Prop := ∃ o, ops[i]? = some o ∧ isAl o = false ∧ stAddr o = none
theorem isAl_stAddr {o : Oper} (h : isAl o = true) : stAddr o = none := by
  unfold isAl at h; unfold stAddr
  split at h <;> simp_all
theorem valOf_det {vals : Nat → Value} {blk : Tmp → Nat} {i : Nat} {o : Oper} (hi : ops[i]? = some o) (h : isAl o = false) : valOf ops vals blk i = vals i := by simp [valOf, hi, h]
theorem valOf_al {vals : Nat → Value} {blk : Tmp → Nat} {i : Nat} {o : Oper} {d : Tmp} (hi : ops[i]? = some o) (h : isAl o = true) (hd : o.dst = some d) : valOf ops vals blk i = .pointer (some ⟨blk d, 0, none⟩) := by simp [valOf, hi, h, hd]

/-- the frame of the text's order, at each operation -/
theorem Known.agr {vals : Nat → Value} {Z C : Tmp → Array Value} {TT : Tmp → TypeId} {F : Nat → Act} (ok : BoxOk md ops) (K : Known P ops W0 vals Z C TT F) :
    ∀ k, k ≤ ops.size → Agr ops (fun j => j < k ∧ isDet ops j) vals (F 0) (F k)
  | 0, _ => (Agr.refl vals (F 0)).congr (fun i o d _ _ => by simp) (fun _ _ _ _ _ h => h.elim)
  | k + 1, hk => by
    have ih := Known.agr ok K k (by omega)
    have ho : ops[k]? = some ops[k] := Array.getElem?_eq_getElem (by omega)
    by_cases hal : isAl ops[k] = true
    · obtain ⟨d, hd, _⟩ := ok.dstA k _ ho hal
      rw [(K.al k _ d ho hal hd).2]
      refine ih.congr (fun i o d hi hd' => ⟨fun h => ⟨by omega, h.2⟩, fun h => ⟨?_, h.2⟩⟩) (fun _ _ _ _ _ _ => rfl)
      refine Classical.byContradiction fun hn => ?_
      obtain rfl : i = k := by omega
      obtain ⟨o', h1, h2, _⟩ := h.2
      rw [ho] at h1; cases h1
      rw [hal] at h2; cases h2
    · cases hst : stAddr ops[k] with
      | some d =>
        rw [(K.st k _ d ho hst).2]
        refine ih.congr (fun i o d hi hd' => ⟨fun h => ⟨by omega, h.2⟩, fun h => ⟨?_, h.2⟩⟩) (fun _ _ _ _ _ _ => rfl)
        refine Classical.byContradiction fun hn => ?_
        obtain rfl : i = k := by omega
        obtain ⟨o', h1, _, h2⟩ := h.2
        rw [ho] at h1; cases h1
        rw [hst] at h2; cases h2
      | none =>
        have hal' : isAl ops[k] = false := by simpa using hal
        rw [(K.det k _ ho hal' hst).2]
        refine (ih.put ok.dd ho (fun h => by omega) (vals k)).congr (fun i o d hi hd' => ⟨fun h => ?_, fun h => ?_⟩) (fun i o d hi hd' h => ?_)
        · rcases h with h | rfl
          · exact ⟨by omega, h.2⟩
          · exact ⟨by omega, _, ho, hal', hst⟩
        · by_cases hik : i = k
          · exact .inr hik
          · exact .inl ⟨by omega, h.2⟩
        · by_cases hik : i = k
          · simp [hik]
          · simp [hik]

def Stored (ops : Array Oper) (listed : Array Bool) (d : Tmp) : Prop := ∃ (s : Nat) (os : Oper), ops[s]? = some os ∧ stAddr os = some d ∧ listed.getD s false = true
/-- what holds in every order, behind some operations -/
structure BoxInv (md : Region.Mode) (ops : Array Oper) (W0 : World) (vals : Nat → Value) (Z C : Tmp → Array Value) (TT : Tmp → TypeId) (a0 : Act) (blk : Tmp → Nat) (listed : Array Bool) (a : Act) (w : World) : Prop where
  size : listed.size = ops.size
  closed : ∀ (j : Nat) (oj : Oper), ops[j]? = some oj → listed.getD j false = true → ∀ e ∈ oj.after, Region.binds md e = true → listed.getD e.on false = true
  agr : Agr ops (fun i => listed.getD i false = true) (valOf ops vals blk) a0 a
  bel : Below W0.heap.size W0 w
  low : ∀ (i : Nat) (o : Oper) (d : Tmp), ops[i]? = some o → isAl o = true → o.dst = some d → listed.getD i false = true → W0.heap.size ≤ blk d
  box : ∀ (i : Nat) (o : Oper) (d : Tmp), ops[i]? = some o → isAl o = true → o.dst = some d → listed.getD i false = true →
    ∃ cs, w.heap[blk d]? = some (.cells cs (TT d) (0, 0)) ∧ (Stored ops listed d → cs = C d) ∧ (¬ Stored ops listed d → cs = Z d)
  dist : ∀ (i j : Nat) (oi oj : Oper) (d e : Tmp), ops[i]? = some oi → ops[j]? = some oj → isAl oi = true → isAl oj = true → oi.dst = some d → oj.dst = some e → listed.getD i false = true → listed.getD j false = true → d ≠ e → blk d ≠ blk e

theorem waitsOn_spec {o : Oper} {j : Nat} (h : waitsOn md o j = true) : ∃ e ∈ o.after, Region.binds md e = true ∧ e.on = j := by
  obtain ⟨e, he, h⟩ := Array.any_eq_true'.1 h
  simp only [Bool.and_eq_true, beq_iff_eq] at h
  exact ⟨e, he, h.1, h.2⟩
theorem set_self {listed : Array Bool} {i : Nat} (h : i < listed.size) : (listed.setIfInBounds i true).getD i false = true := by simp [h]
theorem set_back {listed : Array Bool} {i j : Nat} (h : (listed.setIfInBounds i true).getD j false = true) : listed.getD j false = true ∨ j = i := by
  by_cases hij : i = j
  · exact .inr hij.symm
  · rw [getD_set_ne false hij] at h; exact .inl h
theorem not_listed {listed : Array Bool} {i : Nat} (h : listed.getD i true = false) : ¬ listed.getD i false = true := by rw [getD_both h]; simp
/-- what an operation looks at is as in the text's order -/
theorem BoxInv.looks {vals : Nat → Value} {Z C : Tmp → Array Value} {TT : Tmp → TypeId} {F : Nat → Act} {blk : Tmp → Nat} {listed : Array Bool} {a : Act} {w : World} (ok : BoxOk md ops) (K : Known P ops W0 vals Z C TT F)
    (inv : BoxInv md ops W0 vals Z C TT (F 0) blk listed a w) {i : Nat} {o : Oper} (hi : ops[i]? = some o) (hr : i ∈ Region.ready md ops listed) (t : Tmp) (ht : t ∈ o.looksAt ops) (hne : stAddr o ≠ some t) : a.tmps[t]? = (F i).tmps[t]? := by
  have hin : i < ops.size := (Array.getElem?_eq_some_iff.1 hi).1
  obtain ⟨hun, o', ho', hall⟩ := mem_ready.1 hr
  obtain rfl : o' = o := Option.some.inj (ho'.symm.trans hi)
  refine inv.agr.same (K.agr ok i (by omega)) t fun j oj hj hd => ?_
  rcases ok.look i j o' oj t hi hj hd ht with rfl | ⟨hlt, hw, hsp⟩ | ⟨hlt, hw⟩
  · refine ⟨⟨fun h => absurd h (not_listed hun), fun h => by omega⟩, fun h => absurd h (not_listed hun)⟩
  · obtain ⟨e, he, hb, rfl⟩ := waitsOn_spec hw
    have hl := hall e he hb
    have hal : isAl oj = false := by
      cases h : isAl oj with
      | false => rfl
      | true => exact absurd (hsp h) hne
    have hst : stAddr oj = none := by
      cases h : stAddr oj with
      | none => rfl
      | some d => have := ok.dstS _ _ _ hj h; rw [this] at hd; cases hd
    exact ⟨⟨fun _ => ⟨hlt, oj, hj, hal, hst⟩, fun _ => hl⟩, fun _ => valOf_det hj hal⟩
  · obtain ⟨e, he, hb, he'⟩ := waitsOn_spec hw
    have hn : ¬ listed.getD j false = true := fun h => by
      have := inv.closed j oj hj h e he hb
      rw [he'] at this
      exact not_listed hun this
    exact ⟨⟨fun h => absurd h hn, fun h => by omega⟩, fun h => absurd h hn⟩

theorem wanted_none {o : Oper} (y : Nat → Option Bool) (h : o.guard = none) : Region.wanted o y = true := by simp [Region.wanted, h]
theorem blk_lt {w : World} {b : Nat} {cs : Array Value} {T : TypeId} (h : w.heap[b]? = some (.cells cs T (0, 0))) : b < w.heap.size := (Array.getElem?_eq_some_iff.1 h).1
/-- a step keeps the invariant -/
theorem BoxInv.step {vals : Nat → Value} {Z C : Tmp → Array Value} {TT : Tmp → TypeId} {F : Nat → Act} {blk : Tmp → Nat} {listed : Array Bool} {a : Act} {w : World} {Q : Exit → Act → World → Prop} (ok : BoxOk md ops) (K : Known P ops W0 vals Z C TT F)
    (inv : BoxInv md ops W0 vals Z C TT (F 0) blk listed a w) {i : Nat} (hr : i ∈ Region.ready md ops listed) :
    wpOp P ops Q i (fun a' w' => ∃ blk', BoxInv md ops W0 vals Z C TT (F 0) blk' (listed.setIfInBounds i true) a' w') a w := by
  obtain ⟨hun, o, hi, hall⟩ := mem_ready.1 hr
  have hin : i < ops.size := (Array.getElem?_eq_some_iff.1 hi).1
  have hni := not_listed hun
  have hil : i < listed.size := by rw [inv.size]; exact hin
  have hsize : (listed.setIfInBounds i true).size = ops.size := by simp [inv.size]
  have hclosed : ∀ (j : Nat) (oj : Oper), ops[j]? = some oj → (listed.setIfInBounds i true).getD j false = true → ∀ e ∈ oj.after, Region.binds md e = true → (listed.setIfInBounds i true).getD e.on false = true := fun j oj hj hl e he hb => by
    rcases set_back hl with h | rfl
    · exact getD_set_true (inv.closed j oj hj h e he hb)
    · obtain rfl : o = oj := Option.some.inj (hi.symm.trans hj)
      exact getD_set_true (hall e he hb)
  have hback : ∀ j, j ≠ i → (listed.setIfInBounds i true).getD j false = true → listed.getD j false = true := fun j hne h => (set_back h).resolve_right hne
  cases hal : isAl o with
  | true =>
    obtain ⟨d, hd, s, os, hs, hsd⟩ := ok.dstA i o hi hal
    have hK := (K.al i o d hi hal hd).1
    unfold wpOp
    simp only [hi, wanted_none _ (ok.guardA i o hi hal), if_true]
    refine .inl ?_
    unfold Oper.wp
    rw [hK a.eval w, Oper.upon_value]
    have hne : ∀ j oj e, ops[j]? = some oj → isAl oj = true → oj.dst = some e → listed.getD j false = true → e ≠ d := fun j oj e hj _ he hl heq => by
      subst heq
      have := ok.dd j i oj o e hj hi he hd
      subst this
      exact hni hl
    refine ⟨fun e => if e = d then w.heap.size else blk e, hsize, hclosed, ?_, inv.bel.alloc inv.bel.size _, fun j oj e hj ha he hl => ?_, fun j oj e hj ha he hl => ?_, fun j k oj ok' e e' hj hk haj hak he he' hl hl' hee => ?_⟩
    · refine (inv.agr.put ok.dd hi hni _).congr (fun j oj e hj he => ⟨fun h => ?_, fun h => ?_⟩) (fun j oj e hj he hl => ?_)
      · rcases h with h | rfl
        · exact getD_set_true h
        · exact set_self hil
      · exact set_back h
      · by_cases hji : j = i
        · subst hji
          obtain rfl : o = oj := Option.some.inj (hi.symm.trans hj)
          simp [valOf, hi, hal, hd]
        · simp only [hji, if_false]
          cases haj : isAl oj with
          | false => rw [valOf_det hj haj, valOf_det hj haj]
          | true =>
            have := hne j oj e hj haj he (hl.resolve_right hji)
            rw [valOf_al hj haj he, valOf_al hj haj he]
            simp [this]
    · rcases set_back hl with h | rfl
      · have := hne j oj e hj ha he h
        simp only [this, if_false]
        exact inv.low j oj e hj ha he h
      · obtain rfl : o = oj := Option.some.inj (hi.symm.trans hj)
        obtain rfl : d = e := Option.some.inj (hd.symm.trans he)
        simp only [if_true]
        exact inv.bel.size
    · have hst : ∀ e, Stored ops (listed.setIfInBounds i true) e ↔ Stored ops listed e := fun e => by
        constructor
        · rintro ⟨s, os, h1, h2, h3⟩
          refine ⟨s, os, h1, h2, hback s (fun h => ?_) h3⟩
          subst h
          obtain rfl : o = os := Option.some.inj (hi.symm.trans h1)
          rw [isAl_stAddr hal] at h2; cases h2
        · rintro ⟨s, os, h1, h2, h3⟩
          exact ⟨s, os, h1, h2, getD_set_true h3⟩
      rcases set_back hl with h | rfl
      · have hed := hne j oj e hj ha he h
        obtain ⟨cs, h1, h2, h3⟩ := inv.box j oj e hj ha he h
        refine ⟨cs, ?_, fun hs => h2 ((hst e).1 hs), fun hs => h3 (fun hs' => hs ((hst e).2 hs'))⟩
        simp only [hed, if_false]
        rw [Below.heap_alloc _ _ _ (blk_lt h1)]
        exact h1
      · obtain rfl : o = oj := Option.some.inj (hi.symm.trans hj)
        obtain rfl : d = e := Option.some.inj (hd.symm.trans he)
        refine ⟨Z d, by simp only [if_true]; show (w.heap.push _)[w.heap.size]? = _; simp, fun hs' => ?_, fun _ => rfl⟩
        obtain ⟨s', os', h1, h2, h3⟩ := (hst d).1 hs'
        obtain ⟨j', oj', hj', haj', hdj', hw'⟩ := ok.allocOf s' os' d h1 h2
        have : j' = j := ok.dd j' j oj' o d hj' hi hdj' hd
        subst this
        obtain ⟨e, he', hb, hon⟩ := waitsOn_spec hw'
        have := inv.closed s' os' h1 h3 e he' hb
        rw [hon] at this
        exact absurd this hni
    · have key : ∀ j oj e, ops[j]? = some oj → isAl oj = true → oj.dst = some e → listed.getD j false = true → blk e < w.heap.size := fun j oj e hj ha he hl => by
        obtain ⟨cs, h1, _⟩ := inv.box j oj e hj ha he hl
        exact blk_lt h1
      rcases set_back hl with h | rfl
      · have h1 := hne j oj e hj haj he h
        have b1 := key j oj e hj haj he h
        rcases set_back hl' with h' | rfl
        · have h2 := hne k ok' e' hk hak he' h'
          simp only [h1, h2, if_false]
          exact inv.dist j k oj ok' e e' hj hk haj hak he he' h h' hee
        · obtain rfl : o = ok' := Option.some.inj (hi.symm.trans hk)
          obtain rfl : d = e' := Option.some.inj (hd.symm.trans he')
          simp only [h1, if_false, if_true]
          omega
      · obtain rfl : o = oj := Option.some.inj (hi.symm.trans hj)
        obtain rfl : d = e := Option.some.inj (hd.symm.trans he)
        rcases set_back hl' with h' | rfl
        · have h2 := hne k ok' e' hk hak he' h'
          have b1 := key k ok' e' hk hak he' h'
          simp only [h2, if_false, if_true]
          omega
        · obtain rfl : o = ok' := Option.some.inj (hi.symm.trans hk)
          exact absurd (Option.some.inj (hd.symm.trans he')) hee
  | false =>
    have hagr : ∀ v, (∀ d, o.dst = some d → v = vals i) → Agr ops (fun j => (listed.setIfInBounds i true).getD j false = true) (valOf ops vals blk) (F 0) (a.put o.dst v) := fun v hv => by
      refine (inv.agr.put ok.dd hi hni _).congr (fun j oj e hj he => ⟨fun h => ?_, fun h => ?_⟩) (fun j oj e hj he hl => ?_)
      · rcases h with h | rfl
        · exact getD_set_true h
        · exact set_self hil
      · exact set_back h
      · by_cases hji : j = i
        · subst hji
          obtain rfl : o = oj := Option.some.inj (hi.symm.trans hj)
          simp only [if_true]
          rw [valOf_det hi hal, hv e he]
        · simp only [hji, if_false]
    have halj : ∀ j oj, ops[j]? = some oj → isAl oj = true → j ≠ i := fun j oj hj ha h => by
      subst h
      obtain rfl : o = oj := Option.some.inj (hi.symm.trans hj)
      rw [hal] at ha; cases ha
    cases hst : stAddr o with
    | none =>
      obtain ⟨hy, hF⟩ := K.det i o hi hal hst
      have hsame := exec_same (ops := ops) (o := o) (a := a) (a' := F i) (fun cs b => ok.sel i o cs b hi) (fun t ht => inv.looks ok K hi hr t ht (by rw [hst]; simp))
      have hstd : ∀ e, Stored ops (listed.setIfInBounds i true) e ↔ Stored ops listed e := fun e => by
        constructor
        · rintro ⟨s, os, h1, h2, h3⟩
          refine ⟨s, os, h1, h2, hback s (fun h => ?_) h3⟩
          subst h
          obtain rfl : o = os := Option.some.inj (hi.symm.trans h1)
          rw [hst] at h2; cases h2
        · rintro ⟨s, os, h1, h2, h3⟩
          exact ⟨s, os, h1, h2, getD_set_true h3⟩
      have done : ∀ w', Below w.heap.size w w' → ∃ blk', BoxInv md ops W0 vals Z C TT (F 0) blk' (listed.setIfInBounds i true) (a.put o.dst (vals i)) w' := fun w' hb => by
        refine ⟨blk, hsize, hclosed, hagr _ fun _ _ => rfl, inv.bel.trans (hb.mono inv.bel.size), fun j oj e hj ha he hl => inv.low j oj e hj ha he (hback j (halj j oj hj ha) hl), fun j oj e hj ha he hl => ?_,
          fun j k oj ok' e e' hj hk haj hak he he' hl hl' hee => inv.dist j k oj ok' e e' hj hk haj hak he he' (hback j (halj j oj hj haj) hl) (hback k (halj k ok' hk hak) hl') hee⟩
        obtain ⟨cs, h1, h2, h3⟩ := inv.box j oj e hj ha he (hback j (halj j oj hj ha) hl)
        exact ⟨cs, (hb.block _ (blk_lt h1)).trans h1, fun hs => h2 ((hstd e).1 hs), fun hs => h3 (fun hs' => hs ((hstd e).2 hs'))⟩
      unfold wpOp
      simp only [hi]
      rcases hy with ⟨hw, hy⟩ | ⟨hw, hv⟩
      · rw [← hsame.2] at hw
        simp only [hw, if_true]
        refine .inl ?_
        have h1 := hy w inv.bel
        unfold Oper.wp
        rw [hsame.1]
        generalize (execOp (F i).eval o).run P w = r at *
        cases r with
        | ok n w' =>
          cases n <;> simp only [comesTo] at h1 <;> simp only [Oper.upon]
          case value u => obtain ⟨rfl, h2⟩ := h1; exact done _ h2
          case skip => obtain ⟨h0, h2⟩ := h1; rw [← h0]; exact done _ h2
          case enter f args => exact h1.mono fun e w'' ⟨he, h2⟩ => by subst he; exact done _ h2
        | halt x w' => simp only [comesTo] at h1
      · rw [← hsame.2] at hw
        simp only [hw, Bool.false_eq_true, if_false]
        rw [← hv]
        exact done w (Below.refl _ _)
    | some d =>
      obtain ⟨hy, hF⟩ := K.st i o d hi hst
      have hdst := ok.dstS i o d hi hst
      obtain ⟨j, oj, hj, haj, hdj, hw⟩ := ok.allocOf i o d hi hst
      obtain ⟨e, he, hb, hon⟩ := waitsOn_spec hw
      have hlj : listed.getD j false = true := by rw [← hon]; exact hall e he hb
      obtain ⟨cs, hc, _, hz⟩ := inv.box j oj d hj haj hdj hlj
      have hns : ¬ Stored ops listed d := fun ⟨s, os, h1, h2, h3⟩ => by
        have := ok.ss s i os o d h1 hi h2 hst
        subst this
        exact hni h3
      obtain rfl := hz hns
      obtain ⟨w', hrun, hwr⟩ := hy (blk d) w hc
      have hFs := (K.agr ok i (by omega)).size
      have hsame := exec_same (ops := ops) (o := o) (a := a) (a' := (F i).put (some d) (.pointer (some ⟨blk d, 0, none⟩))) (fun cs b => ok.sel i o cs b hi) (fun t ht => by
        by_cases htd : t = d
        · subst htd
          rw [inv.agr.onn j oj t hj hlj hdj, valOf_al hj haj hdj]
          simp only [Act.put, Array.getElem?_setIfInBounds, if_true, hFs]
          by_cases hlt : t < (F 0).tmps.size
          · simp [hlt]
          · simp [hlt]
        · rw [inv.looks ok K hi hr t ht (by rw [hst]; exact fun h => htd (Option.some.inj h).symm)]
          simp only [Act.put, Array.getElem?_setIfInBounds_ne (Ne.symm htd)])
      unfold wpOp
      simp only [hi, wanted_none _ (ok.guardS i o d hi hst), if_true]
      refine .inl ?_
      unfold Oper.wp
      rw [hsame.1, hrun, Oper.upon_skip]
      have hbl : W0.heap.size ≤ blk d := inv.low j oj d hj haj hdj hlj
      have hbel : Below W0.heap.size W0 w' := inv.bel.trans ⟨hwr.os, hwr.tape, hwr.output, by rw [hwr.size]; exact Nat.le_refl _, fun k hk => hwr.rest k (by omega)⟩
      refine ⟨blk, hsize, hclosed, hagr _ (fun d h => by rw [hdst] at h; cases h), hbel, fun k ok' e' hk ha he' hl => inv.low k ok' e' hk ha he' (hback k (halj k ok' hk ha) hl), fun k ok' e' hk ha he' hl => ?_,
        fun j k oj ok' e e' hj hk haj hak he he' hl hl' hee => inv.dist j k oj ok' e e' hj hk haj hak he he' (hback j (halj j oj hj haj) hl) (hback k (halj k ok' hk hak) hl') hee⟩
      have hlk := hback k (halj k ok' hk ha) hl
      by_cases hed : e' = d
      · subst hed
        exact ⟨C e', hwr.there, fun _ => rfl, fun hn => absurd ⟨i, o, hi, hst, set_self hil⟩ hn⟩
      · obtain ⟨cs', h1, h2, h3⟩ := inv.box k ok' e' hk ha he' hlk
        have hbb := inv.dist k j ok' oj e' d hk hj ha haj he' hdj hlk hlj hed
        have hstd : Stored ops (listed.setIfInBounds i true) e' ↔ Stored ops listed e' := by
          constructor
          · rintro ⟨s, os, h1, h2, h3⟩
            refine ⟨s, os, h1, h2, hback s (fun h => ?_) h3⟩
            subst h
            obtain rfl : o = os := Option.some.inj (hi.symm.trans h1)
            rw [hst] at h2
            exact hed (Option.some.inj h2).symm
          · rintro ⟨s, os, h1, h2, h3⟩
            exact ⟨s, os, h1, h2, getD_set_true h3⟩
        exact ⟨cs', (hwr.rest _ hbb).trans h1, fun hs => h2 (hstd.1 hs), fun hs => h3 (fun hs' => hs (hstd.2 hs'))⟩

/-- how many operations are left -/
def leftN (ops : Array Oper) (listed : Array Bool) : Nat := (List.range ops.size).countP fun i => !listed.getD i true
theorem countP_less {α : Type} {p q : α → Bool} : ∀ (l : List α), (∀ x ∈ l, q x = true → p x = true) → (∃ x ∈ l, p x = true ∧ q x = false) → l.countP q < l.countP p
  | [], _, h => by obtain ⟨x, hx, _⟩ := h; cases hx
  | y :: l, hall, h => by
    have hle : l.countP q ≤ l.countP p := List.countP_mono_left fun x hx => hall x (List.mem_cons_of_mem _ hx)
    rw [List.countP_cons, List.countP_cons]
    obtain ⟨x, hx, hp, hq⟩ := h
    rcases List.mem_cons.1 hx with rfl | hx
    · simp only [hp, hq, if_true, Bool.false_eq_true, if_false]; omega
    · have ih := countP_less l (fun x hx => hall x (List.mem_cons_of_mem _ hx)) ⟨x, hx, hp, hq⟩
      have := hall y List.mem_cons_self
      by_cases hy : q y = true
      · simp only [hy, this hy, if_true]; omega
      · have hy' : q y = false := by simpa using hy
        simp only [hy', Bool.false_eq_true, if_false]
        split <;> omega
theorem leftN_set {listed : Array Bool} {i : Nat} (hr : i ∈ Region.ready md ops listed) (hs : listed.size = ops.size) : leftN ops (listed.setIfInBounds i true) < leftN ops listed := by
  obtain ⟨hun, o, hi, _⟩ := mem_ready.1 hr
  have hin : i < ops.size := (Array.getElem?_eq_some_iff.1 hi).1
  refine countP_less _ (fun x _ hx => ?_) ⟨i, List.mem_range.2 hin, by simpa using hun, by simp [hs, hin]⟩
  by_cases hxi : i = x
  · subst hxi; simp [hs, hin] at hx
  · rw [getD_set_ne true hxi] at hx; exact hx
/-- where nothing may come up, all has -/
theorem all_listed {listed : Array Bool} (ok : BoxOk md ops) (hs : listed.size = ops.size) (h : Region.ready md ops listed = []) : ∀ i, i < ops.size → listed.getD i false = true := by
  intro i
  induction i using Nat.strongRecOn with
  | _ i ih =>
    intro hi
    refine Classical.byContradiction fun hn => ?_
    have hf : listed.getD i false = false := by simpa using hn
    have hu : listed.getD i true = false := getD_in (by omega) hf
    have ho : ops[i]? = some ops[i] := Array.getElem?_eq_getElem hi
    have : i ∈ Region.ready md ops listed := mem_ready.2 ⟨hu, _, ho, fun e he hb => by
      have hlt := ok.back i _ ho e he hb
      exact ih e.on hlt (by omega)⟩
    rw [h] at this; cases this

theorem wpAny_of_inv {vals : Nat → Value} {Z C : Tmp → Array Value} {TT : Tmp → TypeId} {F : Nat → Act} {Q : Exit → Act → World → Prop} (ok : BoxOk md ops) (K : Known P ops W0 vals Z C TT F)
    (hend : ∀ blk listed a w, BoxInv md ops W0 vals Z C TT (F 0) blk listed a w → (∀ i, i < ops.size → listed.getD i false = true) → Q .normal a w) :
    ∀ (fuel : Nat) (blk : Tmp → Nat) (listed : Array Bool) (a : Act) (w : World), leftN ops listed ≤ fuel → BoxInv md ops W0 vals Z C TT (F 0) blk listed a w → wpAny P md ops Q fuel listed a w
  | 0, blk, listed, a, w, hf, inv => by
    have hr : Region.ready md ops listed = [] := by
      cases hr : Region.ready md ops listed with
      | nil => rfl
      | cons i l =>
        have := leftN_set (ops := ops) (i := i) (md := md) (by rw [hr]; exact List.mem_cons_self) inv.size
        omega
    exact ⟨hr, hend blk listed a w inv (all_listed ok inv.size hr)⟩
  | fuel + 1, blk, listed, a, w, hf, inv => by
    refine ⟨fun hr => hend blk listed a w inv (all_listed ok inv.size hr), fun i hi => ?_⟩
    have hless := leftN_set hi inv.size
    refine wpOp_mono (fun a' w' ⟨blk', inv'⟩ => ?_) (inv.step ok K hi)
    exact wpAny_of_inv ok K hend fuel blk' _ a' w' (by omega) inv'
end
end Go.Proofs.Ytfakejfpicjedaa
