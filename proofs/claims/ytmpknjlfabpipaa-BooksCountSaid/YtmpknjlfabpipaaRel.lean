/- A law of regions that draw their order, told by relations: each operation yields a value of which something is known that stays so while the world goes on (a new row, a text, a pointer), or one value; what an operation looks at is known by then. The conditions: the edges' checks, by computation. -/
import Derived.Test.YtmpknjlfabpipaaBoxC
namespace Go.Proofs.Ytmpknjlfabpipaa
set_option linter.unusedVariables false
open Go Go.RowKit
namespace Rl
section
variable {P : Program} {ops : Array Oper} {md : Region.Mode} {Gr : World → World → Prop} {W0 : World}

/-- what is asked of a region's edges -/
def relB (md : Region.Mode) (ops : Array Oper) : Bool :=
  Region.noSelect ops && (List.range ops.size).all fun i => match ops[i]? with
    | none => true
    | some oi =>
      oi.after.all (fun e => !Region.binds md e || decide (e.on < i)) &&
      (List.range ops.size).all fun j => match ops[j]? with
        | none => true
        | some oj => j == i || ((oi.dst.isNone || oj.dst != oi.dst) &&
            (match oj.dst with
              | none => true
              | some t => !(oi.looksAt ops).contains t || (decide (j < i) && waitsOn md oi j) || (decide (i < j) && waitsOn md oj i)))
structure RelOk (md : Region.Mode) (ops : Array Oper) : Prop where
  sel : ∀ (j : Nat) (o : Oper) cs b, ops[j]? = some o → o.op ≠ .select cs b
  back : ∀ (i : Nat) (oi : Oper), ops[i]? = some oi → ∀ e ∈ oi.after, Region.binds md e = true → e.on < i
  dd : ∀ (i j : Nat) (oi oj : Oper) (d : Tmp), ops[i]? = some oi → ops[j]? = some oj → oi.dst = some d → oj.dst = some d → i = j
  look : ∀ (i j : Nat) (oi oj : Oper) (t : Tmp), ops[i]? = some oi → ops[j]? = some oj → oj.dst = some t → t ∈ oi.looksAt ops → j = i ∨ (j < i ∧ waitsOn md oi j = true) ∨ (i < j ∧ waitsOn md oj i = true)
theorem relB_spec (h : relB md ops = true) : RelOk md ops := by
  simp only [relB, Bool.and_eq_true] at h
  obtain ⟨hs, h⟩ := h
  have H : ∀ (i : Nat) (oi : Oper), ops[i]? = some oi → oi.after.all (fun e => !Region.binds md e || decide (e.on < i)) = true ∧
      ((List.range ops.size).all fun j => match ops[j]? with
        | none => true
        | some oj => j == i || ((oi.dst.isNone || oj.dst != oi.dst) &&
            (match oj.dst with
              | none => true
              | some t => !(oi.looksAt ops).contains t || (decide (j < i) && waitsOn md oi j) || (decide (i < j) && waitsOn md oj i)))) = true := fun i oi hi => by
    have := List.all_eq_true.1 h i (List.mem_range.2 (Array.getElem?_eq_some_iff.1 hi).1)
    simpa only [hi, Bool.and_eq_true] using this
  have J : ∀ (i : Nat) (oi : Oper), ops[i]? = some oi → ∀ j oj, ops[j]? = some oj → j ≠ i → ((oi.dst.isNone || oj.dst != oi.dst) &&
            (match oj.dst with
              | none => true
              | some t => !(oi.looksAt ops).contains t || (decide (j < i) && waitsOn md oi j) || (decide (i < j) && waitsOn md oj i))) = true := fun i oi hi j oj hj hne => by
    have := List.all_eq_true.1 (H i oi hi).2 j (List.mem_range.2 (Array.getElem?_eq_some_iff.1 hj).1)
    simp only [hj, Bool.or_eq_true, beq_iff_eq, hne, false_or] at this
    exact this
  refine ⟨fun j o cs b hj => Region.noSelect_spec hs j o cs b hj, fun i oi hi e he hb => ?_, fun i j oi oj d hi hj h1 h2 => ?_, fun i j oi oj t hi hj h1 h2 => ?_⟩
  · have := Array.all_eq_true_iff_forall_mem.1 (H i oi hi).1 e he
    simpa [hb] using this
  · refine Classical.byContradiction fun hne => ?_
    have := J i oi hi j oj hj (fun h => hne h.symm)
    simp [h1, h2] at this
  · by_cases hji : j = i
    · exact .inl hji
    · have := J i oi hi j oj hj hji
      simp only [h1, Bool.and_eq_true, Bool.or_eq_true] at this
      rcases this.2 with (h3 | ⟨h3, h4⟩) | ⟨h3, h4⟩
      · simp [h2] at h3
      · exact .inr (.inl ⟨by simpa using h3, h4⟩)
      · exact .inr (.inr ⟨by simpa using h3, h4⟩)

abbrev Rel := Value → World → Prop
/-- what one operation's run comes to: a value and a world of the kind S -/
def comesToR (P : Program) (S : Rel) : Result Next → Prop
  | .ok (.value u) w' => S u w'
  | .ok .skip w' => S undef w'
  | .ok (.enter f args) w' => Calls P f args w' (fun e w'' => ∃ v, e = .returned v ∧ S v w'')
  | _ => False
theorem comesToR_value_eq (S : Rel) (u : Value) (w : World) : comesToR P S (.ok (.value u) w) = S u w := rfl
theorem comesToR_skip_eq (S : Rel) (w : World) : comesToR P S (.ok .skip w) = S undef w := rfl
theorem comesToR_enter_eq (S : Rel) (f : FuncId) (args : Array Value) (w : World) : comesToR P S (.ok (.enter f args) w) = Calls P f args w (fun e w'' => ∃ v, e = .returned v ∧ S v w'') := rfl

/-- what is known of the text's order: by slots, of which of them a relation is known, the other ones' values, the frames -/
structure Known (P : Program) (ops : Array Oper) (Gr : World → World → Prop) (W0 : World) (RR : Tmp → Option Rel) (vals : Nat → Value) (F : Nat → (Tmp → Value) → Act) : Prop where
  start : ∀ ρ ρ', F 0 ρ = F 0 ρ'
  det : ∀ (i : Nat) (o : Oper), ops[i]? = some o → o.dst.bind RR = none → F (i + 1) = (fun ρ => (F i ρ).put o.dst (vals i)) ∧ ∀ ρ w, Gr W0 w →
    (∀ (j : Nat) (oj : Oper) (d : Tmp) (R : Rel), j < i → ops[j]? = some oj → oj.dst = some d → d ∈ o.looksAt ops → RR d = some R → R (ρ d) w) →
    (Region.wanted o (yielded ops (F i ρ).tmps) = true ∧ comesToR P (fun u w' => u = vals i ∧ Gr w w') ((execOp (F i ρ).eval o).run P w)) ∨ (Region.wanted o (yielded ops (F i ρ).tmps) = false ∧ vals i = undef)
  rel : ∀ (i : Nat) (o : Oper) (d : Tmp) (R : Rel), ops[i]? = some o → o.dst = some d → RR d = some R → F (i + 1) = (fun ρ => (F i ρ).put (some d) (ρ d)) ∧ (∀ v w w', Gr w w' → R v w → R v w') ∧ ∀ ρ w, Gr W0 w →
    (∀ (j : Nat) (oj : Oper) (d : Tmp) (R : Rel), j < i → ops[j]? = some oj → oj.dst = some d → d ∈ o.looksAt ops → RR d = some R → R (ρ d) w) →
    Region.wanted o (yielded ops (F i ρ).tmps) = true ∧ comesToR P (fun u w' => R u w' ∧ Gr w w') ((execOp (F i ρ).eval o).run P w)
/-- an operation's value -/
def valR (ops : Array Oper) (RR : Tmp → Option Rel) (vals : Nat → Value) (ρ : Tmp → Value) (i : Nat) : Value :=
  match ops[i]? with
  | some o => match o.dst with
    | some d => if (RR d).isSome then ρ d else vals i
    | none => vals i
  | none => vals i
theorem valR_det {RR : Tmp → Option Rel} {vals : Nat → Value} {ρ : Tmp → Value} {i : Nat} {o : Oper} (hi : ops[i]? = some o) (h : o.dst.bind RR = none) : valR ops RR vals ρ i = vals i := by
  unfold valR
  rw [hi]
  cases hd : o.dst with
  | none => simp [hd]
  | some d =>
    rw [hd] at h
    simp only [Option.bind_some] at h
    simp [hd, h]
theorem valR_rel {RR : Tmp → Option Rel} {vals : Nat → Value} {ρ : Tmp → Value} {i : Nat} {o : Oper} {d : Tmp} {R : Rel} (hi : ops[i]? = some o) (hd : o.dst = some d) (h : RR d = some R) : valR ops RR vals ρ i = ρ d := by
  unfold valR
  rw [hi]
  simp [hd, h]
/-- the frame of the text's order, at each operation -/
theorem Known.agr {RR : Tmp → Option Rel} {vals : Nat → Value} {F : Nat → (Tmp → Value) → Act} (ok : RelOk md ops) (K : Known P ops Gr W0 RR vals F) (ρ : Tmp → Value) :
    ∀ k, k ≤ ops.size → Agr ops (fun j => j < k) (valR ops RR vals ρ) (F 0 ρ) (F k ρ)
  | 0, _ => (Agr.refl (valR ops RR vals ρ) (F 0 ρ)).congr (fun i o d _ _ => by simp) (fun _ _ _ _ _ h => h.elim)
  | k + 1, hk => by
    have ih := Known.agr ok K ρ k (by omega)
    have ho : ops[k]? = some ops[k] := Array.getElem?_eq_getElem (by omega)
    have fin : ∀ v, (∀ d, ops[k].dst = some d → v = valR ops RR vals ρ k) → Agr ops (fun j => j < k + 1) (valR ops RR vals ρ) (F 0 ρ) ((F k ρ).put ops[k].dst v) := fun v hv => by
      refine (ih.put ok.dd ho (fun h => by omega) v).congr (fun i o d hi hd' => ⟨fun h => ?_, fun h => ?_⟩) (fun i o d hi hd' h => ?_)
      · rcases h with h | rfl <;> omega
      · by_cases hik : i = k
        · exact .inr hik
        · exact .inl (by omega)
      · by_cases hik : i = k
        · subst hik
          obtain rfl : ops[i] = o := Option.some.inj (ho.symm.trans hi)
          simp only [if_true]
          exact hv d hd'
        · simp [hik]
    cases hb : ops[k].dst.bind RR with
    | none =>
      rw [(K.det k _ ho hb).1]
      exact fin _ fun d hd => (valR_det ho hb).symm
    | some R =>
      cases hd : ops[k].dst with
      | none => rw [hd] at hb; cases hb
      | some d =>
        rw [hd] at hb
        have hR : RR d = some R := by simpa using hb
        rw [(K.rel k _ d R ho hd hR).1]
        have := fin (ρ d) fun d' hd' => by
          rw [hd] at hd'
          cases hd'
          exact (valR_rel ho hd hR).symm
        rw [hd] at this
        exact this

/-- what holds in every order, behind some operations -/
structure Inv (md : Region.Mode) (ops : Array Oper) (Gr : World → World → Prop) (W0 : World) (RR : Tmp → Option Rel) (vals : Nat → Value) (a0 : Act) (ρ : Tmp → Value) (listed : Array Bool) (a : Act) (w : World) : Prop where
  size : listed.size = ops.size
  closed : ∀ (j : Nat) (oj : Oper), ops[j]? = some oj → listed.getD j false = true → ∀ e ∈ oj.after, Region.binds md e = true → listed.getD e.on false = true
  agr : Agr ops (fun i => listed.getD i false = true) (valR ops RR vals ρ) a0 a
  on : Gr W0 w
  known : ∀ (i : Nat) (o : Oper) (d : Tmp) (R : Rel), ops[i]? = some o → o.dst = some d → RR d = some R → listed.getD i false = true → R (ρ d) w
/-- what an operation looks at is as in the text's order -/
theorem Inv.looks {RR : Tmp → Option Rel} {vals : Nat → Value} {F : Nat → (Tmp → Value) → Act} {ρ : Tmp → Value} {listed : Array Bool} {a : Act} {w : World} (ok : RelOk md ops) (K : Known P ops Gr W0 RR vals F)
    (inv : Inv md ops Gr W0 RR vals (F 0 ρ) ρ listed a w) {i : Nat} {o : Oper} (hi : ops[i]? = some o) (hr : i ∈ Region.ready md ops listed) (t : Tmp) (ht : t ∈ o.looksAt ops) : a.tmps[t]? = (F i ρ).tmps[t]? := by
  have hin : i < ops.size := (Array.getElem?_eq_some_iff.1 hi).1
  obtain ⟨hun, o', ho', hall⟩ := mem_ready.1 hr
  obtain rfl : o' = o := Option.some.inj (ho'.symm.trans hi)
  refine inv.agr.same (K.agr ok ρ i (by omega)) t fun j oj hj hd => ?_
  rcases ok.look i j o' oj t hi hj hd ht with rfl | ⟨hlt, hw⟩ | ⟨hlt, hw⟩
  · exact ⟨⟨fun h => absurd h (not_listed hun), fun h => by omega⟩, fun _ => rfl⟩
  · obtain ⟨e, he, hb, rfl⟩ := waitsOn_spec hw
    have hl := hall e he hb
    exact ⟨⟨fun _ => hlt, fun _ => hl⟩, fun _ => rfl⟩
  · obtain ⟨e, he, hb, he'⟩ := waitsOn_spec hw
    have hn : ¬ listed.getD j false = true := fun h => by
      have := inv.closed j oj hj h e he hb
      rw [he'] at this
      exact not_listed hun this
    exact ⟨⟨fun h => absurd h hn, fun h => by omega⟩, fun _ => rfl⟩
/-- a step keeps the invariant -/
theorem Inv.step {RR : Tmp → Option Rel} {vals : Nat → Value} {F : Nat → (Tmp → Value) → Act} {ρ : Tmp → Value} {listed : Array Bool} {a : Act} {w : World} {Q : Exit → Act → World → Prop} (gt : ∀ a b c, Gr a b → Gr b c → Gr a c) (gr : ∀ a, Gr a a)
    (ok : RelOk md ops) (K : Known P ops Gr W0 RR vals F)
    (inv : Inv md ops Gr W0 RR vals (F 0 ρ) ρ listed a w) {i : Nat} (hr : i ∈ Region.ready md ops listed) :
    wpOp P ops Q i (fun a' w' => ∃ ρ', Inv md ops Gr W0 RR vals (F 0 ρ') ρ' (listed.setIfInBounds i true) a' w') a w := by
  obtain ⟨hun, o, hi, hall⟩ := mem_ready.1 hr
  have hin : i < ops.size := (Array.getElem?_eq_some_iff.1 hi).1
  have hni := not_listed hun
  have hil : i < listed.size := by rw [inv.size]; exact hin
  have hsize : (listed.setIfInBounds i true).size = ops.size := by simp [inv.size]
  have hclosed : ∀ (j : Nat) (oj : Oper), ops[j]? = some oj → (listed.setIfInBounds i true).getD j false = true → ∀ e ∈ oj.after, Region.binds md e = true → (listed.setIfInBounds i true).getD e.on false = true := fun j oj hj hl e he hb => by
    rcases set_back hl with h | rfl
    · exact getD_set_true (inv.closed j oj hj h e he hb)
    · obtain rfl : o = oj := Option.some.inj (hi.symm.trans hj)
      exact getD_set_true (hall e he hb)
  have hback : ∀ j, j ≠ i → (listed.setIfInBounds i true).getD j false = true → listed.getD j false = true := fun j hne h => (set_back h).resolve_right hne
  have hsame := exec_same (ops := ops) (o := o) (a := a) (a' := F i ρ) (fun cs b => ok.sel i o cs b hi) (fun t ht => inv.looks ok K hi hr t ht)
  have hdeps : ∀ (j : Nat) (oj : Oper) (d : Tmp) (R : Rel), j < i → ops[j]? = some oj → oj.dst = some d → d ∈ o.looksAt ops → RR d = some R → R (ρ d) w := fun j oj d R hji hj hd hl hR => by
    rcases ok.look i j o oj d hi hj hd hl with rfl | ⟨_, hw⟩ | ⟨hlt, _⟩
    · omega
    · obtain ⟨e, he, hb, rfl⟩ := waitsOn_spec hw
      exact inv.known _ oj d R hj hd hR (hall e he hb)
    · omega
  have hagr : ∀ (ρ' : Tmp → Value) v, (∀ j oj d, ops[j]? = some oj → oj.dst = some d → j ≠ i → ρ' d = ρ d) → (∀ d, o.dst = some d → v = valR ops RR vals ρ' i) → Agr ops (fun j => (listed.setIfInBounds i true).getD j false = true) (valR ops RR vals ρ') (F 0 ρ') (a.put o.dst v) := fun ρ' v hρ hv => by
    rw [K.start ρ' ρ]
    refine (inv.agr.put ok.dd hi hni _).congr (fun j oj e hj he => ⟨fun h => ?_, fun h => ?_⟩) (fun j oj e hj he hl => ?_)
    · rcases h with h | rfl
      · exact getD_set_true h
      · exact set_self hil
    · exact set_back h
    · by_cases hji : j = i
      · subst hji
        obtain rfl : o = oj := Option.some.inj (hi.symm.trans hj)
        simp only [if_true]
        exact hv e he
      · simp only [hji, if_false]
        have h1 := hρ j oj e hj he hji
        unfold valR
        rw [hj]
        simp only [he, h1]
  cases hb : o.dst.bind RR with
  | none =>
    obtain ⟨_, hy⟩ := K.det i o hi hb
    have done : ∀ w', Gr w w' → ∃ ρ', Inv md ops Gr W0 RR vals (F 0 ρ') ρ' (listed.setIfInBounds i true) (a.put o.dst (vals i)) w' := fun w' hg => by
      refine ⟨ρ, hsize, hclosed, hagr ρ _ (fun _ _ _ _ _ _ => rfl) (fun d hd => (valR_det hi hb).symm), gt _ _ _ inv.on hg, fun j oj d R hj hd hR hl => ?_⟩
      have hji : j ≠ i := fun h => by
        subst h
        obtain rfl : o = oj := Option.some.inj (hi.symm.trans hj)
        rw [hd] at hb
        simp only [Option.bind_some, hR] at hb
        cases hb
      exact (K.rel j oj d R hj hd hR).2.1 _ _ _ hg (inv.known j oj d R hj hd hR (hback j hji hl))
    unfold wpOp
    simp only [hi]
    rcases hy ρ w inv.on hdeps with ⟨hw, h1⟩ | ⟨hw, hv⟩
    · rw [← hsame.2] at hw
      simp only [hw, if_true]
      refine .inl ?_
      unfold Oper.wp
      rw [hsame.1]
      generalize (execOp (F i ρ).eval o).run P w = r at *
      cases r with
      | ok n w' =>
        cases n <;> simp only [comesToR] at h1 <;> simp only [Oper.upon]
        case value u => obtain ⟨rfl, h2⟩ := h1; exact done _ h2
        case skip => obtain ⟨h0, h2⟩ := h1; rw [h0]; exact done _ h2
        case enter f args => exact h1.mono fun e w'' ⟨v, he, h0, h2⟩ => by subst he; subst h0; exact done _ h2
      | halt x w' => simp only [comesToR] at h1
    · rw [← hsame.2] at hw
      simp only [hw, Bool.false_eq_true, if_false]
      rw [← hv]
      exact done w (gr _)
  | some R =>
    cases hd : o.dst with
    | none => rw [hd] at hb; cases hb
    | some d =>
      have hR : RR d = some R := by rw [hd] at hb; simpa using hb
      obtain ⟨_, hst, hy⟩ := K.rel i o d R hi hd hR
      obtain ⟨hw, h1⟩ := hy ρ w inv.on hdeps
      have done : ∀ v w', R v w' → Gr w w' → ∃ ρ', Inv md ops Gr W0 RR vals (F 0 ρ') ρ' (listed.setIfInBounds i true) (a.put (some d) v) w' := fun v w' hRv hg => by
        refine ⟨fun t => if t = d then v else ρ t, hsize, hclosed, ?_, gt _ _ _ inv.on hg, fun j oj d' R' hj hd' hR' hl => ?_⟩
        · have := hagr (fun t => if t = d then v else ρ t) v (fun j oj d' hj hd' hji => by
            have hne : d' ≠ d := fun h => hji (ok.dd j i oj o d' hj hi hd' (by rw [hd, h]))
            simp [hne]) (fun d' hd' => by
            rw [hd] at hd'; cases hd'
            rw [valR_rel hi hd hR]; simp)
          rwa [hd] at this
        · by_cases hji : j = i
          · subst hji
            obtain rfl : o = oj := Option.some.inj (hi.symm.trans hj)
            obtain rfl : d = d' := Option.some.inj (hd.symm.trans hd')
            obtain rfl : R = R' := Option.some.inj (hR.symm.trans hR')
            simpa using hRv
          · have hne : d' ≠ d := fun h => hji (ok.dd j i oj o d' hj hi hd' (by rw [hd, h]))
            simp only [hne, if_false]
            exact (K.rel j oj d' R' hj hd' hR').2.1 _ _ _ hg (inv.known j oj d' R' hj hd' hR' (hback j hji hl))
      unfold wpOp
      simp only [hi]
      rw [← hsame.2] at hw
      simp only [hw, if_true]
      refine .inl ?_
      unfold Oper.wp
      rw [hsame.1]
      generalize (execOp (F i ρ).eval o).run P w = r at *
      cases r with
      | ok n w' =>
        cases n <;> simp only [comesToR] at h1 <;> simp only [Oper.upon, hd]
        case value u => exact done _ _ h1.1 h1.2
        case skip => exact done _ _ h1.1 h1.2
        case enter f args => exact h1.mono fun e w'' ⟨v, he, h0, h2⟩ => by subst he; exact done _ _ h0 h2
      | halt x w' => simp only [comesToR] at h1
theorem all_listed {listed : Array Bool} (ok : RelOk md ops) (hs : listed.size = ops.size) (h : Region.ready md ops listed = []) : ∀ i, i < ops.size → listed.getD i false = true := by
  intro i
  induction i using Nat.strongRecOn with
  | _ i ih =>
    intro hi
    refine Classical.byContradiction fun hn => ?_
    have hf : listed.getD i false = false := by simpa using hn
    have hu : listed.getD i true = false := getD_in (by omega) hf
    have ho : ops[i]? = some ops[i] := Array.getElem?_eq_getElem hi
    have : i ∈ Region.ready md ops listed := mem_ready.2 ⟨hu, _, ho, fun e he hb => by
      have hlt := ok.back i _ ho e he hb
      exact ih e.on hlt (by omega)⟩
    rw [h] at this; cases this
theorem wpAny_of_inv {RR : Tmp → Option Rel} {vals : Nat → Value} {F : Nat → (Tmp → Value) → Act} {Q : Exit → Act → World → Prop} (gt : ∀ a b c, Gr a b → Gr b c → Gr a c) (gr : ∀ a, Gr a a) (ok : RelOk md ops) (K : Known P ops Gr W0 RR vals F)
    (hend : ∀ ρ listed a w, Inv md ops Gr W0 RR vals (F 0 ρ) ρ listed a w → (∀ i, i < ops.size → listed.getD i false = true) → Q .normal a w) :
    ∀ (fuel : Nat) (ρ : Tmp → Value) (listed : Array Bool) (a : Act) (w : World), leftN ops listed ≤ fuel → Inv md ops Gr W0 RR vals (F 0 ρ) ρ listed a w → wpAny P md ops Q fuel listed a w
  | 0, ρ, listed, a, w, hf, inv => by
    have hr : Region.ready md ops listed = [] := by
      cases hr : Region.ready md ops listed with
      | nil => rfl
      | cons i l =>
        have := leftN_set (ops := ops) (i := i) (md := md) (by rw [hr]; exact List.mem_cons_self) inv.size
        omega
    exact ⟨hr, hend ρ listed a w inv (all_listed ok inv.size hr)⟩
  | fuel + 1, ρ, listed, a, w, hf, inv => by
    refine ⟨fun hr => hend ρ listed a w inv (all_listed ok inv.size hr), fun i hi => ?_⟩
    have hless := leftN_set hi inv.size
    refine wpOp_mono (fun a' w' ⟨ρ', inv'⟩ => ?_) (inv.step gt gr ok K hi)
    exact wpAny_of_inv gt gr ok K hend fuel ρ' _ a' w' (by omega) inv'
end
end Rl
end Go.Proofs.Ytmpknjlfabpipaa
