/- Laws that belong together: A law of regions that draw their order: operations that yield one value in every world of a kind S, and lead from S to S, may be taken in the order of the text; a forced tail may follow. The conditions: the edges' checks, each by computation.; A law of regions that draw their order: operations that yield one value in every world that has grown, beside new blocks that are laid and stored into once each, in whatever order. The conditions: the edges' checks, by computation.; The law of regions that lay boxes: the invariant of every order, and the walk of the text. The conditions: the edges' checks, by computation.; The law of regions that lay boxes, as a walk of the text. The conditions: the edges' checks, by computation.; What '==' says of two arrays of numbers, and of two structs whose fields are plain: field by field. No condition but the types' facts, by computation.; A law of regions that draw their order, told by relations: each operation yields a value of which something is known that stays so while the world goes on (a new row, a text, a pointer), or one value; what an operation looks at is known by then. The conditions: the edges' checks, by computation.; The law of regions told by relations, as a walk of the text. The conditions: the edges' checks, by computation. -/
import Derived.Test.YtdfkfcpkejjlnaaDoorRows
import Derived.WalkKit
import Derived.StillTail
import Derived.Below
import Derived.Laws.StructEq
namespace Go.Proofs.YtdfkfcpkejjlnaaDoor
set_option linter.unusedVariables false
open Go
section
variable {P : Program} {ops : Array Oper} {md : Region.Mode} {S : World → Prop}

/-- what one operation's run comes to: the value v, in a world of the kind S -/
def comesTo (P : Program) (S : World → Prop) (v : Value) : Result Next → Prop
  | .ok (.value u) w' => u = v ∧ S w'
  | .ok .skip w' => v = undef ∧ S w'
  | .ok (.enter f args) w' => Calls P f args w' (fun e w'' => e = .returned v ∧ S w'')
  | _ => False
def yieldsS (P : Program) (ops : Array Oper) (S : World → Prop) (o : Oper) (v : Value) (a : Act) : Prop :=
  (Region.wanted o (yielded ops a.tmps) = true ∧ ∀ w, S w → comesTo P S v ((execOp a.eval o).run P w)) ∨
  (Region.wanted o (yielded ops a.tmps) = false ∧ v = undef)
theorem yieldsS_same {o : Oper} {v : Value} {a a' : Act} (hy : yieldsS P ops S o v a) (he : execOp a'.eval o = execOp a.eval o)
    (hw : Region.wanted o (yielded ops a'.tmps) = Region.wanted o (yielded ops a.tmps)) : yieldsS P ops S o v a' := by
  unfold yieldsS at *
  rw [he, hw]
  exact hy
theorem wpOp_of_yieldsS {i : Nat} {o : Oper} {v : Value} {a : Act} {w : World} {K : Act → World → Prop} {Q : Exit → Act → World → Prop} (hi : ops[i]? = some o)
    (hy : yieldsS P ops S o v a) (hS : S w) (h : ∀ w', S w' → K (a.put o.dst v) w') : wpOp P ops Q i K a w := by
  unfold wpOp
  simp only [hi]
  rcases hy with ⟨hw, hy⟩ | ⟨hw, rfl⟩
  · simp only [hw, if_true]
    refine .inl ?_
    have h1 := hy w hS
    unfold Oper.wp
    generalize (execOp a.eval o).run P w = r at *
    cases r with
    | ok n w' =>
      cases n <;> simp only [comesTo] at h1 <;> simp only [Oper.upon]
      case value u => obtain ⟨rfl, h2⟩ := h1; exact h _ h2
      case skip => obtain ⟨rfl, h2⟩ := h1; exact h _ h2
      case enter f args => exact h1.mono fun e w'' ⟨he, h2⟩ => by subst he; exact h _ h2
    | halt x w' => simp only [comesTo] at h1
  · simp only [hw, Bool.false_eq_true, if_false]; exact h _ hS

/-- the operations below n, in any order that the edges allow; then L -/
def headS (P : Program) (md : Region.Mode) (ops : Array Oper) (S : World → Prop) (n : Nat) (L : Array Bool → Act → Prop) : Nat → Array Bool → Act → Prop
  | 0, listed, a => L listed a
  | f + 1, listed, a => Region.ready md ops listed ≠ [] ∧ ∀ i ∈ Region.ready md ops listed, i < n ∧
      ∃ o v, ops[i]? = some o ∧ yieldsS P ops S o v a ∧ headS P md ops S n L f (listed.setIfInBounds i true) (a.put o.dst v)
theorem wpAny_of_headS {n g : Nat} {L : Array Bool → Act → Prop} {Q : Exit → Act → World → Prop} (hL : ∀ listed a w, S w → L listed a → wpAny P md ops Q g listed a w) :
    ∀ (f : Nat) (listed : Array Bool) (a : Act) (w : World), S w → headS P md ops S n L f listed a → wpAny P md ops Q (f + g) listed a w
  | 0, listed, a, w, hS, h => by rw [Nat.zero_add]; exact hL _ _ _ hS h
  | f + 1, listed, a, w, hS, h => by
    rw [show f + 1 + g = (f + g) + 1 by omega]
    refine ⟨fun h0 => absurd h0 h.1, fun i hi => ?_⟩
    obtain ⟨_, o, v, ho, hy, hn⟩ := h.2 i hi
    exact wpOp_of_yieldsS ho hy hS fun w' hS' => wpAny_of_headS hL f _ _ _ hS' hn
theorem headS_first {n i : Nat} {oi : Oper} {v : Value} {L : Array Bool → Act → Prop} (hi : ops[i]? = some oi) (hsel : ∀ (j : Nat) (o : Oper) cs b, ops[j]? = some o → o.op ≠ .select cs b)
    (hin : i < n) (hlow : ∀ listed, HeadInv md ops n listed → i ∈ Region.ready md ops listed → ∀ j ∈ Region.ready md ops listed, j < n)
    (hdone : ∀ listed a, L listed a → ∀ j ∈ Region.ready md ops listed, n ≤ j) :
    ∀ (f : Nat) (listed : Array Bool) (a : Act), HeadInv md ops n listed →
      (∀ j oj, ops[j]? = some oj → j ≠ i → listed.getD j true = false → (∀ e ∈ oj.after, Region.binds md e = true → e.on ≠ i) → oi.apart ops oj = true) →
      i ∈ Region.ready md ops listed → yieldsS P ops S oi v a →
      headS P md ops S n L f (listed.setIfInBounds i true) (a.put oi.dst v) → headS P md ops S n L (f + 1) listed a := by
  intro f
  induction f with
  | zero =>
    intro listed a inv _ hr hy H
    refine ⟨fun h => (by rw [h] at hr; cases hr), fun j hj => ?_⟩
    have hjn := hlow listed inv hr j hj
    refine ⟨hjn, ?_⟩
    by_cases hji : j = i
    · subst hji; exact ⟨oi, v, hi, hy, H⟩
    · have := hdone _ _ H j (ready_mono hj hji)
      omega
  | succ f ih =>
    intro listed a inv hfree hr hy H
    have hun := (mem_ready.1 hr).1
    refine ⟨fun h => (by rw [h] at hr; cases hr), fun j hj => ?_⟩
    have hjn := hlow listed inv hr j hj
    refine ⟨hjn, ?_⟩
    by_cases hji : j = i
    · subst hji; exact ⟨oi, v, hi, hy, H⟩
    · obtain ⟨_, oj, u, hoj, hyj, hK⟩ := H.2 j (ready_mono hj hji)
      obtain ⟨hjun, oj', hoj', hall⟩ := mem_ready.1 hj
      obtain rfl : oj' = oj := Option.some.inj (hoj'.symm.trans hoj)
      have hnot : ∀ e ∈ oj'.after, Region.binds md e = true → e.on ≠ i := fun e he hb heq => by
        have h1 := hall e he hb
        rw [heq, getD_both hun] at h1
        cases h1
      have hap := hfree j oj' hoj hji hjun hnot
      obtain ⟨h1, h2, h3⟩ := Oper.apart_spec hap
      refine ⟨oj', u, hoj, yieldsS_same hyj (execOp_put oj' (fun cs b => hsel j oj' cs b hoj) a oi.dst v h1).symm (wanted_put oj' a oi.dst v h1).symm, ?_⟩
      refine ih (listed.setIfInBounds j true) (a.put oj'.dst u) (inv.set hj hjn) (fun k ok hk hki hku hno => ?_) (ready_mono hr (Ne.symm hji))
        (yieldsS_same hy (execOp_put oi (fun cs b => hsel i oi cs b hi) a oj'.dst u h3) (wanted_put oi a oj'.dst u h3)) ?_
      · refine hfree k ok hk hki ?_ hno
        by_cases hjk : j = k
        · subst hjk; exact hjun
        · rw [getD_set_ne true hjk] at hku; exact hku
      · rw [Array.setIfInBounds_comm _ _ hji, ← Act.put_comm a v u h2]
        exact hK

/-- the operations of the text, one behind the other: of each the value that it yields -/
def textS (P : Program) (ops : Array Oper) (S : World → Prop) (Q : Act → Prop) : List Oper → Act → Prop
  | [], a => Q a
  | o :: rest, a => ∃ v, yieldsS P ops S o v a ∧ textS P ops S Q rest (a.put o.dst v)
theorem headS_lex {n g : Nat} {Lq : Act → Prop} (hsel : Region.noSelect ops = true)
    (hlow : ∀ i listed, i < n → HeadInv md ops n listed → i ∈ Region.ready md ops listed → ∀ j ∈ Region.ready md ops listed, j < n) :
    ∀ (l : List Oper) (k : Nat) (listed : Array Bool) (a : Act), (∀ j, j < l.length → l[j]? = ops[k + j]?) → k + l.length = n → HeadInv md ops n listed →
    Region.lexHead md ops g l.length k listed = true → textS P ops S Lq l a →
    headS P md ops S n (fun listed' a' => Region.seqB md ops g n listed' = true ∧ Lq a') l.length listed a
  | [], k, listed, a, _, hk, _, hB, h => by
    have : k = n := by simpa using hk
    subst this
    exact ⟨by simpa [Region.lexHead] using hB, h⟩
  | o :: l, k, listed, a, hl, hk, inv, hB, h => by
    have h0 : ops[k]? = some o := by simpa using (hl 0 (by simp)).symm
    simp only [List.length_cons, Region.lexHead, Bool.and_eq_true] at hB
    obtain ⟨⟨hr, hf⟩, hB'⟩ := hB
    have hkn : k < n := by simp only [List.length_cons] at hk; omega
    have hr' : k ∈ Region.ready md ops listed := by simpa using hr
    obtain ⟨v, hy, hK⟩ := h
    exact headS_first h0 (Region.noSelect_spec hsel) hkn (fun listed' inv' hr'' => hlow k listed' hkn inv' hr'') (fun listed' a' hL => seqB_ready hL.1) l.length listed a inv (Region.free_spec h0 hf) hr' hy
      (headS_lex hsel hlow l (k + 1) _ _ (fun j hj => by have := hl (j + 1) (by simp; omega); simpa [Nat.add_assoc, Nat.add_comm 1 j] using this) (by simp only [List.length_cons] at hk; omega) (inv.set hr' hkn) hB' hK)

/-- what is asked of a region's edges where no tail is left: the text's order is one of the orders, and operations that may change places do not meet -/
def lexAllB (md : Region.Mode) (ops : Array Oper) : Bool := Region.noSelect ops && Region.lexHead md ops 0 ops.size 0 (Array.replicate ops.size false)

/-- A REGION ALL OF WHOSE OPERATIONS YIELD ONE VALUE IN EVERY WORLD OF THE KIND S. -/
theorem wp_region_grow {id : Nat} {Q : Exit → Act → World → Prop} {a : Act} {w : World} {l : List Oper} (S : World → Prop) (hm : P.follows .mixedOrders = true) (hB : lexAllB .any l.toArray = true)
    (h0 : S w.drew) (h : textS P l.toArray S (fun a' => ∀ w', S w' → Q .normal a' w') l a) : (Code.region id l.toArray true).wp P Q a w := by
  simp only [lexAllB, Bool.and_eq_true] at hB
  obtain ⟨hsel, hlex⟩ := hB
  have inv0 : HeadInv .any l.toArray l.length (Array.replicate l.toArray.size false) :=
    ⟨by simp, fun j oj _ hl => (by rw [getD_replicate_false] at hl; cases hl), fun t ht ht' => by simp at ht'; omega⟩
  have H := headS_lex (md := .any) (S := S) (n := l.length) (g := 0) hsel (fun i listed hi inv hr j hj => by
      obtain ⟨_, oj, hoj, _⟩ := mem_ready.1 hj
      have := (Array.getElem?_eq_some_iff.1 hoj).1
      simpa using this) l 0 _ a (fun j hj => by simp) (by simp) inv0 (by simpa using hlex) h
  refine wp_region_any hm ?_
  have := wpAny_of_headS (Q := Q) (g := 0) (fun listed a' w' hS hL => by
    exact ⟨by simpa [Region.seqB] using hL.1, hL.2 w' hS⟩) _ _ _ _ h0 H
  simpa using this

/-- A REGION WHOSE FIRST n OPERATIONS YIELD ONE VALUE IN EVERY WORLD OF THE KIND S, AND WHOSE OTHERS FOLLOW ONE BEHIND THE OTHER. -/
theorem wp_region_grow_tail {id : Nat} {Q : Exit → Act → World → Prop} {a : Act} {w : World} {l : List Oper} (n : Nat) (S : World → Prop) (hm : P.follows .mixedOrders = true) (hB : Region.lexTailB .any l.toArray n = true)
    (h0 : S w.drew) (h : textS P l.toArray S (fun a' => ∀ w', S w' → wpList P l.toArray Q (l.drop n) a' w') (l.take n) a) : (Code.region id l.toArray true).wp P Q a w := by
  simp only [Region.lexTailB, Bool.and_eq_true, decide_eq_true_eq] at hB
  obtain ⟨⟨⟨⟨hsel, hn⟩, hs⟩, hc⟩, hlex⟩ := hB
  have hn' : n < l.length := by simpa using hn
  have htl : (l.take n).length = n := by simp; omega
  have hdl : (l.drop n).length = l.toArray.size - n := by simp
  have inv0 : HeadInv .any l.toArray n (Array.replicate l.toArray.size false) :=
    ⟨by simp, fun j oj _ hl => (by rw [getD_replicate_false] at hl; cases hl), fun t _ ht => getD_in (by simpa using ht) (getD_replicate_false _ _)⟩
  have H := headS_lex (md := .any) (S := S) (g := l.toArray.size - n) hsel (fun i listed hi inv hr j hj => by
      rcases Nat.lt_or_ge j n with h | h
      · exact h
      · exact absurd hj (tail_waits hs hc hn inv _ i rfl hi (mem_ready.1 hr).1 j h)) (l.take n) 0 _ a (fun j hj => by
    have hj' : j < n := by rw [htl] at hj; exact hj
    simp [hj']) (by simpa using htl) inv0 (by rw [htl]; exact hlex) h
  refine wp_region_any hm ?_
  have := wpAny_of_headS (Q := Q) (g := l.toArray.size - n) (fun listed a' w' hS hL => by
    have := wpAny_of_seq (md := .any) (Q' := Q) (l.drop n) n listed a' w' (fun j => by simp [List.getElem?_drop]) (by rw [hdl]; exact hL.1) (hL.2 w' hS)
    rwa [hdl] at this) _ _ _ _ h0 H
  rw [htl, show n + (l.toArray.size - n) = l.toArray.size by omega] at this
  exact this

theorem textS_nil {Q : Act → Prop} {a : Act} (h : Q a) : textS P ops S Q [] a := h
theorem textS_run {Q : Act → Prop} {a : Act} {o : Oper} {rest : List Oper} (v : Value) (hw : Region.wanted o (yielded ops a.tmps) = true)
    (hy : ∀ w, S w → comesTo P S v ((execOp a.eval o).run P w)) (h : textS P ops S Q rest (a.put o.dst v)) : textS P ops S Q (o :: rest) a := ⟨v, .inl ⟨hw, hy⟩, h⟩
theorem textS_skip {Q : Act → Prop} {a : Act} {o : Oper} {rest : List Oper} (hw : Region.wanted o (yielded ops a.tmps) = false)
    (h : textS P ops S Q rest (a.put o.dst undef)) : textS P ops S Q (o :: rest) a := ⟨undef, .inr ⟨hw, rfl⟩, h⟩
theorem comesTo_value_eq (u v : Value) (w : World) : comesTo P S v (.ok (.value u) w) = (u = v ∧ S w) := rfl
theorem comesTo_skip_eq (v : Value) (w : World) : comesTo P S v (.ok .skip w) = (v = undef ∧ S w) := rfl
theorem comesTo_enter_eq (f : FuncId) (args : Array Value) (v : Value) (w : World) : comesTo P S v (.ok (.enter f args) w) = Calls P f args w (fun e w'' => e = .returned v ∧ S w'') := rfl
theorem comesTo_value {u v : Value} {w : World} (h : u = v) (hS : S w) : comesTo P S v (.ok (.value u) w) := ⟨h, hS⟩
theorem comesTo_skip {v : Value} {w : World} (h : v = undef) (hS : S w) : comesTo P S v (.ok .skip w) := ⟨h, hS⟩
theorem comesTo_enter {f : FuncId} {args : Array Value} {v : Value} {w : World} (h : Calls P f args w (fun e w'' => e = .returned v ∧ S w'')) : comesTo P S v (.ok (.enter f args) w) := h
end
end Go.Proofs.YtdfkfcpkejjlnaaDoor
namespace Go.Proofs.YtdfkfcpkejjlnaaDoor
set_option linter.unusedVariables false
open Go Go.RowKit
section
variable {P : Program} {ops : Array Oper} {md : Region.Mode}

def isAl (o : Oper) : Bool := match o.op with | .alloc _ => true | _ => false
def stAddr (o : Oper) : Option Tmp := match o.op with | .store _ (.tmp d) _ => some d | _ => none
def waitsOn (md : Region.Mode) (o : Oper) (j : Nat) : Bool := o.after.any fun e => Region.binds md e && e.on == j
/-- what is asked of a region's edges -/
def boxB (md : Region.Mode) (ops : Array Oper) : Bool :=
  Region.noSelect ops && (List.range ops.size).all fun i => match ops[i]? with
    | none => true
    | some oi =>
      oi.after.all (fun e => !Region.binds md e || decide (e.on < i)) && ((!isAl oi && (stAddr oi).isNone) || oi.guard.isNone) && ((stAddr oi).isNone || oi.dst.isNone) &&
      (match stAddr oi with
        | none => true
        | some d => (List.range ops.size).any fun j => match ops[j]? with | none => false | some oj => isAl oj && oj.dst == some d && waitsOn md oi j) &&
      (!isAl oi || (oi.dst.isSome && (List.range ops.size).any fun j => match ops[j]? with | none => false | some oj => stAddr oj == oi.dst)) &&
      (List.range ops.size).all fun j => match ops[j]? with
        | none => true
        | some oj => j == i || ((oi.dst.isNone || oj.dst != oi.dst) && ((stAddr oi).isNone || stAddr oj != stAddr oi) &&
            (match oj.dst with
              | none => true
              | some t => !(oi.looksAt ops).contains t || (decide (j < i) && waitsOn md oi j && (!isAl oj || stAddr oi == some t)) || (decide (i < j) && waitsOn md oj i)))

/-- what the check says -/
structure BoxOk (md : Region.Mode) (ops : Array Oper) : Prop where
  sel : ∀ (j : Nat) (o : Oper) cs b, ops[j]? = some o → o.op ≠ .select cs b
  back : ∀ (i : Nat) (oi : Oper), ops[i]? = some oi → ∀ e ∈ oi.after, Region.binds md e = true → e.on < i
  guardA : ∀ (i : Nat) (oi : Oper), ops[i]? = some oi → isAl oi = true → oi.guard = none
  guardS : ∀ (i : Nat) (oi : Oper) (d : Tmp), ops[i]? = some oi → stAddr oi = some d → oi.guard = none
  dstS : ∀ (i : Nat) (oi : Oper) (d : Tmp), ops[i]? = some oi → stAddr oi = some d → oi.dst = none
  allocOf : ∀ (i : Nat) (oi : Oper) (d : Tmp), ops[i]? = some oi → stAddr oi = some d → ∃ (j : Nat) (oj : Oper), ops[j]? = some oj ∧ isAl oj = true ∧ oj.dst = some d ∧ waitsOn md oi j = true
  dstA : ∀ (i : Nat) (oi : Oper), ops[i]? = some oi → isAl oi = true → ∃ d, oi.dst = some d ∧ ∃ (j : Nat) (oj : Oper), ops[j]? = some oj ∧ stAddr oj = some d
  dd : ∀ (i j : Nat) (oi oj : Oper) (d : Tmp), ops[i]? = some oi → ops[j]? = some oj → oi.dst = some d → oj.dst = some d → i = j
  ss : ∀ (i j : Nat) (oi oj : Oper) (d : Tmp), ops[i]? = some oi → ops[j]? = some oj → stAddr oi = some d → stAddr oj = some d → i = j
  look : ∀ (i j : Nat) (oi oj : Oper) (t : Tmp), ops[i]? = some oi → ops[j]? = some oj → oj.dst = some t → t ∈ oi.looksAt ops → j = i ∨ (j < i ∧ waitsOn md oi j = true ∧ (isAl oj = true → stAddr oi = some t)) ∨ (i < j ∧ waitsOn md oj i = true)
theorem boxB_spec (h : boxB md ops = true) : BoxOk md ops := by
  simp only [boxB, Bool.and_eq_true] at h
  obtain ⟨hs, h⟩ := h
  have H : ∀ (i : Nat) (oi : Oper), ops[i]? = some oi → ((oi.after.all (fun e => !Region.binds md e || decide (e.on < i)) = true ∧ ((!isAl oi && (stAddr oi).isNone) || oi.guard.isNone) = true) ∧ ((stAddr oi).isNone || oi.dst.isNone) = true) ∧
      (match stAddr oi with
        | none => true
        | some d => (List.range ops.size).any fun j => match ops[j]? with | none => false | some oj => isAl oj && oj.dst == some d && waitsOn md oi j) = true ∧
      (!isAl oi || (oi.dst.isSome && (List.range ops.size).any fun j => match ops[j]? with | none => false | some oj => stAddr oj == oi.dst)) = true ∧
      ((List.range ops.size).all fun j => match ops[j]? with
        | none => true
        | some oj => j == i || ((oi.dst.isNone || oj.dst != oi.dst) && ((stAddr oi).isNone || stAddr oj != stAddr oi) &&
            (match oj.dst with
              | none => true
              | some t => !(oi.looksAt ops).contains t || (decide (j < i) && waitsOn md oi j && (!isAl oj || stAddr oi == some t)) || (decide (i < j) && waitsOn md oj i)))) = true := fun i oi hi => by
    have := List.all_eq_true.1 h i (List.mem_range.2 (Array.getElem?_eq_some_iff.1 hi).1)
    simp only [hi, Bool.and_eq_true] at this
    exact ⟨this.1.1.1, this.1.1.2, this.1.2, this.2⟩
  have J : ∀ (i : Nat) (oi : Oper), ops[i]? = some oi → ∀ j oj, ops[j]? = some oj → j ≠ i → ((oi.dst.isNone || oj.dst != oi.dst) && ((stAddr oi).isNone || stAddr oj != stAddr oi) &&
            (match oj.dst with
              | none => true
              | some t => !(oi.looksAt ops).contains t || (decide (j < i) && waitsOn md oi j && (!isAl oj || stAddr oi == some t)) || (decide (i < j) && waitsOn md oj i))) = true := fun i oi hi j oj hj hne => by
    have := List.all_eq_true.1 (H i oi hi).2.2.2 j (List.mem_range.2 (Array.getElem?_eq_some_iff.1 hj).1)
    simp only [hj, Bool.or_eq_true, beq_iff_eq, hne, false_or] at this
    exact this
  refine ⟨fun j o cs b hj => Region.noSelect_spec hs j o cs b hj, fun i oi hi e he hb => ?_, fun i oi hi ha => ?_, fun i oi d hi ha => ?_, fun i oi d hi ha => ?_, fun i oi d hi ha => ?_, fun i oi hi ha => ?_, fun i j oi oj d hi hj h1 h2 => ?_, fun i j oi oj d hi hj h1 h2 => ?_, fun i j oi oj t hi hj h1 h2 => ?_⟩
  · have := Array.all_eq_true_iff_forall_mem.1 (H i oi hi).1.1.1 e he
    simpa [hb] using this
  · have := (H i oi hi).1.1.2
    simpa [ha] using this
  · have := (H i oi hi).1.1.2
    simpa [ha] using this
  · have := (H i oi hi).1.2
    simpa [ha] using this
  · have := (H i oi hi).2.1
    simp only [ha, List.any_eq_true] at this
    obtain ⟨j, _, hj⟩ := this
    cases ho : ops[j]? with
    | none => simp [ho] at hj
    | some oj => simp [ho] at hj; exact ⟨j, oj, ho, hj.1.1, hj.1.2, hj.2⟩
  · have := (H i oi hi).2.2.1
    simp only [ha, Bool.not_true, Bool.false_or, Bool.and_eq_true, List.any_eq_true] at this
    obtain ⟨hd, j, _, hj⟩ := this
    obtain ⟨d, hd⟩ := Option.isSome_iff_exists.1 hd
    refine ⟨d, hd, ?_⟩
    cases ho : ops[j]? with
    | none => simp [ho] at hj
    | some oj => simp [ho, hd] at hj; exact ⟨j, oj, ho, hj⟩
  · refine Classical.byContradiction fun hne => ?_
    have := J i oi hi j oj hj (fun h => hne h.symm)
    simp [h1, h2] at this
  · refine Classical.byContradiction fun hne => ?_
    have := J i oi hi j oj hj (fun h => hne h.symm)
    simp [h1, h2] at this
  · by_cases hji : j = i
    · exact .inl hji
    · have := J i oi hi j oj hj hji
      simp only [h1, Bool.and_eq_true, Bool.or_eq_true] at this
      have h3 := this.2
      rcases h3 with (h3 | ⟨⟨h3, h4⟩, h5⟩) | ⟨h3, h4⟩
      · simp [h2] at h3
      · refine .inr (.inl ⟨by simpa using h3, h4, fun ha => ?_⟩)
        simpa [ha] using h5
      · exact .inr (.inr ⟨by simpa using h3, h4⟩)

/-- a frame: that of the beginning, with the values of the operations of L -/
structure Agr (ops : Array Oper) (L : Nat → Prop) (val : Nat → Value) (a0 a : Act) : Prop where
  defers : a.defers = a0.defers
  size : a.tmps.size = a0.tmps.size
  onn : ∀ (i : Nat) (o : Oper) (d : Tmp), ops[i]? = some o → L i → o.dst = some d → a.tmps[d]? = (a0.tmps[d]?).map (fun _ => val i)
  off : ∀ t : Nat, (∀ (i : Nat) (o : Oper), ops[i]? = some o → L i → o.dst ≠ some t) → a.tmps[t]? = a0.tmps[t]?
theorem Agr.refl (val : Nat → Value) (a0 : Act) : Agr ops (fun _ => False) val a0 a0 := ⟨rfl, rfl, fun _ _ _ _ h => h.elim, fun _ _ => rfl⟩
theorem Agr.congr {L L' : Nat → Prop} {val val' : Nat → Value} {a0 a : Act} (h : Agr ops L val a0 a) (hL : ∀ (i : Nat) (o : Oper) (d : Tmp), ops[i]? = some o → o.dst = some d → (L i ↔ L' i)) (hv : ∀ (i : Nat) (o : Oper) (d : Tmp), ops[i]? = some o → o.dst = some d → L i → val i = val' i) : Agr ops L' val' a0 a :=
  ⟨h.defers, h.size, fun i o d hi hl hd => by have hl' := (hL i o d hi hd).2 hl; rw [← hv i o d hi hd hl']; exact h.onn i o d hi hl' hd,
   fun t ht => h.off t fun i o hi hl hd => ht i o hi ((hL i o t hi hd).1 hl) hd⟩
theorem Agr.put (dd : ∀ (i j : Nat) (oi oj : Oper) (d : Tmp), ops[i]? = some oi → ops[j]? = some oj → oi.dst = some d → oj.dst = some d → i = j) {L : Nat → Prop} {val : Nat → Value} {a0 a : Act} (h : Agr ops L val a0 a)
    {i : Nat} {o : Oper} (hi : ops[i]? = some o) (hni : ¬ L i) (v : Value) : Agr ops (fun j => L j ∨ j = i) (fun j => if j = i then v else val j) a0 (a.put o.dst v) := by
  cases hdst : o.dst with
  | none =>
    refine ⟨h.defers, h.size, fun j oj d hj hl hd => ?_, fun t ht => h.off t fun j oj hj hl hd => ht j oj hj (.inl hl) hd⟩
    by_cases hji : j = i
    · subst hji
      obtain rfl : o = oj := Option.some.inj (hi.symm.trans hj)
      rw [hdst] at hd; cases hd
    · simp only [hji, if_false]
      exact h.onn j oj d hj (hl.resolve_right hji) hd
  | some e =>
    refine ⟨h.defers, by simp [Act.put, h.size], fun j oj d hj hl hd => ?_, fun t ht => ?_⟩
    · by_cases hji : j = i
      · subst hji
        obtain rfl : o = oj := Option.some.inj (hi.symm.trans hj)
        obtain rfl : e = d := Option.some.inj (hdst.symm.trans hd)
        simp only [Act.put, if_true, Array.getElem?_setIfInBounds]
        rw [h.size]
        by_cases hlt : e < a0.tmps.size
        · simp [hlt]
        · simp [hlt]
      · have hne : e ≠ d := fun he => hji (dd j i oj o d hj hi hd (by rw [hdst, he]))
        simp only [Act.put, hji, if_false, Array.getElem?_setIfInBounds_ne hne]
        exact h.onn j oj d hj (hl.resolve_right hji) hd
    · have hne : e ≠ t := fun he => ht i o hi (.inr rfl) (by rw [hdst, he])
      simp only [Act.put, Array.getElem?_setIfInBounds_ne hne]
      exact h.off t fun j oj hj hl hd => ht j oj hj (.inl hl) hd
theorem Agr.same {L L' : Nat → Prop} {val val' : Nat → Value} {a0 a a' : Act} (h : Agr ops L val a0 a) (h' : Agr ops L' val' a0 a') (t : Nat)
    (ht : ∀ i o, ops[i]? = some o → o.dst = some t → (L i ↔ L' i) ∧ (L i → val i = val' i)) : a.tmps[t]? = a'.tmps[t]? := by
  by_cases hex : ∃ (i : Nat) (o : Oper), ops[i]? = some o ∧ L i ∧ o.dst = some t
  · obtain ⟨i, o, hi, hl, hd⟩ := hex
    have := ht i o hi hd
    rw [h.onn i o t hi hl hd, h'.onn i o t hi (this.1.1 hl) hd, this.2 hl]
  · rw [h.off t fun i o hi hl hd => hex ⟨i, o, hi, hl, hd⟩, h'.off t fun i o hi hl hd => hex ⟨i, o, hi, (ht i o hi hd).1.2 hl, hd⟩]
theorem Agr.unique {L L' : Nat → Prop} {val val' : Nat → Value} {a0 a a' : Act} (h : Agr ops L val a0 a) (h' : Agr ops L' val' a0 a')
    (ht : ∀ (i : Nat) (o : Oper) (d : Tmp), ops[i]? = some o → o.dst = some d → (L i ↔ L' i) ∧ (L i → val i = val' i)) : a = a' := by
  obtain ⟨tm, df⟩ := a
  obtain ⟨tm', df'⟩ := a'
  have h1 : df = df' := h.defers.trans h'.defers.symm
  have h2 : tm = tm' := Array.ext_getElem? fun t => h.same h' t fun i o hi hd => ht i o t hi hd
  rw [h1, h2]
theorem exec_same {o : Oper} {a a' : Act} (hs : ∀ cs b, o.op ≠ .select cs b) (h : ∀ t ∈ o.looksAt ops, a.tmps[t]? = a'.tmps[t]?) :
    execOp a.eval o = execOp a'.eval o ∧ Region.wanted o (yielded ops a.tmps) = Region.wanted o (yielded ops a'.tmps) := by
  constructor
  · refine execOp_congr o hs fun x hx => ?_
    cases x with
    | tmp t =>
      have := h t (List.mem_append_left _ (List.mem_filterMap.2 ⟨.tmp t, by simpa using hx, rfl⟩))
      simp only [Act.eval, Array.getD_eq_getD_getElem?, this]
    | _ => rfl
  · unfold Region.wanted
    cases hg : o.guard with
    | none => rfl
    | some gw =>
      obtain ⟨g, want⟩ := gw
      have hy : yielded ops a.tmps g = yielded ops a'.tmps g := by
        unfold yielded
        cases ht : (ops[g]?).bind (·.dst) with
        | none => rfl
        | some t =>
          have := h t (by simp [Oper.looksAt, hg, ht])
          simp [this]
      simp only [hy]
end
end Go.Proofs.YtdfkfcpkejjlnaaDoor
namespace Go.Proofs.YtdfkfcpkejjlnaaDoor
set_option linter.unusedVariables false
open Go Go.RowKit
section
variable {P : Program} {ops : Array Oper} {md : Region.Mode} {W0 : World}

/-- one block has been written, whole -/
structure WroteTo (b : Nat) (T : TypeId) (c : Array Value) (w w' : World) : Prop where
  os : w'.os = w.os
  tape : w'.tape = w.tape
  output : w'.output = w.output
  size : w'.heap.size = w.heap.size
  rest : ∀ k, k ≠ b → w'.heap[k]? = w.heap[k]?
  there : w'.heap[b]? = some (.cells c T (0, 0))
def yieldsB (P : Program) (ops : Array Oper) (W0 : World) (o : Oper) (v : Value) (a : Act) : Prop :=
  (Region.wanted o (yielded ops a.tmps) = true ∧ ∀ w, Below W0.heap.size W0 w → comesTo P (fun w' => Below w.heap.size w w') v ((execOp a.eval o).run P w)) ∨
  (Region.wanted o (yielded ops a.tmps) = false ∧ v = undef)
def allocs (P : Program) (o : Oper) (T : TypeId) (z : Array Value) : Prop := ∀ (ρ : Operand → Value) w, (execOp ρ o).run P w = .ok (.value (.pointer (some ⟨w.heap.size, 0, none⟩))) (w.alloc (.cells z T))
def stores (P : Program) (o : Oper) (T : TypeId) (d : Tmp) (z c : Array Value) (a : Act) : Prop :=
  ∀ b w, w.heap[b]? = some (.cells z T (0, 0)) → ∃ w', (execOp (a.put (some d) (.pointer (some ⟨b, 0, none⟩))).eval o).run P w = .ok .skip w' ∧ WroteTo b T c w w'

/-- what is known of the text's order: the values, the frames, what is laid and stored -/
structure Known (P : Program) (ops : Array Oper) (W0 : World) (vals : Nat → Value) (Z C : Tmp → Array Value) (TT : Tmp → TypeId) (F : Nat → Act) : Prop where
  det : ∀ (i : Nat) (o : Oper), ops[i]? = some o → isAl o = false → stAddr o = none → yieldsB P ops W0 o (vals i) (F i) ∧ F (i + 1) = (F i).put o.dst (vals i)
  al : ∀ (i : Nat) (o : Oper) (d : Tmp), ops[i]? = some o → isAl o = true → o.dst = some d → allocs P o (TT d) (Z d) ∧ F (i + 1) = F i
  st : ∀ (i : Nat) (o : Oper) (d : Tmp), ops[i]? = some o → stAddr o = some d → stores P o (TT d) d (Z d) (C d) (F i) ∧ F (i + 1) = F i
/-- an operation's value, where its block's number is known -/
def valOf (ops : Array Oper) (vals : Nat → Value) (blk : Tmp → Nat) (i : Nat) : Value :=
  match ops[i]? with
  | some o => if isAl o then (match o.dst with | some d => .pointer (some ⟨blk d, 0, none⟩) | none => vals i) else vals i
  | none => vals i
def isDet (ops : Array Oper) (i : Nat) : Prop := ∃ o, ops[i]? = some o ∧ isAl o = false ∧ stAddr o = none
theorem isAl_stAddr {o : Oper} (h : isAl o = true) : stAddr o = none := by
  unfold isAl at h; unfold stAddr
  split at h <;> simp_all
theorem valOf_det {vals : Nat → Value} {blk : Tmp → Nat} {i : Nat} {o : Oper} (hi : ops[i]? = some o) (h : isAl o = false) : valOf ops vals blk i = vals i := by simp [valOf, hi, h]
theorem valOf_al {vals : Nat → Value} {blk : Tmp → Nat} {i : Nat} {o : Oper} {d : Tmp} (hi : ops[i]? = some o) (h : isAl o = true) (hd : o.dst = some d) : valOf ops vals blk i = .pointer (some ⟨blk d, 0, none⟩) := by simp [valOf, hi, h, hd]

/-- the frame of the text's order, at each operation -/
theorem Known.agr {vals : Nat → Value} {Z C : Tmp → Array Value} {TT : Tmp → TypeId} {F : Nat → Act} (ok : BoxOk md ops) (K : Known P ops W0 vals Z C TT F) :
    ∀ k, k ≤ ops.size → Agr ops (fun j => j < k ∧ isDet ops j) vals (F 0) (F k)
  | 0, _ => (Agr.refl vals (F 0)).congr (fun i o d _ _ => by simp) (fun _ _ _ _ _ h => h.elim)
  | k + 1, hk => by
    have ih := Known.agr ok K k (by omega)
    have ho : ops[k]? = some ops[k] := Array.getElem?_eq_getElem (by omega)
    by_cases hal : isAl ops[k] = true
    · obtain ⟨d, hd, _⟩ := ok.dstA k _ ho hal
      rw [(K.al k _ d ho hal hd).2]
      refine ih.congr (fun i o d hi hd' => ⟨fun h => ⟨by omega, h.2⟩, fun h => ⟨?_, h.2⟩⟩) (fun _ _ _ _ _ _ => rfl)
      refine Classical.byContradiction fun hn => ?_
      obtain rfl : i = k := by omega
      obtain ⟨o', h1, h2, _⟩ := h.2
      rw [ho] at h1; cases h1
      rw [hal] at h2; cases h2
    · cases hst : stAddr ops[k] with
      | some d =>
        rw [(K.st k _ d ho hst).2]
        refine ih.congr (fun i o d hi hd' => ⟨fun h => ⟨by omega, h.2⟩, fun h => ⟨?_, h.2⟩⟩) (fun _ _ _ _ _ _ => rfl)
        refine Classical.byContradiction fun hn => ?_
        obtain rfl : i = k := by omega
        obtain ⟨o', h1, _, h2⟩ := h.2
        rw [ho] at h1; cases h1
        rw [hst] at h2; cases h2
      | none =>
        have hal' : isAl ops[k] = false := by simpa using hal
        rw [(K.det k _ ho hal' hst).2]
        refine (ih.put ok.dd ho (fun h => by omega) (vals k)).congr (fun i o d hi hd' => ⟨fun h => ?_, fun h => ?_⟩) (fun i o d hi hd' h => ?_)
        · rcases h with h | rfl
          · exact ⟨by omega, h.2⟩
          · exact ⟨by omega, _, ho, hal', hst⟩
        · by_cases hik : i = k
          · exact .inr hik
          · exact .inl ⟨by omega, h.2⟩
        · by_cases hik : i = k
          · simp [hik]
          · simp [hik]

def Stored (ops : Array Oper) (listed : Array Bool) (d : Tmp) : Prop := ∃ (s : Nat) (os : Oper), ops[s]? = some os ∧ stAddr os = some d ∧ listed.getD s false = true
/-- what holds in every order, behind some operations -/
structure BoxInv (md : Region.Mode) (ops : Array Oper) (W0 : World) (vals : Nat → Value) (Z C : Tmp → Array Value) (TT : Tmp → TypeId) (a0 : Act) (blk : Tmp → Nat) (listed : Array Bool) (a : Act) (w : World) : Prop where
  size : listed.size = ops.size
  closed : ∀ (j : Nat) (oj : Oper), ops[j]? = some oj → listed.getD j false = true → ∀ e ∈ oj.after, Region.binds md e = true → listed.getD e.on false = true
  agr : Agr ops (fun i => listed.getD i false = true) (valOf ops vals blk) a0 a
  bel : Below W0.heap.size W0 w
  low : ∀ (i : Nat) (o : Oper) (d : Tmp), ops[i]? = some o → isAl o = true → o.dst = some d → listed.getD i false = true → W0.heap.size ≤ blk d
  box : ∀ (i : Nat) (o : Oper) (d : Tmp), ops[i]? = some o → isAl o = true → o.dst = some d → listed.getD i false = true →
    ∃ cs, w.heap[blk d]? = some (.cells cs (TT d) (0, 0)) ∧ (Stored ops listed d → cs = C d) ∧ (¬ Stored ops listed d → cs = Z d)
  dist : ∀ (i j : Nat) (oi oj : Oper) (d e : Tmp), ops[i]? = some oi → ops[j]? = some oj → isAl oi = true → isAl oj = true → oi.dst = some d → oj.dst = some e → listed.getD i false = true → listed.getD j false = true → d ≠ e → blk d ≠ blk e

theorem waitsOn_spec {o : Oper} {j : Nat} (h : waitsOn md o j = true) : ∃ e ∈ o.after, Region.binds md e = true ∧ e.on = j := by
  obtain ⟨e, he, h⟩ := Array.any_eq_true'.1 h
  simp only [Bool.and_eq_true, beq_iff_eq] at h
  exact ⟨e, he, h.1, h.2⟩
theorem set_self {listed : Array Bool} {i : Nat} (h : i < listed.size) : (listed.setIfInBounds i true).getD i false = true := by simp [h]
theorem set_back {listed : Array Bool} {i j : Nat} (h : (listed.setIfInBounds i true).getD j false = true) : listed.getD j false = true ∨ j = i := by
  by_cases hij : i = j
  · exact .inr hij.symm
  · rw [getD_set_ne false hij] at h; exact .inl h
theorem not_listed {listed : Array Bool} {i : Nat} (h : listed.getD i true = false) : ¬ listed.getD i false = true := by rw [getD_both h]; simp
/-- what an operation looks at is as in the text's order -/
theorem BoxInv.looks {vals : Nat → Value} {Z C : Tmp → Array Value} {TT : Tmp → TypeId} {F : Nat → Act} {blk : Tmp → Nat} {listed : Array Bool} {a : Act} {w : World} (ok : BoxOk md ops) (K : Known P ops W0 vals Z C TT F)
    (inv : BoxInv md ops W0 vals Z C TT (F 0) blk listed a w) {i : Nat} {o : Oper} (hi : ops[i]? = some o) (hr : i ∈ Region.ready md ops listed) (t : Tmp) (ht : t ∈ o.looksAt ops) (hne : stAddr o ≠ some t) : a.tmps[t]? = (F i).tmps[t]? := by
  have hin : i < ops.size := (Array.getElem?_eq_some_iff.1 hi).1
  obtain ⟨hun, o', ho', hall⟩ := mem_ready.1 hr
  obtain rfl : o' = o := Option.some.inj (ho'.symm.trans hi)
  refine inv.agr.same (K.agr ok i (by omega)) t fun j oj hj hd => ?_
  rcases ok.look i j o' oj t hi hj hd ht with rfl | ⟨hlt, hw, hsp⟩ | ⟨hlt, hw⟩
  · refine ⟨⟨fun h => absurd h (not_listed hun), fun h => by omega⟩, fun h => absurd h (not_listed hun)⟩
  · obtain ⟨e, he, hb, rfl⟩ := waitsOn_spec hw
    have hl := hall e he hb
    have hal : isAl oj = false := by
      cases h : isAl oj with
      | false => rfl
      | true => exact absurd (hsp h) hne
    have hst : stAddr oj = none := by
      cases h : stAddr oj with
      | none => rfl
      | some d => have := ok.dstS _ _ _ hj h; rw [this] at hd; cases hd
    exact ⟨⟨fun _ => ⟨hlt, oj, hj, hal, hst⟩, fun _ => hl⟩, fun _ => valOf_det hj hal⟩
  · obtain ⟨e, he, hb, he'⟩ := waitsOn_spec hw
    have hn : ¬ listed.getD j false = true := fun h => by
      have := inv.closed j oj hj h e he hb
      rw [he'] at this
      exact not_listed hun this
    exact ⟨⟨fun h => absurd h hn, fun h => by omega⟩, fun h => absurd h hn⟩

theorem wanted_none {o : Oper} (y : Nat → Option Bool) (h : o.guard = none) : Region.wanted o y = true := by simp [Region.wanted, h]
theorem blk_lt {w : World} {b : Nat} {cs : Array Value} {T : TypeId} (h : w.heap[b]? = some (.cells cs T (0, 0))) : b < w.heap.size := (Array.getElem?_eq_some_iff.1 h).1
/-- a step keeps the invariant -/
theorem BoxInv.step {vals : Nat → Value} {Z C : Tmp → Array Value} {TT : Tmp → TypeId} {F : Nat → Act} {blk : Tmp → Nat} {listed : Array Bool} {a : Act} {w : World} {Q : Exit → Act → World → Prop} (ok : BoxOk md ops) (K : Known P ops W0 vals Z C TT F)
    (inv : BoxInv md ops W0 vals Z C TT (F 0) blk listed a w) {i : Nat} (hr : i ∈ Region.ready md ops listed) :
    wpOp P ops Q i (fun a' w' => ∃ blk', BoxInv md ops W0 vals Z C TT (F 0) blk' (listed.setIfInBounds i true) a' w') a w := by
  obtain ⟨hun, o, hi, hall⟩ := mem_ready.1 hr
  have hin : i < ops.size := (Array.getElem?_eq_some_iff.1 hi).1
  have hni := not_listed hun
  have hil : i < listed.size := by rw [inv.size]; exact hin
  have hsize : (listed.setIfInBounds i true).size = ops.size := by simp [inv.size]
  have hclosed : ∀ (j : Nat) (oj : Oper), ops[j]? = some oj → (listed.setIfInBounds i true).getD j false = true → ∀ e ∈ oj.after, Region.binds md e = true → (listed.setIfInBounds i true).getD e.on false = true := fun j oj hj hl e he hb => by
    rcases set_back hl with h | rfl
    · exact getD_set_true (inv.closed j oj hj h e he hb)
    · obtain rfl : o = oj := Option.some.inj (hi.symm.trans hj)
      exact getD_set_true (hall e he hb)
  have hback : ∀ j, j ≠ i → (listed.setIfInBounds i true).getD j false = true → listed.getD j false = true := fun j hne h => (set_back h).resolve_right hne
  cases hal : isAl o with
  | true =>
    obtain ⟨d, hd, s, os, hs, hsd⟩ := ok.dstA i o hi hal
    have hK := (K.al i o d hi hal hd).1
    unfold wpOp
    simp only [hi, wanted_none _ (ok.guardA i o hi hal), if_true]
    refine .inl ?_
    unfold Oper.wp
    rw [hK a.eval w, Oper.upon_value]
    have hne : ∀ j oj e, ops[j]? = some oj → isAl oj = true → oj.dst = some e → listed.getD j false = true → e ≠ d := fun j oj e hj _ he hl heq => by
      subst heq
      have := ok.dd j i oj o e hj hi he hd
      subst this
      exact hni hl
    refine ⟨fun e => if e = d then w.heap.size else blk e, hsize, hclosed, ?_, inv.bel.alloc inv.bel.size _, fun j oj e hj ha he hl => ?_, fun j oj e hj ha he hl => ?_, fun j k oj ok' e e' hj hk haj hak he he' hl hl' hee => ?_⟩
    · refine (inv.agr.put ok.dd hi hni _).congr (fun j oj e hj he => ⟨fun h => ?_, fun h => ?_⟩) (fun j oj e hj he hl => ?_)
      · rcases h with h | rfl
        · exact getD_set_true h
        · exact set_self hil
      · exact set_back h
      · by_cases hji : j = i
        · subst hji
          obtain rfl : o = oj := Option.some.inj (hi.symm.trans hj)
          simp [valOf, hi, hal, hd]
        · simp only [hji, if_false]
          cases haj : isAl oj with
          | false => rw [valOf_det hj haj, valOf_det hj haj]
          | true =>
            have := hne j oj e hj haj he (hl.resolve_right hji)
            rw [valOf_al hj haj he, valOf_al hj haj he]
            simp [this]
    · rcases set_back hl with h | rfl
      · have := hne j oj e hj ha he h
        simp only [this, if_false]
        exact inv.low j oj e hj ha he h
      · obtain rfl : o = oj := Option.some.inj (hi.symm.trans hj)
        obtain rfl : d = e := Option.some.inj (hd.symm.trans he)
        simp only [if_true]
        exact inv.bel.size
    · have hst : ∀ e, Stored ops (listed.setIfInBounds i true) e ↔ Stored ops listed e := fun e => by
        constructor
        · rintro ⟨s, os, h1, h2, h3⟩
          refine ⟨s, os, h1, h2, hback s (fun h => ?_) h3⟩
          subst h
          obtain rfl : o = os := Option.some.inj (hi.symm.trans h1)
          rw [isAl_stAddr hal] at h2; cases h2
        · rintro ⟨s, os, h1, h2, h3⟩
          exact ⟨s, os, h1, h2, getD_set_true h3⟩
      rcases set_back hl with h | rfl
      · have hed := hne j oj e hj ha he h
        obtain ⟨cs, h1, h2, h3⟩ := inv.box j oj e hj ha he h
        refine ⟨cs, ?_, fun hs => h2 ((hst e).1 hs), fun hs => h3 (fun hs' => hs ((hst e).2 hs'))⟩
        simp only [hed, if_false]
        rw [Below.heap_alloc _ _ _ (blk_lt h1)]
        exact h1
      · obtain rfl : o = oj := Option.some.inj (hi.symm.trans hj)
        obtain rfl : d = e := Option.some.inj (hd.symm.trans he)
        refine ⟨Z d, by simp only [if_true]; show (w.heap.push _)[w.heap.size]? = _; simp, fun hs' => ?_, fun _ => rfl⟩
        obtain ⟨s', os', h1, h2, h3⟩ := (hst d).1 hs'
        obtain ⟨j', oj', hj', haj', hdj', hw'⟩ := ok.allocOf s' os' d h1 h2
        have : j' = j := ok.dd j' j oj' o d hj' hi hdj' hd
        subst this
        obtain ⟨e, he', hb, hon⟩ := waitsOn_spec hw'
        have := inv.closed s' os' h1 h3 e he' hb
        rw [hon] at this
        exact absurd this hni
    · have key : ∀ j oj e, ops[j]? = some oj → isAl oj = true → oj.dst = some e → listed.getD j false = true → blk e < w.heap.size := fun j oj e hj ha he hl => by
        obtain ⟨cs, h1, _⟩ := inv.box j oj e hj ha he hl
        exact blk_lt h1
      rcases set_back hl with h | rfl
      · have h1 := hne j oj e hj haj he h
        have b1 := key j oj e hj haj he h
        rcases set_back hl' with h' | rfl
        · have h2 := hne k ok' e' hk hak he' h'
          simp only [h1, h2, if_false]
          exact inv.dist j k oj ok' e e' hj hk haj hak he he' h h' hee
        · obtain rfl : o = ok' := Option.some.inj (hi.symm.trans hk)
          obtain rfl : d = e' := Option.some.inj (hd.symm.trans he')
          simp only [h1, if_false, if_true]
          omega
      · obtain rfl : o = oj := Option.some.inj (hi.symm.trans hj)
        obtain rfl : d = e := Option.some.inj (hd.symm.trans he)
        rcases set_back hl' with h' | rfl
        · have h2 := hne k ok' e' hk hak he' h'
          have b1 := key k ok' e' hk hak he' h'
          simp only [h2, if_false, if_true]
          omega
        · obtain rfl : o = ok' := Option.some.inj (hi.symm.trans hk)
          exact absurd (Option.some.inj (hd.symm.trans he')) hee
  | false =>
    have hagr : ∀ v, (∀ d, o.dst = some d → v = vals i) → Agr ops (fun j => (listed.setIfInBounds i true).getD j false = true) (valOf ops vals blk) (F 0) (a.put o.dst v) := fun v hv => by
      refine (inv.agr.put ok.dd hi hni _).congr (fun j oj e hj he => ⟨fun h => ?_, fun h => ?_⟩) (fun j oj e hj he hl => ?_)
      · rcases h with h | rfl
        · exact getD_set_true h
        · exact set_self hil
      · exact set_back h
      · by_cases hji : j = i
        · subst hji
          obtain rfl : o = oj := Option.some.inj (hi.symm.trans hj)
          simp only [if_true]
          rw [valOf_det hi hal, hv e he]
        · simp only [hji, if_false]
    have halj : ∀ j oj, ops[j]? = some oj → isAl oj = true → j ≠ i := fun j oj hj ha h => by
      subst h
      obtain rfl : o = oj := Option.some.inj (hi.symm.trans hj)
      rw [hal] at ha; cases ha
    cases hst : stAddr o with
    | none =>
      obtain ⟨hy, hF⟩ := K.det i o hi hal hst
      have hsame := exec_same (ops := ops) (o := o) (a := a) (a' := F i) (fun cs b => ok.sel i o cs b hi) (fun t ht => inv.looks ok K hi hr t ht (by rw [hst]; simp))
      have hstd : ∀ e, Stored ops (listed.setIfInBounds i true) e ↔ Stored ops listed e := fun e => by
        constructor
        · rintro ⟨s, os, h1, h2, h3⟩
          refine ⟨s, os, h1, h2, hback s (fun h => ?_) h3⟩
          subst h
          obtain rfl : o = os := Option.some.inj (hi.symm.trans h1)
          rw [hst] at h2; cases h2
        · rintro ⟨s, os, h1, h2, h3⟩
          exact ⟨s, os, h1, h2, getD_set_true h3⟩
      have done : ∀ w', Below w.heap.size w w' → ∃ blk', BoxInv md ops W0 vals Z C TT (F 0) blk' (listed.setIfInBounds i true) (a.put o.dst (vals i)) w' := fun w' hb => by
        refine ⟨blk, hsize, hclosed, hagr _ fun _ _ => rfl, inv.bel.trans (hb.mono inv.bel.size), fun j oj e hj ha he hl => inv.low j oj e hj ha he (hback j (halj j oj hj ha) hl), fun j oj e hj ha he hl => ?_,
          fun j k oj ok' e e' hj hk haj hak he he' hl hl' hee => inv.dist j k oj ok' e e' hj hk haj hak he he' (hback j (halj j oj hj haj) hl) (hback k (halj k ok' hk hak) hl') hee⟩
        obtain ⟨cs, h1, h2, h3⟩ := inv.box j oj e hj ha he (hback j (halj j oj hj ha) hl)
        exact ⟨cs, (hb.block _ (blk_lt h1)).trans h1, fun hs => h2 ((hstd e).1 hs), fun hs => h3 (fun hs' => hs ((hstd e).2 hs'))⟩
      unfold wpOp
      simp only [hi]
      rcases hy with ⟨hw, hy⟩ | ⟨hw, hv⟩
      · rw [← hsame.2] at hw
        simp only [hw, if_true]
        refine .inl ?_
        have h1 := hy w inv.bel
        unfold Oper.wp
        rw [hsame.1]
        generalize (execOp (F i).eval o).run P w = r at *
        cases r with
        | ok n w' =>
          cases n <;> simp only [comesTo] at h1 <;> simp only [Oper.upon]
          case value u => obtain ⟨rfl, h2⟩ := h1; exact done _ h2
          case skip => obtain ⟨h0, h2⟩ := h1; rw [← h0]; exact done _ h2
          case enter f args => exact h1.mono fun e w'' ⟨he, h2⟩ => by subst he; exact done _ h2
        | halt x w' => simp only [comesTo] at h1
      · rw [← hsame.2] at hw
        simp only [hw, Bool.false_eq_true, if_false]
        rw [← hv]
        exact done w (Below.refl _ _)
    | some d =>
      obtain ⟨hy, hF⟩ := K.st i o d hi hst
      have hdst := ok.dstS i o d hi hst
      obtain ⟨j, oj, hj, haj, hdj, hw⟩ := ok.allocOf i o d hi hst
      obtain ⟨e, he, hb, hon⟩ := waitsOn_spec hw
      have hlj : listed.getD j false = true := by rw [← hon]; exact hall e he hb
      obtain ⟨cs, hc, _, hz⟩ := inv.box j oj d hj haj hdj hlj
      have hns : ¬ Stored ops listed d := fun ⟨s, os, h1, h2, h3⟩ => by
        have := ok.ss s i os o d h1 hi h2 hst
        subst this
        exact hni h3
      obtain rfl := hz hns
      obtain ⟨w', hrun, hwr⟩ := hy (blk d) w hc
      have hFs := (K.agr ok i (by omega)).size
      have hsame := exec_same (ops := ops) (o := o) (a := a) (a' := (F i).put (some d) (.pointer (some ⟨blk d, 0, none⟩))) (fun cs b => ok.sel i o cs b hi) (fun t ht => by
        by_cases htd : t = d
        · subst htd
          rw [inv.agr.onn j oj t hj hlj hdj, valOf_al hj haj hdj]
          simp only [Act.put, Array.getElem?_setIfInBounds, if_true, hFs]
          by_cases hlt : t < (F 0).tmps.size
          · simp [hlt]
          · simp [hlt]
        · rw [inv.looks ok K hi hr t ht (by rw [hst]; exact fun h => htd (Option.some.inj h).symm)]
          simp only [Act.put, Array.getElem?_setIfInBounds_ne (Ne.symm htd)])
      unfold wpOp
      simp only [hi, wanted_none _ (ok.guardS i o d hi hst), if_true]
      refine .inl ?_
      unfold Oper.wp
      rw [hsame.1, hrun, Oper.upon_skip]
      have hbl : W0.heap.size ≤ blk d := inv.low j oj d hj haj hdj hlj
      have hbel : Below W0.heap.size W0 w' := inv.bel.trans ⟨hwr.os, hwr.tape, hwr.output, by rw [hwr.size]; exact Nat.le_refl _, fun k hk => hwr.rest k (by omega)⟩
      refine ⟨blk, hsize, hclosed, hagr _ (fun d h => by rw [hdst] at h; cases h), hbel, fun k ok' e' hk ha he' hl => inv.low k ok' e' hk ha he' (hback k (halj k ok' hk ha) hl), fun k ok' e' hk ha he' hl => ?_,
        fun j k oj ok' e e' hj hk haj hak he he' hl hl' hee => inv.dist j k oj ok' e e' hj hk haj hak he he' (hback j (halj j oj hj haj) hl) (hback k (halj k ok' hk hak) hl') hee⟩
      have hlk := hback k (halj k ok' hk ha) hl
      by_cases hed : e' = d
      · subst hed
        exact ⟨C e', hwr.there, fun _ => rfl, fun hn => absurd ⟨i, o, hi, hst, set_self hil⟩ hn⟩
      · obtain ⟨cs', h1, h2, h3⟩ := inv.box k ok' e' hk ha he' hlk
        have hbb := inv.dist k j ok' oj e' d hk hj ha haj he' hdj hlk hlj hed
        have hstd : Stored ops (listed.setIfInBounds i true) e' ↔ Stored ops listed e' := by
          constructor
          · rintro ⟨s, os, h1, h2, h3⟩
            refine ⟨s, os, h1, h2, hback s (fun h => ?_) h3⟩
            subst h
            obtain rfl : o = os := Option.some.inj (hi.symm.trans h1)
            rw [hst] at h2
            exact hed (Option.some.inj h2).symm
          · rintro ⟨s, os, h1, h2, h3⟩
            exact ⟨s, os, h1, h2, getD_set_true h3⟩
        exact ⟨cs', (hwr.rest _ hbb).trans h1, fun hs => h2 (hstd.1 hs), fun hs => h3 (fun hs' => hs (hstd.2 hs'))⟩

/-- how many operations are left -/
def leftN (ops : Array Oper) (listed : Array Bool) : Nat := (List.range ops.size).countP fun i => !listed.getD i true
theorem countP_less {α : Type} {p q : α → Bool} : ∀ (l : List α), (∀ x ∈ l, q x = true → p x = true) → (∃ x ∈ l, p x = true ∧ q x = false) → l.countP q < l.countP p
  | [], _, h => by obtain ⟨x, hx, _⟩ := h; cases hx
  | y :: l, hall, h => by
    have hle : l.countP q ≤ l.countP p := List.countP_mono_left fun x hx => hall x (List.mem_cons_of_mem _ hx)
    rw [List.countP_cons, List.countP_cons]
    obtain ⟨x, hx, hp, hq⟩ := h
    rcases List.mem_cons.1 hx with rfl | hx
    · simp only [hp, hq, if_true, Bool.false_eq_true, if_false]; omega
    · have ih := countP_less l (fun x hx => hall x (List.mem_cons_of_mem _ hx)) ⟨x, hx, hp, hq⟩
      have := hall y List.mem_cons_self
      by_cases hy : q y = true
      · simp only [hy, this hy, if_true]; omega
      · have hy' : q y = false := by simpa using hy
        simp only [hy', Bool.false_eq_true, if_false]
        split <;> omega
theorem leftN_set {listed : Array Bool} {i : Nat} (hr : i ∈ Region.ready md ops listed) (hs : listed.size = ops.size) : leftN ops (listed.setIfInBounds i true) < leftN ops listed := by
  obtain ⟨hun, o, hi, _⟩ := mem_ready.1 hr
  have hin : i < ops.size := (Array.getElem?_eq_some_iff.1 hi).1
  refine countP_less _ (fun x _ hx => ?_) ⟨i, List.mem_range.2 hin, by simpa using hun, by simp [hs, hin]⟩
  by_cases hxi : i = x
  · subst hxi; simp [hs, hin] at hx
  · rw [getD_set_ne true hxi] at hx; exact hx
/-- where nothing may come up, all has -/
theorem all_listed {listed : Array Bool} (ok : BoxOk md ops) (hs : listed.size = ops.size) (h : Region.ready md ops listed = []) : ∀ i, i < ops.size → listed.getD i false = true := by
  intro i
  induction i using Nat.strongRecOn with
  | _ i ih =>
    intro hi
    refine Classical.byContradiction fun hn => ?_
    have hf : listed.getD i false = false := by simpa using hn
    have hu : listed.getD i true = false := getD_in (by omega) hf
    have ho : ops[i]? = some ops[i] := Array.getElem?_eq_getElem hi
    have : i ∈ Region.ready md ops listed := mem_ready.2 ⟨hu, _, ho, fun e he hb => by
      have hlt := ok.back i _ ho e he hb
      exact ih e.on hlt (by omega)⟩
    rw [h] at this; cases this

theorem wpAny_of_inv {vals : Nat → Value} {Z C : Tmp → Array Value} {TT : Tmp → TypeId} {F : Nat → Act} {Q : Exit → Act → World → Prop} (ok : BoxOk md ops) (K : Known P ops W0 vals Z C TT F)
    (hend : ∀ blk listed a w, BoxInv md ops W0 vals Z C TT (F 0) blk listed a w → (∀ i, i < ops.size → listed.getD i false = true) → Q .normal a w) :
    ∀ (fuel : Nat) (blk : Tmp → Nat) (listed : Array Bool) (a : Act) (w : World), leftN ops listed ≤ fuel → BoxInv md ops W0 vals Z C TT (F 0) blk listed a w → wpAny P md ops Q fuel listed a w
  | 0, blk, listed, a, w, hf, inv => by
    have hr : Region.ready md ops listed = [] := by
      cases hr : Region.ready md ops listed with
      | nil => rfl
      | cons i l =>
        have := leftN_set (ops := ops) (i := i) (md := md) (by rw [hr]; exact List.mem_cons_self) inv.size
        omega
    exact ⟨hr, hend blk listed a w inv (all_listed ok inv.size hr)⟩
  | fuel + 1, blk, listed, a, w, hf, inv => by
    refine ⟨fun hr => hend blk listed a w inv (all_listed ok inv.size hr), fun i hi => ?_⟩
    have hless := leftN_set hi inv.size
    refine wpOp_mono (fun a' w' ⟨blk', inv'⟩ => ?_) (inv.step ok K hi)
    exact wpAny_of_inv ok K hend fuel blk' _ a' w' (by omega) inv'
end
end Go.Proofs.YtdfkfcpkejjlnaaDoor
namespace Go.Proofs.YtdfkfcpkejjlnaaDoor
set_option linter.unusedVariables false
open Go Go.RowKit
section
variable {P : Program} {ops : Array Oper} {md : Region.Mode} {W0 : World}

/-- the boxes' slots, filled -/
def putAll (blk : Tmp → Nat) : List Tmp → Act → Act
  | [], a => a
  | d :: l, a => putAll blk l (a.put (some d) (.pointer (some ⟨blk d, 0, none⟩)))
/-- the operations of the text, one behind the other -/
def textB (P : Program) (ops : Array Oper) (W0 : World) (Q : List (Tmp × TypeId × Array Value) → Act → Prop) : List Oper → List (Tmp × TypeId × Array Value) → List (Tmp × TypeId × Array Value) → Act → Prop
  | [], _, bx, a => Q bx a
  | o :: rest, zs, bx, a =>
    if isAl o = true then ∃ (d : Tmp) (T : TypeId) (z : Array Value), o.dst = some d ∧ zs.lookup d = none ∧ allocs P o T z ∧ textB P ops W0 Q rest ((d, T, z) :: zs) bx a
    else match stAddr o with
      | some d => ∃ (T : TypeId) (z c : Array Value), zs.lookup d = some (T, z) ∧ bx.lookup d = none ∧ stores P o T d z c a ∧ textB P ops W0 Q rest zs ((d, T, c) :: bx) a
      | none => ∃ v, yieldsB P ops W0 o v a ∧ textB P ops W0 Q rest zs bx (a.put o.dst v)
theorem textB_det {Q : List (Tmp × TypeId × Array Value) → Act → Prop} {o : Oper} {rest : List Oper} {zs bx : List (Tmp × TypeId × Array Value)} {a : Act} (v : Value) (h1 : isAl o = false) (h2 : stAddr o = none) (hw : Region.wanted o (yielded ops a.tmps) = true)
    (hy : ∀ w, Below W0.heap.size W0 w → comesTo P (fun w' => Below w.heap.size w w') v ((execOp a.eval o).run P w)) (h : textB P ops W0 Q rest zs bx (a.put o.dst v)) : textB P ops W0 Q (o :: rest) zs bx a := by
  simp only [textB, h1, h2, Bool.false_eq_true, if_false]
  exact ⟨v, .inl ⟨hw, hy⟩, h⟩
theorem textB_skip {Q : List (Tmp × TypeId × Array Value) → Act → Prop} {o : Oper} {rest : List Oper} {zs bx : List (Tmp × TypeId × Array Value)} {a : Act} (h1 : isAl o = false) (h2 : stAddr o = none) (hw : Region.wanted o (yielded ops a.tmps) = false)
    (h : textB P ops W0 Q rest zs bx (a.put o.dst undef)) : textB P ops W0 Q (o :: rest) zs bx a := by
  simp only [textB, h1, h2, Bool.false_eq_true, if_false]
  exact ⟨undef, .inr ⟨hw, rfl⟩, h⟩
theorem textB_al {Q : List (Tmp × TypeId × Array Value) → Act → Prop} {o : Oper} {rest : List Oper} {zs bx : List (Tmp × TypeId × Array Value)} {a : Act} (d : Tmp) (T : TypeId) (z : Array Value) (h1 : isAl o = true) (hd : o.dst = some d) (hz : zs.lookup d = none)
    (ha : allocs P o T z) (h : textB P ops W0 Q rest ((d, T, z) :: zs) bx a) : textB P ops W0 Q (o :: rest) zs bx a := by
  simp only [textB, h1, if_true]
  exact ⟨d, T, z, hd, hz, ha, h⟩
theorem textB_st {Q : List (Tmp × TypeId × Array Value) → Act → Prop} {o : Oper} {rest : List Oper} {zs bx : List (Tmp × TypeId × Array Value)} {a : Act} (d : Tmp) (T : TypeId) (z c : Array Value) (h1 : isAl o = false) (h2 : stAddr o = some d) (hz : zs.lookup d = some (T, z)) (hb : bx.lookup d = none)
    (hs : stores P o T d z c a) (h : textB P ops W0 Q rest zs ((d, T, c) :: bx) a) : textB P ops W0 Q (o :: rest) zs bx a := by
  simp only [textB, h1, h2, Bool.false_eq_true, if_false]
  exact ⟨T, z, c, hz, hb, hs, h⟩

theorem lookup_ne {β : Type} {d d' : Tmp} {x : β} {l : List (Tmp × β)} (h : ¬ d' = d) : ((d, x) :: l).lookup d' = l.lookup d' := by
  have hb : (d' == d) = false := by simpa using h
  simp only [List.lookup, hb]
/-- what the walk of the text gives -/
theorem textB_get {Q : List (Tmp × TypeId × Array Value) → Act → Prop} : ∀ (l : List Oper) (k : Nat) (zs bx : List (Tmp × TypeId × Array Value)) (a : Act), textB P ops W0 Q l zs bx a →
    ∃ (vals : Nat → Value) (Z C : Tmp → Array Value) (TT : Tmp → TypeId) (F : Nat → Act) (bf : List (Tmp × TypeId × Array Value)), F k = a ∧
      (∀ (j : Nat) (o : Oper), l[j]? = some o → isAl o = false → stAddr o = none → yieldsB P ops W0 o (vals (k + j)) (F (k + j)) ∧ F (k + j + 1) = (F (k + j)).put o.dst (vals (k + j))) ∧
      (∀ (j : Nat) (o : Oper) (d : Tmp), l[j]? = some o → isAl o = true → o.dst = some d → allocs P o (TT d) (Z d) ∧ F (k + j + 1) = F (k + j)) ∧
      (∀ (j : Nat) (o : Oper) (d : Tmp), l[j]? = some o → stAddr o = some d → stores P o (TT d) d (Z d) (C d) (F (k + j)) ∧ F (k + j + 1) = F (k + j) ∧ (d, TT d, C d) ∈ bf) ∧
      (∀ d T z, zs.lookup d = some (T, z) → TT d = T ∧ Z d = z) ∧ (∀ d T c, bx.lookup d = some (T, c) → C d = c) ∧
      (∀ e ∈ bf, e ∈ bx ∨ ∃ (j : Nat) (o : Oper), l[j]? = some o ∧ stAddr o = some e.1 ∧ e = (e.1, TT e.1, C e.1)) ∧ (∀ e ∈ bx, e ∈ bf) ∧ Q bf (F (k + l.length))
  | [], k, zs, bx, a, h => ⟨fun _ => undef, fun d => ((zs.lookup d).map (·.2)).getD #[], fun d => ((bx.lookup d).map (·.2)).getD #[], fun d => ((zs.lookup d).map (·.1)).getD 0, fun _ => a, bx, rfl, fun j o h => by simp at h, fun j o d h => by simp at h, fun j o d h => by simp at h,
      fun d T z h => by simp [h], fun d T c h => by simp [h], fun e he => .inl he, fun e he => he, h⟩
  | o :: rest, k, zs, bx, a, h => by
    have key : ∀ {p : Nat → Oper → Prop}, p 0 o → (∀ (j : Nat) (o' : Oper), rest[j]? = some o' → p (j + 1) o') → ∀ (j : Nat) (o' : Oper), (o :: rest)[j]? = some o' → p j o' := fun h0 hs j o' hj => by
      cases j with
      | zero => simp at hj; subst hj; exact h0
      | succ j => exact hs j o' (by simpa using hj)
    by_cases hal : isAl o = true
    · simp only [textB, hal, if_true] at h
      obtain ⟨d, T, z, hd, hz, ha, h⟩ := h
      obtain ⟨vals, Z, C, TT, F, bf, hF, h1, h2, h3, h4, h5, h6, h7, h8⟩ := textB_get rest (k + 1) _ bx a h
      have hT := h4 d T z (by simp)
      refine ⟨vals, Z, C, TT, fun i => if i = k then a else F i, bf, by simp, fun j o' hj ha' hs' => ?_, fun j o' d' hj ha' hd' => ?_, fun j o' d' hj hs' => ?_, fun d' T' z' h' => ?_, h5, fun e he => ?_, h7, ?_⟩
      · cases j with
        | zero => simp at hj; subst hj; rw [hal] at ha'; cases ha'
        | succ j => have := h1 j o' (by simpa using hj) ha' hs'; simpa [Nat.add_assoc, Nat.add_comm 1 j, show k + (j + 1) ≠ k by omega, show k + (j + 1 + 1) ≠ k by omega] using this
      · cases j with
        | zero => simp at hj; subst hj; obtain rfl := Option.some.inj (hd.symm.trans hd'); rw [hT.1, hT.2]; exact ⟨ha, by simp [hF]⟩
        | succ j => have := h2 j o' d' (by simpa using hj) ha' hd'; simpa [Nat.add_assoc, Nat.add_comm 1 j, show k + (j + 1) ≠ k by omega, show k + (j + 1 + 1) ≠ k by omega] using this
      · cases j with
        | zero => simp at hj; subst hj; rw [isAl_stAddr hal] at hs'; cases hs'
        | succ j => have := h3 j o' d' (by simpa using hj) hs'; simpa [Nat.add_assoc, Nat.add_comm 1 j, show k + (j + 1) ≠ k by omega, show k + (j + 1 + 1) ≠ k by omega] using this
      · by_cases hdd : d' = d
        · subst hdd; rw [hz] at h'; cases h'
        · refine h4 d' T' z' ?_
          rw [lookup_ne hdd]; exact h'
      · rcases h6 e he with h | ⟨j, o', hj, hs, he'⟩
        · exact .inl h
        · exact .inr ⟨j + 1, o', by simpa using hj, hs, he'⟩
      · have : k + (o :: rest).length = k + 1 + rest.length := by simp; omega
        simp only [this, show k + 1 + rest.length ≠ k by omega, if_false]
        exact h8
    · have hal' : isAl o = false := by simpa using hal
      simp only [textB, hal', Bool.false_eq_true, if_false] at h
      cases hst : stAddr o with
      | some d =>
        simp only [hst] at h
        obtain ⟨T, z, c, hz, hb, hs, h⟩ := h
        obtain ⟨vals, Z, C, TT, F, bf, hF, h1, h2, h3, h4, h5, h6, h7, h8⟩ := textB_get rest (k + 1) zs _ a h
        have hT := h4 d T z hz
        have hC := h5 d T c (by simp)
        refine ⟨vals, Z, C, TT, fun i => if i = k then a else F i, bf, by simp, fun j o' hj ha' hs' => ?_, fun j o' d' hj ha' hd' => ?_, fun j o' d' hj hs' => ?_, h4, fun d' T' c' h' => ?_, fun e he => ?_, fun e he => h7 e (List.mem_cons_of_mem _ he), ?_⟩
        · cases j with
          | zero => simp at hj; subst hj; rw [hst] at hs'; cases hs'
          | succ j => have := h1 j o' (by simpa using hj) ha' hs'; simpa [Nat.add_assoc, Nat.add_comm 1 j, show k + (j + 1) ≠ k by omega, show k + (j + 1 + 1) ≠ k by omega] using this
        · cases j with
          | zero => simp at hj; subst hj; rw [hal'] at ha'; cases ha'
          | succ j => have := h2 j o' d' (by simpa using hj) ha' hd'; simpa [Nat.add_assoc, Nat.add_comm 1 j, show k + (j + 1) ≠ k by omega, show k + (j + 1 + 1) ≠ k by omega] using this
        · cases j with
          | zero =>
            simp at hj; subst hj; obtain rfl := Option.some.inj (hst.symm.trans hs'); rw [hT.1, hT.2, hC]
            exact ⟨by simpa using hs, by simp [hF], h7 _ List.mem_cons_self⟩
          | succ j => have := h3 j o' d' (by simpa using hj) hs'; simpa [Nat.add_assoc, Nat.add_comm 1 j, show k + (j + 1) ≠ k by omega, show k + (j + 1 + 1) ≠ k by omega] using this
        · by_cases hdd : d' = d
          · subst hdd; rw [hb] at h'; cases h'
          · refine h5 d' T' c' ?_
            rw [lookup_ne hdd]; exact h'
        · rcases h6 e he with h | ⟨j, o', hj, hs', he'⟩
          · rcases List.mem_cons.1 h with rfl | h
            · exact .inr ⟨0, o, by simp, hst, by simp [hT.1, hC]⟩
            · exact .inl h
          · exact .inr ⟨j + 1, o', by simpa using hj, hs', he'⟩
        · have : k + (o :: rest).length = k + 1 + rest.length := by simp; omega
          simp only [this, show k + 1 + rest.length ≠ k by omega, if_false]
          exact h8
      | none =>
        simp only [hst] at h
        obtain ⟨v, hy, h⟩ := h
        obtain ⟨vals, Z, C, TT, F, bf, hF, h1, h2, h3, h4, h5, h6, h7, h8⟩ := textB_get rest (k + 1) zs bx _ h
        refine ⟨fun i => if i = k then v else vals i, Z, C, TT, fun i => if i = k then a else F i, bf, by simp, fun j o' hj ha' hs' => ?_, fun j o' d' hj ha' hd' => ?_, fun j o' d' hj hs' => ?_, h4, h5, fun e he => ?_, h7, ?_⟩
        · cases j with
          | zero => simp at hj; subst hj; exact ⟨by simpa using hy, by simp [hF]⟩
          | succ j => have := h1 j o' (by simpa using hj) ha' hs'; simpa [Nat.add_assoc, Nat.add_comm 1 j, show k + (j + 1) ≠ k by omega, show k + (j + 1 + 1) ≠ k by omega] using this
        · cases j with
          | zero => simp at hj; subst hj; rw [hal'] at ha'; cases ha'
          | succ j => have := h2 j o' d' (by simpa using hj) ha' hd'; simpa [Nat.add_assoc, Nat.add_comm 1 j, show k + (j + 1) ≠ k by omega, show k + (j + 1 + 1) ≠ k by omega] using this
        · cases j with
          | zero => simp at hj; subst hj; rw [hst] at hs'; cases hs'
          | succ j => have := h3 j o' d' (by simpa using hj) hs'; simpa [Nat.add_assoc, Nat.add_comm 1 j, show k + (j + 1) ≠ k by omega, show k + (j + 1 + 1) ≠ k by omega] using this
        · rcases h6 e he with h | ⟨j, o', hj, hs, he'⟩
          · exact .inl h
          · exact .inr ⟨j + 1, o', by simpa using hj, hs, he'⟩
        · have : k + (o :: rest).length = k + 1 + rest.length := by simp; omega
          simp only [this, show k + 1 + rest.length ≠ k by omega, if_false]
          exact h8

/-- what the boxes come to, in whatever order: other blocks, each new, each with its cells -/
def boxed (W0 : World) (Q : Exit → Act → World → Prop) (bx : List (Tmp × TypeId × Array Value)) (a : Act) : Prop :=
  ∀ (blk : Tmp → Nat) (w : World), Below W0.heap.size W0 w → (∀ e ∈ bx, W0.heap.size ≤ blk e.1 ∧ w.heap[blk e.1]? = some (.cells e.2.2 e.2.1 (0, 0))) → (∀ e ∈ bx, ∀ f ∈ bx, e.1 ≠ f.1 → blk e.1 ≠ blk f.1) → Q .normal (putAll blk (bx.map (·.1)) a) w

theorem putAll_agr (ok : BoxOk md ops) {vals : Nat → Value} {blk : Tmp → Nat} {a0 : Act} : ∀ (l : List Tmp) (L : Nat → Prop) (a : Act), Agr ops L (valOf ops vals blk) a0 a →
    (∀ d ∈ l, ∃ (i : Nat) (o : Oper), ops[i]? = some o ∧ isAl o = true ∧ o.dst = some d) →
    Agr ops (fun i => L i ∨ ∃ o d, ops[i]? = some o ∧ isAl o = true ∧ o.dst = some d ∧ d ∈ l) (valOf ops vals blk) a0 (putAll blk l a)
  | [], L, a, h, _ => h.congr (fun i o d _ _ => by simp) (fun _ _ _ _ _ _ => rfl)
  | d :: l, L, a, h, hl => by
    obtain ⟨i, o, hi, ha, hd⟩ := hl d List.mem_cons_self
    have h1 : Agr ops (fun j => L j ∨ j = i) (valOf ops vals blk) a0 (a.put (some d) (.pointer (some ⟨blk d, 0, none⟩))) := by
      by_cases hL : L i
      · have he : a.put (some d) (.pointer (some ⟨blk d, 0, none⟩)) = a := by
          obtain ⟨tm, df⟩ := a
          simp only [Act.put]
          congr 1
          apply Array.ext_getElem?
          intro t
          by_cases ht : d = t
          · subst ht
            have := h.onn i o d hi hL hd
            rw [valOf_al hi ha hd] at this
            have hs := h.size
            simp only at this hs
            rw [Array.getElem?_setIfInBounds]
            simp only [if_true]
            rw [this]
            by_cases hlt : d < a0.tmps.size
            · simp [hs, hlt]
            · simp [hs, hlt]
          · rw [Array.getElem?_setIfInBounds_ne ht]
        rw [he]
        exact h.congr (fun j o' d' _ _ => ⟨fun h => .inl h, fun h => (by rcases h with h | rfl; exact h; exact hL)⟩) (fun _ _ _ _ _ _ => rfl)
      · have := h.put ok.dd hi hL (.pointer (some ⟨blk d, 0, none⟩))
        rw [hd] at this
        refine this.congr (fun j o' d' _ _ => Iff.rfl) (fun j o' d' hj hd' hL' => ?_)
        by_cases hji : j = i
        · subst hji; simp [valOf_al hi ha hd]
        · simp [hji]
    have h2 := putAll_agr ok l _ _ h1 (fun d' hd' => hl d' (List.mem_cons_of_mem _ hd'))
    refine h2.congr (fun j o' d' hj hd' => ⟨fun h => ?_, fun h => ?_⟩) (fun _ _ _ _ _ _ => rfl)
    · rcases h with (h | rfl) | ⟨o'', d'', h1, h2, h3, h4⟩
      · exact .inl h
      · exact .inr ⟨o, d, hi, ha, hd, List.mem_cons_self⟩
      · exact .inr ⟨o'', d'', h1, h2, h3, List.mem_cons_of_mem _ h4⟩
    · rcases h with h | ⟨o'', d'', g1, g2, g3, g4⟩
      · exact .inl (.inl h)
      · rcases List.mem_cons.1 g4 with rfl | g4
        · exact .inl (.inr (ok.dd j i o'' o d'' g1 hi g3 hd))
        · exact .inr ⟨o'', d'', g1, g2, g3, g4⟩

/-- A REGION WHOSE OPERATIONS YIELD ONE VALUE IN EVERY WORLD THAT HAS GROWN, BESIDE NEW BLOCKS THAT ARE LAID AND STORED INTO ONCE EACH. -/
theorem wp_region_boxes {id : Nat} {Q : Exit → Act → World → Prop} {a : Act} {w : World} {l : List Oper} (W0 : World) (hm : P.follows .mixedOrders = true) (hB : boxB .any l.toArray = true)
    (h0 : Below W0.heap.size W0 w) (h : textB P l.toArray W0 (boxed W0 Q) l [] [] a) : (Code.region id l.toArray true).wp P Q a w := by
  have ok := boxB_spec hB
  obtain ⟨vals, Z, C, TT, F, bf, hF, h1, h2, h3, _, _, h6, _, h8⟩ := textB_get l 0 [] [] a h
  have K : Known P l.toArray W0 vals Z C TT F := ⟨fun i o hi ha hs => by simpa using h1 i o (by simpa using hi) ha hs, fun i o d hi ha hd => by simpa using h2 i o d (by simpa using hi) ha hd,
    fun i o d hi hs => by have := h3 i o d (by simpa using hi) hs; simp only [Nat.zero_add] at this; exact ⟨this.1, this.2.1⟩⟩
  refine wp_region_any hm ?_
  subst hF
  refine wpAny_of_inv ok K (fun blk listed a' w' inv hall => ?_) l.toArray.size (fun _ => 0) _ _ _ ?_ ⟨by simp, fun j oj _ hl => (by rw [getD_replicate_false] at hl; cases hl), ?_, h0.drew, fun i o d _ _ _ hl => (by rw [getD_replicate_false] at hl; cases hl), fun i o d _ _ _ hl => (by rw [getD_replicate_false] at hl; cases hl), fun i j oi oj d e _ _ _ _ _ _ hl => (by rw [getD_replicate_false] at hl; cases hl)⟩
  · have hst : ∀ e ∈ bf, ∃ (j : Nat) (o : Oper), l.toArray[j]? = some o ∧ stAddr o = some e.1 ∧ e = (e.1, TT e.1, C e.1) := fun e he => by
      rcases h6 e he with h | ⟨j, o, hj, hs, he'⟩
      · cases h
      · exact ⟨j, o, by simpa using hj, hs, he'⟩
    have hbox : ∀ e ∈ bf, ∃ (i : Nat) (o : Oper), l.toArray[i]? = some o ∧ isAl o = true ∧ o.dst = some e.1 ∧ Stored l.toArray listed e.1 ∧ e = (e.1, TT e.1, C e.1) := fun e he => by
      obtain ⟨j, o, hj, hs, he'⟩ := hst e he
      obtain ⟨i, oi, hi, ha, hd, _⟩ := ok.allocOf j o e.1 hj hs
      exact ⟨i, oi, hi, ha, hd, ⟨j, o, hj, hs, hall j (Array.getElem?_eq_some_iff.1 hj).1⟩, he'⟩
    have hfin : a' = putAll blk (bf.map (·.1)) (F l.length) := by
      have hA := K.agr ok l.toArray.size (Nat.le_refl _)
      have hA' : Agr l.toArray (fun j => j < l.toArray.size ∧ isDet l.toArray j) (valOf l.toArray vals blk) (F 0) (F l.length) := by
        have : l.toArray.size = l.length := by simp
        rw [this] at hA ⊢
        exact hA.congr (fun _ _ _ _ _ => Iff.rfl) (fun i o d hi hd hL => by
          obtain ⟨o', ho', ha', _⟩ := hL.2
          rw [valOf_det ho' ha'])
      have hP := putAll_agr ok (bf.map (·.1)) _ _ hA' (fun d hd => by
        obtain ⟨e, he, rfl⟩ := List.mem_map.1 hd
        obtain ⟨i, o, hi, ha, hd, _⟩ := hbox e he
        exact ⟨i, o, hi, ha, hd⟩)
      refine inv.agr.unique hP fun i o d hi hd => ⟨⟨fun _ => ?_, fun _ => hall i (Array.getElem?_eq_some_iff.1 hi).1⟩, fun _ => rfl⟩
      by_cases hal : isAl o = true
      · obtain ⟨d', hd', s, os, hs, hsd⟩ := ok.dstA i o hi hal
        obtain rfl : d' = d := Option.some.inj (hd'.symm.trans hd)
        have hm := (h3 s os d' (by simpa using hs) hsd).2.2
        exact .inr ⟨o, d', hi, hal, hd, List.mem_map.2 ⟨_, hm, rfl⟩⟩
      · refine .inl ⟨(Array.getElem?_eq_some_iff.1 hi).1, o, hi, by simpa using hal, ?_⟩
        cases hs : stAddr o with
        | none => rfl
        | some e => have := ok.dstS i o e hi hs; rw [this] at hd; cases hd
    rw [hfin]
    refine (show boxed W0 Q bf (F l.length) by simpa using h8) blk w' inv.bel (fun e he => ?_) (fun e he f hf hne => ?_)
    · obtain ⟨i, o, hi, ha, hd, hs, he'⟩ := hbox e he
      have hli := hall i (Array.getElem?_eq_some_iff.1 hi).1
      obtain ⟨cs, hc, hC, _⟩ := inv.box i o e.1 hi ha hd hli
      refine ⟨inv.low i o e.1 hi ha hd hli, ?_⟩
      rw [hc, hC hs]
      rw [he']
    · obtain ⟨i, o, hi, ha, hd, _⟩ := hbox e he
      obtain ⟨j, o', hj, ha', hd', _⟩ := hbox f hf
      exact inv.dist i j o o' e.1 f.1 hi hj ha ha' hd hd' (hall i (Array.getElem?_eq_some_iff.1 hi).1) (hall j (Array.getElem?_eq_some_iff.1 hj).1) hne
  · unfold leftN
    have := List.countP_le_length (p := fun i => !(Array.replicate l.toArray.size false).getD i true) (l := List.range l.toArray.size)
    simpa using this
  · exact (Agr.refl (valOf l.toArray vals fun _ => 0) _).congr (fun i o d _ _ => ⟨fun h => h.elim, fun h => by rw [getD_replicate_false] at h; cases h⟩) (fun _ _ _ _ _ h => h.elim)
theorem cell_of_block {w : World} {b o : Nat} {cs : Array Value} {T : TypeId} {v : Value} (h : w.heap[b]? = some (.cells cs T (0, 0))) (hv : cs[o]? = some v) : w.cell? ⟨b, o, none⟩ = some v := by simp [World.cell?, h, hv]
theorem free_of_block {w : World} {b : Nat} {cs : Array Value} {T : TypeId} (o : Nat) (h : w.heap[b]? = some (.cells cs T (0, 0))) : w.frozen? ⟨b, o, none⟩ = false := by simp [World.frozen?, h]
theorem wrote_refl {w : World} {b : Nat} {cs : Array Value} {T : TypeId} (h : w.heap[b]? = some (.cells cs T (0, 0))) : WroteTo b T cs w w := ⟨rfl, rfl, rfl, rfl, fun _ _ => rfl, h⟩
theorem WroteTo.set {w0 w : World} {b : Nat} {cs : Array Value} {T : TypeId} (h : WroteTo b T cs w0 w) (o : Nat) (v : Value) : WroteTo b T (cs.setIfInBounds o v) w0 (w.setCell ⟨b, o, none⟩ v) := by
  refine ⟨h.os, h.tape, h.output, by simp [World.setCell, h.size], fun k hk => (Below.heap_setCell _ _ _ _ hk).trans (h.rest k hk), ?_⟩
  have hb := h.there
  have hlt : b < w.heap.size := blk_lt hb
  have h' : w.heap[b] = .cells cs T (0, 0) := by simpa [Array.getElem?_eq_getElem hlt] using hb
  show (w.heap.modify b _)[b]? = _
  rw [Array.getElem?_eq_getElem (by simpa using hlt), Array.getElem_modify_self, h']
  rfl
end
end Go.Proofs.YtdfkfcpkejjlnaaDoor
namespace Go.Proofs.YtdfkfcpkejjlnaaDoor
set_option linter.unusedVariables false
open Go Go.RowKit

theorem all_range_ints : ∀ (xs ys : List Int), xs.length = ys.length → ((List.range xs.length).all fun i => xs.getD i 0 == ys.getD i 0) = (xs == ys)
  | [], [], _ => rfl
  | x :: xs, y :: ys, h => by
    have ih := all_range_ints xs ys (by simpa using h)
    rw [List.length_cons, List.range_succ_eq_map, List.all_cons, List.all_map]
    simp only [List.getD_cons_zero, Function.comp_def, List.getD_cons_succ, ih]
    simp [List.cons_beq_cons]
  | [], _ :: _, h => by simp at h
  | _ :: _, [], h => by simp at h
section
variable {P : Program} (w : World)
theorem run_equalIn_ints (d : Nat) (t e : TypeId) (n : Nat) (k k' : IntKind) (ht : P.underlying t = some (.array n e)) (he : P.underlying e = some (.int k')) (hsz : ∀ w, (sizeOf e).run P w = .ok 1 w)
    (xs ys : List Int) (hx : xs.length = n) (hy : ys.length = n) :
    (Op.equalIn (d + 2) t (.agg (xs.map (Value.int k)).toArray) (.agg (ys.map (Value.int k)).toArray)).run P w = .ok (xs == ys) w := by
  rw [← all_range_ints xs ys (hx.trans hy.symm), hx, List.range_eq_range', Op.equalIn]
  simp only [Sem.run_bind, run_underlying ht, Result.andThen_ok, hsz, Std.Legacy.Range.forIn_eq_forIn_range', Std.Legacy.Range.size, Nat.sub_zero, Nat.add_sub_cancel, Nat.div_one]
  have hl : ∀ i ∈ List.range' 0 n 1, i < n := fun i hi => by simpa using (List.mem_range'_1.1 hi).2
  generalize List.range' 0 n 1 = l at hl ⊢
  induction l with
  | nil => simp
  | cons i l ih =>
    have hi : i < n := hl i (by simp)
    have px : (part e (xs.map (Value.int k)).toArray (i * 1)).run P w = .ok (.int k (xs.getD i 0)) w := by
      simp [part, isAgg, run_underlying he, List.getD, List.getElem?_eq_getElem (show i < xs.length by omega)]
    have py : (part e (ys.map (Value.int k)).toArray (i * 1)).run P w = .ok (.int k (ys.getD i 0)) w := by
      simp [part, isAgg, run_underlying he, List.getD, List.getElem?_eq_getElem (show i < ys.length by omega)]
    have pe : (Op.equalIn (d + 1) e (.int k (xs.getD i 0)) (.int k (ys.getD i 0))).run P w = .ok (xs.getD i 0 == ys.getD i 0) w := run_equalIn_int w d e k k' _ _ he
    simp only [List.forIn_cons, Sem.run_bind, px, py, pe, Result.andThen_ok, List.all_cons]
    cases hb : (xs.getD i 0 == ys.getD i 0)
    · simp
    · simp only [Bool.not_true, Bool.false_eq_true, if_false, Sem.run_pure, Result.andThen_ok, Bool.true_and]
      exact ih fun j hj => hl j (by simp [hj])
theorem run_eqFields_all {d : Nat} {X Y : Array Value} (q : Field → Bool) : ∀ fs : List Field, (∀ f ∈ fs, f.name ≠ "_" ∧ ∃ a b, (part f.type X f.offset).run P w = .ok a w ∧ (part f.type Y f.offset).run P w = .ok b w ∧ (Op.equalIn d f.type a b).run P w = .ok (q f) w) →
    (Op.eqFields d X Y fs).run P w = .ok (fs.all q) w
  | [], _ => by simp [Op.eqFields]
  | f :: fs, h => by
    obtain ⟨hn, a, b, ha, hb, he⟩ := h f List.mem_cons_self
    have ih := run_eqFields_all q fs fun g hg => h g (List.mem_cons_of_mem _ hg)
    rw [Op.eqFields, if_pos hn]
    simp only [Sem.run_bind, ha, hb, he, Result.andThen_ok, List.all_cons]
    cases hq : q f
    · simp
    · simpa using ih
end
end Go.Proofs.YtdfkfcpkejjlnaaDoor
namespace Go.Proofs.YtdfkfcpkejjlnaaDoor
set_option linter.unusedVariables false
open Go Go.RowKit
namespace Rl
section
variable {P : Program} {ops : Array Oper} {md : Region.Mode} {Gr : World → World → Prop} {W0 : World}

/-- what is asked of a region's edges -/
def relB (md : Region.Mode) (ops : Array Oper) : Bool :=
  Region.noSelect ops && (List.range ops.size).all fun i => match ops[i]? with
    | none => true
    | some oi =>
      oi.after.all (fun e => !Region.binds md e || decide (e.on < i)) &&
      (List.range ops.size).all fun j => match ops[j]? with
        | none => true
        | some oj => j == i || ((oi.dst.isNone || oj.dst != oi.dst) &&
            (match oj.dst with
              | none => true
              | some t => !(oi.looksAt ops).contains t || (decide (j < i) && waitsOn md oi j) || (decide (i < j) && waitsOn md oj i)))
structure RelOk (md : Region.Mode) (ops : Array Oper) : Prop where
  sel : ∀ (j : Nat) (o : Oper) cs b, ops[j]? = some o → o.op ≠ .select cs b
  back : ∀ (i : Nat) (oi : Oper), ops[i]? = some oi → ∀ e ∈ oi.after, Region.binds md e = true → e.on < i
  dd : ∀ (i j : Nat) (oi oj : Oper) (d : Tmp), ops[i]? = some oi → ops[j]? = some oj → oi.dst = some d → oj.dst = some d → i = j
  look : ∀ (i j : Nat) (oi oj : Oper) (t : Tmp), ops[i]? = some oi → ops[j]? = some oj → oj.dst = some t → t ∈ oi.looksAt ops → j = i ∨ (j < i ∧ waitsOn md oi j = true) ∨ (i < j ∧ waitsOn md oj i = true)
theorem relB_spec (h : relB md ops = true) : RelOk md ops := by
  simp only [relB, Bool.and_eq_true] at h
  obtain ⟨hs, h⟩ := h
  have H : ∀ (i : Nat) (oi : Oper), ops[i]? = some oi → oi.after.all (fun e => !Region.binds md e || decide (e.on < i)) = true ∧
      ((List.range ops.size).all fun j => match ops[j]? with
        | none => true
        | some oj => j == i || ((oi.dst.isNone || oj.dst != oi.dst) &&
            (match oj.dst with
              | none => true
              | some t => !(oi.looksAt ops).contains t || (decide (j < i) && waitsOn md oi j) || (decide (i < j) && waitsOn md oj i)))) = true := fun i oi hi => by
    have := List.all_eq_true.1 h i (List.mem_range.2 (Array.getElem?_eq_some_iff.1 hi).1)
    simpa only [hi, Bool.and_eq_true] using this
  have J : ∀ (i : Nat) (oi : Oper), ops[i]? = some oi → ∀ j oj, ops[j]? = some oj → j ≠ i → ((oi.dst.isNone || oj.dst != oi.dst) &&
            (match oj.dst with
              | none => true
              | some t => !(oi.looksAt ops).contains t || (decide (j < i) && waitsOn md oi j) || (decide (i < j) && waitsOn md oj i))) = true := fun i oi hi j oj hj hne => by
    have := List.all_eq_true.1 (H i oi hi).2 j (List.mem_range.2 (Array.getElem?_eq_some_iff.1 hj).1)
    simp only [hj, Bool.or_eq_true, beq_iff_eq, hne, false_or] at this
    exact this
  refine ⟨fun j o cs b hj => Region.noSelect_spec hs j o cs b hj, fun i oi hi e he hb => ?_, fun i j oi oj d hi hj h1 h2 => ?_, fun i j oi oj t hi hj h1 h2 => ?_⟩
  · have := Array.all_eq_true_iff_forall_mem.1 (H i oi hi).1 e he
    simpa [hb] using this
  · refine Classical.byContradiction fun hne => ?_
    have := J i oi hi j oj hj (fun h => hne h.symm)
    simp [h1, h2] at this
  · by_cases hji : j = i
    · exact .inl hji
    · have := J i oi hi j oj hj hji
      simp only [h1, Bool.and_eq_true, Bool.or_eq_true] at this
      rcases this.2 with (h3 | ⟨h3, h4⟩) | ⟨h3, h4⟩
      · simp [h2] at h3
      · exact .inr (.inl ⟨by simpa using h3, h4⟩)
      · exact .inr (.inr ⟨by simpa using h3, h4⟩)

abbrev Rel := Value → World → Prop
/-- what one operation's run comes to: a value and a world of the kind S -/
def comesToR (P : Program) (S : Rel) : Result Next → Prop
  | .ok (.value u) w' => S u w'
  | .ok .skip w' => S undef w'
  | .ok (.enter f args) w' => Calls P f args w' (fun e w'' => ∃ v, e = .returned v ∧ S v w'')
  | _ => False
theorem comesToR_value_eq (S : Rel) (u : Value) (w : World) : comesToR P S (.ok (.value u) w) = S u w := rfl
theorem comesToR_skip_eq (S : Rel) (w : World) : comesToR P S (.ok .skip w) = S undef w := rfl
theorem comesToR_enter_eq (S : Rel) (f : FuncId) (args : Array Value) (w : World) : comesToR P S (.ok (.enter f args) w) = Calls P f args w (fun e w'' => ∃ v, e = .returned v ∧ S v w'') := rfl

/-- what is known of the text's order: by slots, of which of them a relation is known, the other ones' values, the frames -/
structure Known (P : Program) (ops : Array Oper) (Gr : World → World → Prop) (W0 : World) (RR : Tmp → Option Rel) (vals : Nat → Value) (F : Nat → (Tmp → Value) → Act) : Prop where
  start : ∀ ρ ρ', F 0 ρ = F 0 ρ'
  det : ∀ (i : Nat) (o : Oper), ops[i]? = some o → o.dst.bind RR = none → F (i + 1) = (fun ρ => (F i ρ).put o.dst (vals i)) ∧ ∀ ρ w, Gr W0 w →
    (∀ (j : Nat) (oj : Oper) (d : Tmp) (R : Rel), j < i → ops[j]? = some oj → oj.dst = some d → d ∈ o.looksAt ops → RR d = some R → R (ρ d) w) →
    (Region.wanted o (yielded ops (F i ρ).tmps) = true ∧ comesToR P (fun u w' => u = vals i ∧ Gr w w') ((execOp (F i ρ).eval o).run P w)) ∨ (Region.wanted o (yielded ops (F i ρ).tmps) = false ∧ vals i = undef)
  rel : ∀ (i : Nat) (o : Oper) (d : Tmp) (R : Rel), ops[i]? = some o → o.dst = some d → RR d = some R → F (i + 1) = (fun ρ => (F i ρ).put (some d) (ρ d)) ∧ (∀ v w w', Gr w w' → R v w → R v w') ∧ ∀ ρ w, Gr W0 w →
    (∀ (j : Nat) (oj : Oper) (d : Tmp) (R : Rel), j < i → ops[j]? = some oj → oj.dst = some d → d ∈ o.looksAt ops → RR d = some R → R (ρ d) w) →
    Region.wanted o (yielded ops (F i ρ).tmps) = true ∧ comesToR P (fun u w' => R u w' ∧ Gr w w') ((execOp (F i ρ).eval o).run P w)
/-- an operation's value -/
def valR (ops : Array Oper) (RR : Tmp → Option Rel) (vals : Nat → Value) (ρ : Tmp → Value) (i : Nat) : Value :=
  match ops[i]? with
  | some o => match o.dst with
    | some d => if (RR d).isSome then ρ d else vals i
    | none => vals i
  | none => vals i
theorem valR_det {RR : Tmp → Option Rel} {vals : Nat → Value} {ρ : Tmp → Value} {i : Nat} {o : Oper} (hi : ops[i]? = some o) (h : o.dst.bind RR = none) : valR ops RR vals ρ i = vals i := by
  unfold valR
  rw [hi]
  cases hd : o.dst with
  | none => simp [hd]
  | some d =>
    rw [hd] at h
    simp only [Option.bind_some] at h
    simp [hd, h]
theorem valR_rel {RR : Tmp → Option Rel} {vals : Nat → Value} {ρ : Tmp → Value} {i : Nat} {o : Oper} {d : Tmp} {R : Rel} (hi : ops[i]? = some o) (hd : o.dst = some d) (h : RR d = some R) : valR ops RR vals ρ i = ρ d := by
  unfold valR
  rw [hi]
  simp [hd, h]
/-- the frame of the text's order, at each operation -/
theorem Known.agr {RR : Tmp → Option Rel} {vals : Nat → Value} {F : Nat → (Tmp → Value) → Act} (ok : RelOk md ops) (K : Known P ops Gr W0 RR vals F) (ρ : Tmp → Value) :
    ∀ k, k ≤ ops.size → Agr ops (fun j => j < k) (valR ops RR vals ρ) (F 0 ρ) (F k ρ)
  | 0, _ => (Agr.refl (valR ops RR vals ρ) (F 0 ρ)).congr (fun i o d _ _ => by simp) (fun _ _ _ _ _ h => h.elim)
  | k + 1, hk => by
    have ih := Known.agr ok K ρ k (by omega)
    have ho : ops[k]? = some ops[k] := Array.getElem?_eq_getElem (by omega)
    have fin : ∀ v, (∀ d, ops[k].dst = some d → v = valR ops RR vals ρ k) → Agr ops (fun j => j < k + 1) (valR ops RR vals ρ) (F 0 ρ) ((F k ρ).put ops[k].dst v) := fun v hv => by
      refine (ih.put ok.dd ho (fun h => by omega) v).congr (fun i o d hi hd' => ⟨fun h => ?_, fun h => ?_⟩) (fun i o d hi hd' h => ?_)
      · rcases h with h | rfl <;> omega
      · by_cases hik : i = k
        · exact .inr hik
        · exact .inl (by omega)
      · by_cases hik : i = k
        · subst hik
          obtain rfl : ops[i] = o := Option.some.inj (ho.symm.trans hi)
          simp only [if_true]
          exact hv d hd'
        · simp [hik]
    cases hb : ops[k].dst.bind RR with
    | none =>
      rw [(K.det k _ ho hb).1]
      exact fin _ fun d hd => (valR_det ho hb).symm
    | some R =>
      cases hd : ops[k].dst with
      | none => rw [hd] at hb; cases hb
      | some d =>
        rw [hd] at hb
        have hR : RR d = some R := by simpa using hb
        rw [(K.rel k _ d R ho hd hR).1]
        have := fin (ρ d) fun d' hd' => by
          rw [hd] at hd'
          cases hd'
          exact (valR_rel ho hd hR).symm
        rw [hd] at this
        exact this

/-- what holds in every order, behind some operations -/
structure Inv (md : Region.Mode) (ops : Array Oper) (Gr : World → World → Prop) (W0 : World) (RR : Tmp → Option Rel) (vals : Nat → Value) (a0 : Act) (ρ : Tmp → Value) (listed : Array Bool) (a : Act) (w : World) : Prop where
  size : listed.size = ops.size
  closed : ∀ (j : Nat) (oj : Oper), ops[j]? = some oj → listed.getD j false = true → ∀ e ∈ oj.after, Region.binds md e = true → listed.getD e.on false = true
  agr : Agr ops (fun i => listed.getD i false = true) (valR ops RR vals ρ) a0 a
  on : Gr W0 w
  known : ∀ (i : Nat) (o : Oper) (d : Tmp) (R : Rel), ops[i]? = some o → o.dst = some d → RR d = some R → listed.getD i false = true → R (ρ d) w
/-- what an operation looks at is as in the text's order -/
theorem Inv.looks {RR : Tmp → Option Rel} {vals : Nat → Value} {F : Nat → (Tmp → Value) → Act} {ρ : Tmp → Value} {listed : Array Bool} {a : Act} {w : World} (ok : RelOk md ops) (K : Known P ops Gr W0 RR vals F)
    (inv : Inv md ops Gr W0 RR vals (F 0 ρ) ρ listed a w) {i : Nat} {o : Oper} (hi : ops[i]? = some o) (hr : i ∈ Region.ready md ops listed) (t : Tmp) (ht : t ∈ o.looksAt ops) : a.tmps[t]? = (F i ρ).tmps[t]? := by
  have hin : i < ops.size := (Array.getElem?_eq_some_iff.1 hi).1
  obtain ⟨hun, o', ho', hall⟩ := mem_ready.1 hr
  obtain rfl : o' = o := Option.some.inj (ho'.symm.trans hi)
  refine inv.agr.same (K.agr ok ρ i (by omega)) t fun j oj hj hd => ?_
  rcases ok.look i j o' oj t hi hj hd ht with rfl | ⟨hlt, hw⟩ | ⟨hlt, hw⟩
  · exact ⟨⟨fun h => absurd h (not_listed hun), fun h => by omega⟩, fun _ => rfl⟩
  · obtain ⟨e, he, hb, rfl⟩ := waitsOn_spec hw
    have hl := hall e he hb
    exact ⟨⟨fun _ => hlt, fun _ => hl⟩, fun _ => rfl⟩
  · obtain ⟨e, he, hb, he'⟩ := waitsOn_spec hw
    have hn : ¬ listed.getD j false = true := fun h => by
      have := inv.closed j oj hj h e he hb
      rw [he'] at this
      exact not_listed hun this
    exact ⟨⟨fun h => absurd h hn, fun h => by omega⟩, fun _ => rfl⟩
/-- a step keeps the invariant -/
theorem Inv.step {RR : Tmp → Option Rel} {vals : Nat → Value} {F : Nat → (Tmp → Value) → Act} {ρ : Tmp → Value} {listed : Array Bool} {a : Act} {w : World} {Q : Exit → Act → World → Prop} (gt : ∀ a b c, Gr a b → Gr b c → Gr a c) (gr : ∀ a, Gr a a)
    (ok : RelOk md ops) (K : Known P ops Gr W0 RR vals F)
    (inv : Inv md ops Gr W0 RR vals (F 0 ρ) ρ listed a w) {i : Nat} (hr : i ∈ Region.ready md ops listed) :
    wpOp P ops Q i (fun a' w' => ∃ ρ', Inv md ops Gr W0 RR vals (F 0 ρ') ρ' (listed.setIfInBounds i true) a' w') a w := by
  obtain ⟨hun, o, hi, hall⟩ := mem_ready.1 hr
  have hin : i < ops.size := (Array.getElem?_eq_some_iff.1 hi).1
  have hni := not_listed hun
  have hil : i < listed.size := by rw [inv.size]; exact hin
  have hsize : (listed.setIfInBounds i true).size = ops.size := by simp [inv.size]
  have hclosed : ∀ (j : Nat) (oj : Oper), ops[j]? = some oj → (listed.setIfInBounds i true).getD j false = true → ∀ e ∈ oj.after, Region.binds md e = true → (listed.setIfInBounds i true).getD e.on false = true := fun j oj hj hl e he hb => by
    rcases set_back hl with h | rfl
    · exact getD_set_true (inv.closed j oj hj h e he hb)
    · obtain rfl : o = oj := Option.some.inj (hi.symm.trans hj)
      exact getD_set_true (hall e he hb)
  have hback : ∀ j, j ≠ i → (listed.setIfInBounds i true).getD j false = true → listed.getD j false = true := fun j hne h => (set_back h).resolve_right hne
  have hsame := exec_same (ops := ops) (o := o) (a := a) (a' := F i ρ) (fun cs b => ok.sel i o cs b hi) (fun t ht => inv.looks ok K hi hr t ht)
  have hdeps : ∀ (j : Nat) (oj : Oper) (d : Tmp) (R : Rel), j < i → ops[j]? = some oj → oj.dst = some d → d ∈ o.looksAt ops → RR d = some R → R (ρ d) w := fun j oj d R hji hj hd hl hR => by
    rcases ok.look i j o oj d hi hj hd hl with rfl | ⟨_, hw⟩ | ⟨hlt, _⟩
    · omega
    · obtain ⟨e, he, hb, rfl⟩ := waitsOn_spec hw
      exact inv.known _ oj d R hj hd hR (hall e he hb)
    · omega
  have hagr : ∀ (ρ' : Tmp → Value) v, (∀ j oj d, ops[j]? = some oj → oj.dst = some d → j ≠ i → ρ' d = ρ d) → (∀ d, o.dst = some d → v = valR ops RR vals ρ' i) → Agr ops (fun j => (listed.setIfInBounds i true).getD j false = true) (valR ops RR vals ρ') (F 0 ρ') (a.put o.dst v) := fun ρ' v hρ hv => by
    rw [K.start ρ' ρ]
    refine (inv.agr.put ok.dd hi hni _).congr (fun j oj e hj he => ⟨fun h => ?_, fun h => ?_⟩) (fun j oj e hj he hl => ?_)
    · rcases h with h | rfl
      · exact getD_set_true h
      · exact set_self hil
    · exact set_back h
    · by_cases hji : j = i
      · subst hji
        obtain rfl : o = oj := Option.some.inj (hi.symm.trans hj)
        simp only [if_true]
        exact hv e he
      · simp only [hji, if_false]
        have h1 := hρ j oj e hj he hji
        unfold valR
        rw [hj]
        simp only [he, h1]
  cases hb : o.dst.bind RR with
  | none =>
    obtain ⟨_, hy⟩ := K.det i o hi hb
    have done : ∀ w', Gr w w' → ∃ ρ', Inv md ops Gr W0 RR vals (F 0 ρ') ρ' (listed.setIfInBounds i true) (a.put o.dst (vals i)) w' := fun w' hg => by
      refine ⟨ρ, hsize, hclosed, hagr ρ _ (fun _ _ _ _ _ _ => rfl) (fun d hd => (valR_det hi hb).symm), gt _ _ _ inv.on hg, fun j oj d R hj hd hR hl => ?_⟩
      have hji : j ≠ i := fun h => by
        subst h
        obtain rfl : o = oj := Option.some.inj (hi.symm.trans hj)
        rw [hd] at hb
        simp only [Option.bind_some, hR] at hb
        cases hb
      exact (K.rel j oj d R hj hd hR).2.1 _ _ _ hg (inv.known j oj d R hj hd hR (hback j hji hl))
    unfold wpOp
    simp only [hi]
    rcases hy ρ w inv.on hdeps with ⟨hw, h1⟩ | ⟨hw, hv⟩
    · rw [← hsame.2] at hw
      simp only [hw, if_true]
      refine .inl ?_
      unfold Oper.wp
      rw [hsame.1]
      generalize (execOp (F i ρ).eval o).run P w = r at *
      cases r with
      | ok n w' =>
        cases n <;> simp only [comesToR] at h1 <;> simp only [Oper.upon]
        case value u => obtain ⟨rfl, h2⟩ := h1; exact done _ h2
        case skip => obtain ⟨h0, h2⟩ := h1; rw [h0]; exact done _ h2
        case enter f args => exact h1.mono fun e w'' ⟨v, he, h0, h2⟩ => by subst he; subst h0; exact done _ h2
      | halt x w' => simp only [comesToR] at h1
    · rw [← hsame.2] at hw
      simp only [hw, Bool.false_eq_true, if_false]
      rw [← hv]
      exact done w (gr _)
  | some R =>
    cases hd : o.dst with
    | none => rw [hd] at hb; cases hb
    | some d =>
      have hR : RR d = some R := by rw [hd] at hb; simpa using hb
      obtain ⟨_, hst, hy⟩ := K.rel i o d R hi hd hR
      obtain ⟨hw, h1⟩ := hy ρ w inv.on hdeps
      have done : ∀ v w', R v w' → Gr w w' → ∃ ρ', Inv md ops Gr W0 RR vals (F 0 ρ') ρ' (listed.setIfInBounds i true) (a.put (some d) v) w' := fun v w' hRv hg => by
        refine ⟨fun t => if t = d then v else ρ t, hsize, hclosed, ?_, gt _ _ _ inv.on hg, fun j oj d' R' hj hd' hR' hl => ?_⟩
        · have := hagr (fun t => if t = d then v else ρ t) v (fun j oj d' hj hd' hji => by
            have hne : d' ≠ d := fun h => hji (ok.dd j i oj o d' hj hi hd' (by rw [hd, h]))
            simp [hne]) (fun d' hd' => by
            rw [hd] at hd'; cases hd'
            rw [valR_rel hi hd hR]; simp)
          rwa [hd] at this
        · by_cases hji : j = i
          · subst hji
            obtain rfl : o = oj := Option.some.inj (hi.symm.trans hj)
            obtain rfl : d = d' := Option.some.inj (hd.symm.trans hd')
            obtain rfl : R = R' := Option.some.inj (hR.symm.trans hR')
            simpa using hRv
          · have hne : d' ≠ d := fun h => hji (ok.dd j i oj o d' hj hi hd' (by rw [hd, h]))
            simp only [hne, if_false]
            exact (K.rel j oj d' R' hj hd' hR').2.1 _ _ _ hg (inv.known j oj d' R' hj hd' hR' (hback j hji hl))
      unfold wpOp
      simp only [hi]
      rw [← hsame.2] at hw
      simp only [hw, if_true]
      refine .inl ?_
      unfold Oper.wp
      rw [hsame.1]
      generalize (execOp (F i ρ).eval o).run P w = r at *
      cases r with
      | ok n w' =>
        cases n <;> simp only [comesToR] at h1 <;> simp only [Oper.upon, hd]
        case value u => exact done _ _ h1.1 h1.2
        case skip => exact done _ _ h1.1 h1.2
        case enter f args => exact h1.mono fun e w'' ⟨v, he, h0, h2⟩ => by subst he; exact done _ _ h0 h2
      | halt x w' => simp only [comesToR] at h1
theorem all_listed {listed : Array Bool} (ok : RelOk md ops) (hs : listed.size = ops.size) (h : Region.ready md ops listed = []) : ∀ i, i < ops.size → listed.getD i false = true := by
  intro i
  induction i using Nat.strongRecOn with
  | _ i ih =>
    intro hi
    refine Classical.byContradiction fun hn => ?_
    have hf : listed.getD i false = false := by simpa using hn
    have hu : listed.getD i true = false := getD_in (by omega) hf
    have ho : ops[i]? = some ops[i] := Array.getElem?_eq_getElem hi
    have : i ∈ Region.ready md ops listed := mem_ready.2 ⟨hu, _, ho, fun e he hb => by
      have hlt := ok.back i _ ho e he hb
      exact ih e.on hlt (by omega)⟩
    rw [h] at this; cases this
theorem wpAny_of_inv {RR : Tmp → Option Rel} {vals : Nat → Value} {F : Nat → (Tmp → Value) → Act} {Q : Exit → Act → World → Prop} (gt : ∀ a b c, Gr a b → Gr b c → Gr a c) (gr : ∀ a, Gr a a) (ok : RelOk md ops) (K : Known P ops Gr W0 RR vals F)
    (hend : ∀ ρ listed a w, Inv md ops Gr W0 RR vals (F 0 ρ) ρ listed a w → (∀ i, i < ops.size → listed.getD i false = true) → Q .normal a w) :
    ∀ (fuel : Nat) (ρ : Tmp → Value) (listed : Array Bool) (a : Act) (w : World), leftN ops listed ≤ fuel → Inv md ops Gr W0 RR vals (F 0 ρ) ρ listed a w → wpAny P md ops Q fuel listed a w
  | 0, ρ, listed, a, w, hf, inv => by
    have hr : Region.ready md ops listed = [] := by
      cases hr : Region.ready md ops listed with
      | nil => rfl
      | cons i l =>
        have := leftN_set (ops := ops) (i := i) (md := md) (by rw [hr]; exact List.mem_cons_self) inv.size
        omega
    exact ⟨hr, hend ρ listed a w inv (all_listed ok inv.size hr)⟩
  | fuel + 1, ρ, listed, a, w, hf, inv => by
    refine ⟨fun hr => hend ρ listed a w inv (all_listed ok inv.size hr), fun i hi => ?_⟩
    have hless := leftN_set hi inv.size
    refine wpOp_mono (fun a' w' ⟨ρ', inv'⟩ => ?_) (inv.step gt gr ok K hi)
    exact wpAny_of_inv gt gr ok K hend fuel ρ' _ a' w' (by omega) inv'
end
end Rl
end Go.Proofs.YtdfkfcpkejjlnaaDoor
namespace Go.Proofs.YtdfkfcpkejjlnaaDoor
set_option linter.unusedVariables false
open Go Go.RowKit
namespace Rl
section
variable {P : Program} {ops : Array Oper} {md : Region.Mode} {Gr : World → World → Prop} {W0 : World}

/-- what is known of the slots that an operation looks at -/
def deps (ops : Array Oper) (G : List (Tmp × Rel)) (o : Oper) (ρ : Tmp → Value) (w : World) : Prop := ∀ e ∈ G, e.1 ∈ o.looksAt ops → e.2 (ρ e.1) w
/-- the operations of the text, one behind the other -/
def textR (P : Program) (ops : Array Oper) (Gr : World → World → Prop) (W0 : World) (Q : List (Tmp × Rel) → ((Tmp → Value) → Act) → Prop) : List Oper → List (Tmp × Rel) → ((Tmp → Value) → Act) → Prop
  | [], G, F => Q G F
  | o :: rest, G, F =>
    (∃ v, (∀ ρ w, Gr W0 w → deps ops G o ρ w → (Region.wanted o (yielded ops (F ρ).tmps) = true ∧ comesToR P (fun u w' => u = v ∧ Gr w w') ((execOp (F ρ).eval o).run P w)) ∨ (Region.wanted o (yielded ops (F ρ).tmps) = false ∧ v = undef)) ∧
      textR P ops Gr W0 Q rest G (fun ρ => (F ρ).put o.dst v)) ∨
    ∃ (d : Tmp) (R : Rel), o.dst = some d ∧ (∀ v w w', Gr w w' → R v w → R v w') ∧
      (∀ ρ w, Gr W0 w → deps ops G o ρ w → Region.wanted o (yielded ops (F ρ).tmps) = true ∧ comesToR P (fun u w' => R u w' ∧ Gr w w') ((execOp (F ρ).eval o).run P w)) ∧
      textR P ops Gr W0 Q rest ((d, R) :: G) (fun ρ => (F ρ).put (some d) (ρ d))
theorem textR_nil {Q : List (Tmp × Rel) → ((Tmp → Value) → Act) → Prop} {G : List (Tmp × Rel)} {F : (Tmp → Value) → Act} (h : Q G F) : textR P ops Gr W0 Q [] G F := h
theorem textR_run {Q : List (Tmp × Rel) → ((Tmp → Value) → Act) → Prop} {o : Oper} {rest : List Oper} {G : List (Tmp × Rel)} {F : (Tmp → Value) → Act} (v : Value) (hw : ∀ ρ, Region.wanted o (yielded ops (F ρ).tmps) = true)
    (hy : ∀ ρ w, Gr W0 w → deps ops G o ρ w → comesToR P (fun u w' => u = v ∧ Gr w w') ((execOp (F ρ).eval o).run P w)) (h : textR P ops Gr W0 Q rest G (fun ρ => (F ρ).put o.dst v)) : textR P ops Gr W0 Q (o :: rest) G F :=
  .inl ⟨v, fun ρ w hg hd => .inl ⟨hw ρ, hy ρ w hg hd⟩, h⟩
theorem textR_skip {Q : List (Tmp × Rel) → ((Tmp → Value) → Act) → Prop} {o : Oper} {rest : List Oper} {G : List (Tmp × Rel)} {F : (Tmp → Value) → Act} (hw : ∀ ρ, Region.wanted o (yielded ops (F ρ).tmps) = false)
    (h : textR P ops Gr W0 Q rest G (fun ρ => (F ρ).put o.dst undef)) : textR P ops Gr W0 Q (o :: rest) G F :=
  .inl ⟨undef, fun ρ w hg hd => .inr ⟨hw ρ, rfl⟩, h⟩
theorem textR_rel {Q : List (Tmp × Rel) → ((Tmp → Value) → Act) → Prop} {o : Oper} {rest : List Oper} {G : List (Tmp × Rel)} {F : (Tmp → Value) → Act} (d : Tmp) (R : Rel) (hd : o.dst = some d) (hs : ∀ v w w', Gr w w' → R v w → R v w') (hw : ∀ ρ, Region.wanted o (yielded ops (F ρ).tmps) = true)
    (hy : ∀ ρ w, Gr W0 w → deps ops G o ρ w → comesToR P (fun u w' => R u w' ∧ Gr w w') ((execOp (F ρ).eval o).run P w)) (h : textR P ops Gr W0 Q rest ((d, R) :: G) (fun ρ => (F ρ).put (some d) (ρ d))) : textR P ops Gr W0 Q (o :: rest) G F :=
  .inr ⟨d, R, hd, hs, fun ρ w hg hd => ⟨hw ρ, hy ρ w hg hd⟩, h⟩

theorem lookup_mem : ∀ (G : List (Tmp × Rel)), (G.map (·.1)).Nodup → ∀ e ∈ G, G.lookup e.1 = some e.2
  | [], _, e, he => by cases he
  | (d, R) :: G, hn, e, he => by
    rw [List.map_cons, List.nodup_cons] at hn
    rcases List.mem_cons.1 he with rfl | he
    · simp
    · have hne : ¬ e.1 = d := fun h => hn.1 (List.mem_map.2 ⟨e, he, h⟩)
      rw [lookup_ne hne]
      exact lookup_mem G hn.2 e he
theorem mem_lookup : ∀ (G : List (Tmp × Rel)) (d : Tmp) (R : Rel), G.lookup d = some R → (d, R) ∈ G
  | [], d, R, h => by simp at h
  | (d', R') :: G, d, R, h => by
    by_cases hne : d = d'
    · subst hne
      simp at h
      subst h
      exact List.mem_cons_self
    · rw [lookup_ne hne] at h
      exact List.mem_cons_of_mem _ (mem_lookup G d R h)
/-- what the walk of the text gives -/
theorem textR_get (dd : ∀ (i j : Nat) (oi oj : Oper) (d : Tmp), ops[i]? = some oi → ops[j]? = some oj → oi.dst = some d → oj.dst = some d → i = j) {Q : List (Tmp × Rel) → ((Tmp → Value) → Act) → Prop} :
    ∀ (l : List Oper) (k : Nat) (G : List (Tmp × Rel)) (F0 : (Tmp → Value) → Act), (∀ j : Nat, l[j]? = ops[k + j]?) → k + l.length = ops.size → (G.map (·.1)).Nodup → (∀ e ∈ G, ∃ (j : Nat) (oj : Oper), j < k ∧ ops[j]? = some oj ∧ oj.dst = some e.1) → textR P ops Gr W0 Q l G F0 →
    ∃ (RR : Tmp → Option Rel) (vals : Nat → Value) (F : Nat → (Tmp → Value) → Act) (Gf : List (Tmp × Rel)), F k = F0 ∧
      (∀ (i : Nat) (o : Oper), k ≤ i → ops[i]? = some o → o.dst.bind RR = none → F (i + 1) = (fun ρ => (F i ρ).put o.dst (vals i)) ∧ ∀ ρ w, Gr W0 w →
        (∀ (j : Nat) (oj : Oper) (d : Tmp) (R : Rel), j < i → ops[j]? = some oj → oj.dst = some d → d ∈ o.looksAt ops → RR d = some R → R (ρ d) w) →
        (Region.wanted o (yielded ops (F i ρ).tmps) = true ∧ comesToR P (fun u w' => u = vals i ∧ Gr w w') ((execOp (F i ρ).eval o).run P w)) ∨ (Region.wanted o (yielded ops (F i ρ).tmps) = false ∧ vals i = undef)) ∧
      (∀ (i : Nat) (o : Oper) (d : Tmp) (R : Rel), k ≤ i → ops[i]? = some o → o.dst = some d → RR d = some R → F (i + 1) = (fun ρ => (F i ρ).put (some d) (ρ d)) ∧ (∀ v w w', Gr w w' → R v w → R v w') ∧ ∀ ρ w, Gr W0 w →
        (∀ (j : Nat) (oj : Oper) (d : Tmp) (R : Rel), j < i → ops[j]? = some oj → oj.dst = some d → d ∈ o.looksAt ops → RR d = some R → R (ρ d) w) →
        Region.wanted o (yielded ops (F i ρ).tmps) = true ∧ comesToR P (fun u w' => R u w' ∧ Gr w w') ((execOp (F i ρ).eval o).run P w)) ∧
      (∀ e ∈ Gf, RR e.1 = some e.2 ∧ (e ∈ G ∨ ∃ (j : Nat) (oj : Oper), k ≤ j ∧ ops[j]? = some oj ∧ oj.dst = some e.1)) ∧ (∀ e ∈ G, e ∈ Gf) ∧ (∀ d R, RR d = some R → (d, R) ∈ Gf) ∧ Q Gf (F ops.size)
  | [], k, G, F0, hl, hk, hn, hG, h => by
    have hk' : k = ops.size := by simpa using hk
    refine ⟨fun d => G.lookup d, fun _ => undef, fun _ => F0, G, rfl, fun i o hi ho _ => ?_, fun i o d R hi ho _ _ => ?_, fun e he => ⟨lookup_mem G hn e he, .inl he⟩, fun e he => he, fun d R hR => mem_lookup G d R hR, h⟩
    · have := (Array.getElem?_eq_some_iff.1 ho).1; omega
    · have := (Array.getElem?_eq_some_iff.1 ho).1; omega
  | o :: rest, k, G, F0, hl, hk, hn, hG, h => by
    have ho : ops[k]? = some o := by simpa using (hl 0).symm
    have hl' : ∀ j : Nat, rest[j]? = ops[k + 1 + j]? := fun j => by have := hl (j + 1); simpa [Nat.add_assoc, Nat.add_comm 1 j] using this
    have hk' : k + 1 + rest.length = ops.size := by simp only [List.length_cons] at hk; omega
    have hkey : ∀ d, o.dst = some d → ∀ e ∈ G, e.1 ≠ d := fun d hd e he hed => by
      obtain ⟨j, oj, hj, hoj, hdj⟩ := hG e he
      have := dd j k oj o d hoj ho (by rw [hdj, hed]) hd
      omega
    have hdeps : ∀ {RR : Tmp → Option Rel} {Gf : List (Tmp × Rel)}, (∀ e ∈ G, e ∈ Gf) → (∀ e ∈ Gf, RR e.1 = some e.2) → ∀ (ρ : Tmp → Value) (w : World),
        (∀ (j : Nat) (oj : Oper) (d : Tmp) (R : Rel), j < k → ops[j]? = some oj → oj.dst = some d → d ∈ o.looksAt ops → RR d = some R → R (ρ d) w) → deps ops G o ρ w := fun h1 h2 ρ w h3 e he hlk => by
      obtain ⟨j, oj, hj, hoj, hdj⟩ := hG e he
      exact h3 j oj e.1 e.2 hj hoj hdj hlk (h2 e (h1 e he))
    rcases h with ⟨v, hy, h⟩ | ⟨d, R, hd, hs, hy, h⟩
    · obtain ⟨RR, vals, F, Gf, hF, h1, h2, h3, h4, h5, h6⟩ := textR_get dd rest (k + 1) G _ hl' hk' hn (fun e he => by obtain ⟨j, oj, hj, hr⟩ := hG e he; exact ⟨j, oj, by omega, hr⟩) h
      have hout : ∀ d R, o.dst = some d → RR d = some R → False := fun d R hd hR => by
        rcases (h3 _ (h5 d R hR)).2 with he | ⟨j, oj, hj, hoj, hdj⟩
        · exact hkey d hd _ he rfl
        · have := dd j k oj o d hoj ho hdj hd
          omega
      refine ⟨RR, fun i => if i = k then v else vals i, fun i => if i = k then F0 else F i, Gf, by simp, fun i oi hi hoi hb => ?_, fun i oi d R hi hoi hd hR => ?_, fun e he => ⟨(h3 e he).1, ?_⟩, h4, h5, ?_⟩
      · by_cases hik : i = k
        · subst hik
          obtain rfl : o = oi := Option.some.inj (ho.symm.trans hoi)
          simp only [if_true, show i + 1 ≠ i by omega, if_false, hF]
          exact ⟨(by first | trivial | rfl), fun ρ w hg hp => hy ρ w hg (hdeps h4 (fun e he => (h3 e he).1) ρ w hp)⟩
        · have := h1 i oi (by omega) hoi hb
          simpa only [hik, if_false, show i + 1 ≠ k by omega] using this
      · by_cases hik : i = k
        · subst hik
          obtain rfl : o = oi := Option.some.inj (ho.symm.trans hoi)
          exact (hout d R hd hR).elim
        · have := h2 i oi d R (by omega) hoi hd hR
          simpa only [hik, if_false, show i + 1 ≠ k by omega] using this
      · rcases (h3 e he).2 with h | ⟨j, oj, hj, hr⟩
        · exact .inl h
        · exact .inr ⟨j, oj, by omega, hr⟩
      · have : ops.size ≠ k := by have := (Array.getElem?_eq_some_iff.1 ho).1; omega
        simpa only [this, if_false] using h6
    · obtain ⟨RR, vals, F, Gf, hF, h1, h2, h3, h4, h5, h6⟩ := textR_get dd rest (k + 1) ((d, R) :: G) _ hl' hk' (by
          rw [List.map_cons, List.nodup_cons]
          exact ⟨fun hm => by obtain ⟨e, he, hed⟩ := List.mem_map.1 hm; exact hkey d hd e he hed, hn⟩) (fun e he => by
          rcases List.mem_cons.1 he with rfl | he
          · exact ⟨k, o, by omega, ho, hd⟩
          · obtain ⟨j, oj, hj, hr⟩ := hG e he; exact ⟨j, oj, by omega, hr⟩) h
      have hRd : RR d = some R := (h3 _ (h4 _ List.mem_cons_self)).1
      refine ⟨RR, vals, fun i => if i = k then F0 else F i, Gf, by simp, fun i oi hi hoi hb => ?_, fun i oi d' R' hi hoi hd' hR' => ?_, fun e he => ⟨(h3 e he).1, ?_⟩, fun e he => h4 e (List.mem_cons_of_mem _ he), h5, ?_⟩
      · by_cases hik : i = k
        · subst hik
          obtain rfl : o = oi := Option.some.inj (ho.symm.trans hoi)
          rw [hd] at hb
          simp only [Option.bind_some, hRd] at hb
          cases hb
        · have := h1 i oi (by omega) hoi hb
          simpa only [hik, if_false, show i + 1 ≠ k by omega] using this
      · by_cases hik : i = k
        · subst hik
          obtain rfl : o = oi := Option.some.inj (ho.symm.trans hoi)
          obtain rfl : d = d' := Option.some.inj (hd.symm.trans hd')
          obtain rfl : R = R' := Option.some.inj (hRd.symm.trans hR')
          simp only [if_true, show i + 1 ≠ i by omega, if_false, hF]
          exact ⟨(by first | trivial | rfl), hs, fun ρ w hg hp => hy ρ w hg (hdeps (fun e he => h4 e (List.mem_cons_of_mem _ he)) (fun e he => (h3 e he).1) ρ w hp)⟩
        · have := h2 i oi d' R' (by omega) hoi hd' hR'
          simpa only [hik, if_false, show i + 1 ≠ k by omega] using this
      · rcases (h3 e he).2 with h | ⟨j, oj, hj, hr⟩
        · rcases List.mem_cons.1 h with rfl | h
          · exact .inr ⟨k, o, by omega, ho, hd⟩
          · exact .inl h
        · exact .inr ⟨j, oj, by omega, hr⟩
      · have : ops.size ≠ k := by have := (Array.getElem?_eq_some_iff.1 ho).1; omega
        simpa only [this, if_false] using h6
/-- what is known in the end -/
def ends (Gr : World → World → Prop) (W0 : World) (Q : Exit → Act → World → Prop) (G : List (Tmp × Rel)) (F : (Tmp → Value) → Act) : Prop :=
  ∀ ρ w, Gr W0 w → (∀ e ∈ G, e.2 (ρ e.1) w) → Q .normal (F ρ) w
/-- A REGION TOLD BY RELATIONS. -/
theorem wp_region_rel {id : Nat} {Q : Exit → Act → World → Prop} {a : Act} {w : World} {l : List Oper} (Gr : World → World → Prop) (W0 : World) (gt : ∀ a b c, Gr a b → Gr b c → Gr a c) (gr : ∀ a, Gr a a) (hm : P.follows .mixedOrders = true) (hB : relB .any l.toArray = true)
    (h0 : Gr W0 w.drew) (h : textR P l.toArray Gr W0 (ends Gr W0 Q) l [] (fun _ => a)) : (Code.region id l.toArray true).wp P Q a w := by
  have ok := relB_spec hB
  obtain ⟨RR, vals, F, Gf, hF, h1, h2, h3, _, h5, h6⟩ := textR_get (ops := l.toArray) ok.dd l 0 [] (fun _ => a) (fun j => by simp) (by simp) List.nodup_nil (fun e he => by cases he) h
  have K : Known P l.toArray Gr W0 RR vals F := ⟨fun ρ ρ' => by rw [hF], fun i o hi hb => h1 i o (Nat.zero_le _) hi hb, fun i o d R hi hd hR => h2 i o d R (Nat.zero_le _) hi hd hR⟩
  refine wp_region_any hm ?_
  have ha : F 0 (fun _ => undef) = a := by rw [hF]
  rw [← ha]
  refine wpAny_of_inv gt gr ok K (fun ρ listed a' w' inv hall => ?_) l.toArray.size (fun _ => undef) _ _ _ ?_ ⟨by simp, fun j oj _ hl => (by rw [getD_replicate_false] at hl; cases hl), ?_, h0, fun i o d R _ _ _ hl => (by rw [getD_replicate_false] at hl; cases hl)⟩
  · have hfin : a' = F l.toArray.size ρ := by
      refine inv.agr.unique (K.agr ok ρ l.toArray.size (Nat.le_refl _)) fun i o d hi hd => ⟨⟨fun _ => (Array.getElem?_eq_some_iff.1 hi).1, fun _ => hall i (Array.getElem?_eq_some_iff.1 hi).1⟩, fun _ => rfl⟩
    rw [hfin]
    refine h6 ρ w' inv.on fun e he => ?_
    obtain ⟨hR, hsrc⟩ := h3 e he
    rcases hsrc with h | ⟨j, oj, _, hj, hd⟩
    · cases h
    · exact inv.known j oj e.1 e.2 hj hd hR (hall j (Array.getElem?_eq_some_iff.1 hj).1)
  · unfold leftN
    have := List.countP_le_length (p := fun i => !(Array.replicate l.toArray.size false).getD i true) (l := List.range l.toArray.size)
    simpa using this
  · exact (Agr.refl (valR l.toArray RR vals fun _ => undef) _).congr (fun i o d _ _ => ⟨fun h => h.elim, fun h => by rw [getD_replicate_false] at h; cases h⟩) (fun _ _ _ _ _ h => h.elim)
end
end Rl
end Go.Proofs.YtdfkfcpkejjlnaaDoor
