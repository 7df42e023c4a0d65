/- Laws that belong together: The law of regions that draw their order (XGrow) inside a fence that lets every call through: in a round of a range over a function. The conditions: the edges' checks, each by computation; no operation is a defer statement.; A law of regions that draw their order, where one operation (number c) leads from worlds of one kind to worlds of another, and all others of the head stay in the kind that they are in, yielding one value in both. Plain, and inside a fence that lets every call through. The conditions: the edges' checks, each by computation. -/
import Derived.Test.YtdfkfcpkejjlnaaDoorMaa
import Derived.OrdersIn
import Derived.OwnWalkIn
import Derived.RangeFuncCalls
namespace Go.Proofs.YtdfkfcpkejjlnaaDoor
set_option linter.unusedVariables false
open Go
section
variable {F : Fence} {n : Nat} {P : Program} {ops : Array Oper} {md : Region.Mode} {S : World → Prop}
/-- every call goes through -/
structure WideF (F : Fence) (P : Program) : Prop where
  fn : ∀ f, F.fn f
  depth : F.depth = none
  calls : ∀ (n : Nat) (f : FuncId) (args : Array Value) (w : World) (R : Ending → World → Prop), Calls P f args w R → CallsIn F n P f args w R
theorem WideF.wide : WideF Fence.wide P := ⟨fun _ => trivial, rfl, fun _ _ _ _ _ h => callsIn_wide.2 h⟩
theorem WideF.round (l : Nat) : WideF (Fence.wide.inRound l) P := ⟨fun _ => trivial, rfl, fun _ _ _ _ _ h => CallsIn.inRound l (callsIn_wide.2 h)⟩
def plainOp (o : Oper) : Bool := match o.op with | .defer _ => false | _ => true
def noDefer (ops : Array Oper) : Bool := ops.all plainOp
theorem noDefer_spec (h : noDefer ops = true) {i : Nat} {o : Oper} (hi : ops[i]? = some o) : ∀ c, o.op ≠ .defer c := by
  intro c hc
  have := Array.all_eq_true_iff_forall_mem.1 h o (Array.mem_of_getElem? hi)
  simp [plainOp, hc] at this
theorem wpOpIn_of_yieldsS (hF : WideF F P) {i : Nat} {o : Oper} {v : Value} {a : Act} {w : World} {K : Act → World → Prop} {Q : Exit → Act → World → Prop} (hi : ops[i]? = some o) (hd : ∀ c, o.op ≠ .defer c)
    (hy : yieldsS P ops S o v a) (hS : S w) (h : ∀ w', S w' → K (a.put o.dst v) w') : wpOpIn F n P ops Q i K a w := by
  unfold wpOpIn
  simp only [hi]
  rcases hy with ⟨hw, hy⟩ | ⟨hw, rfl⟩
  · simp only [hw, if_true]
    refine ⟨fun f _ => hF.fn f, ?_⟩
    have h1 := hy w hS
    rw [Oper.semAt_plain F _ _ hd]
    generalize (execOp a.eval o).run P w = r at *
    cases r with
    | ok x w' =>
      cases x <;> simp only [comesTo] at h1 <;> simp only [Oper.uponIn]
      case value u => obtain ⟨rfl, h2⟩ := h1; exact h _ h2
      case skip => obtain ⟨rfl, h2⟩ := h1; exact h _ h2
      case enter f args =>
        refine ⟨fun hx => (by rw [hF.depth] at hx; cases hx), hF.calls _ _ _ _ _ (h1.mono fun e w'' ⟨he, h2⟩ => ?_)⟩
        subst he; exact h _ h2
    | halt x w' => simp only [comesTo] at h1
  · simp only [hw, Bool.false_eq_true, if_false]; exact ⟨fun f _ => hF.fn f, h _ hS⟩
theorem wpAnyIn_of_headS (hF : WideF F P) (hnd : noDefer ops = true) {m g : Nat} {L : Array Bool → Act → Prop} {Q : Exit → Act → World → Prop} (hL : ∀ listed a w, S w → L listed a → wpAnyIn F n P md ops Q g listed a w) :
    ∀ (f : Nat) (listed : Array Bool) (a : Act) (w : World), S w → headS P md ops S m L f listed a → wpAnyIn F n P md ops Q (f + g) listed a w
  | 0, listed, a, w, hS, h => by rw [Nat.zero_add]; exact hL _ _ _ hS h
  | f + 1, listed, a, w, hS, h => by
    rw [show f + 1 + g = (f + g) + 1 by omega]
    refine ⟨fun h0 => absurd h0 h.1, fun i hi => ?_⟩
    obtain ⟨_, o, v, ho, hy, hn⟩ := h.2 i hi
    exact wpOpIn_of_yieldsS hF ho (noDefer_spec hnd ho) hy hS fun w' hS' => wpAnyIn_of_headS hF hnd hL f _ _ _ hS' hn
theorem wpAnyIn_of_seq {Q' : Exit → Act → World → Prop} : ∀ (l : List Oper) (k : Nat) (listed : Array Bool) (a : Act) (w : World), (∀ j, l[j]? = ops[k + j]?) →
    Region.seqB md ops l.length k listed = true → wpListIn F n P ops Q' l a w → wpAnyIn F n P md ops Q' l.length listed a w
  | [], _, _, _, _, _, hB, h => ⟨by simpa [Region.seqB] using hB, h⟩
  | o :: l, k, listed, a, w, hl, hB, h => by
    have h0 : ops[k]? = some o := by simpa using (hl 0).symm
    simp only [List.length_cons, Region.seqB, Bool.and_eq_true, decide_eq_true_eq] at hB
    refine ⟨fun h1 => (by rw [hB.1] at h1; cases h1), fun i hi => ?_⟩
    rw [hB.1] at hi
    have hik : i = k := by simpa using hi
    subst hik
    have hw : wpOpIn F n P ops Q' i (wpListIn F n P ops Q' l) a w := by unfold wpOpIn; simp only [h0]; exact h
    exact wpOpIn_mono (fun a' w' h' => wpAnyIn_of_seq l (i + 1) _ a' w' (fun j => by have := hl (j + 1); simpa [Nat.add_assoc, Nat.add_comm 1 j] using this) hB.2 h') hw
/-- A REGION IN A FENCE, ALL OF WHOSE OPERATIONS YIELD ONE VALUE IN EVERY WORLD OF THE KIND S. -/
theorem wpIn_region_grow (hF : WideF F P) {id : Nat} {Q : Exit → Act → World → Prop} {a : Act} {w : World} {l : List Oper} (S : World → Prop) (hm : P.follows .mixedOrders = true) (hnd : noDefer l.toArray = true) (hB : lexAllB .any l.toArray = true)
    (h0 : S w.drew) (h : textS P l.toArray S (fun a' => ∀ w', S w' → Q .normal a' w') l a) : (Code.region id l.toArray true).wpIn F n P Q a w := by
  simp only [lexAllB, Bool.and_eq_true] at hB
  obtain ⟨hsel, hlex⟩ := hB
  have inv0 : HeadInv .any l.toArray l.length (Array.replicate l.toArray.size false) :=
    ⟨by simp, fun j oj _ hl => (by rw [getD_replicate_false] at hl; cases hl), fun t ht ht' => by simp at ht'; omega⟩
  have H := headS_lex (md := .any) (S := S) (n := l.length) (g := 0) hsel (fun i listed hi inv hr j hj => by
      obtain ⟨_, oj, hoj, _⟩ := mem_ready.1 hj
      have := (Array.getElem?_eq_some_iff.1 hoj).1
      simpa using this) l 0 _ a (fun j hj => by simp) (by simp) inv0 (by simpa using hlex) h
  refine wpIn_region_any hm ?_
  have := wpAnyIn_of_headS (F := F) (n := n) (Q := Q) (g := 0) hF hnd (fun listed a' w' hS hL => by
    exact ⟨by simpa [Region.seqB] using hL.1, hL.2 w' hS⟩) _ _ _ _ h0 H
  simpa using this
/-- A REGION IN A FENCE, WHOSE FIRST m OPERATIONS YIELD ONE VALUE IN EVERY WORLD OF THE KIND S, AND WHOSE OTHERS FOLLOW ONE BEHIND THE OTHER. -/
theorem wpIn_region_grow_tail (hF : WideF F P) {id : Nat} {Q : Exit → Act → World → Prop} {a : Act} {w : World} {l : List Oper} (m : Nat) (S : World → Prop) (hm : P.follows .mixedOrders = true) (hnd : noDefer l.toArray = true) (hB : Region.lexTailB .any l.toArray m = true)
    (h0 : S w.drew) (h : textS P l.toArray S (fun a' => ∀ w', S w' → wpListIn F n P l.toArray Q (l.drop m) a' w') (l.take m) a) : (Code.region id l.toArray true).wpIn F n P Q a w := by
  simp only [Region.lexTailB, Bool.and_eq_true, decide_eq_true_eq] at hB
  obtain ⟨⟨⟨⟨hsel, hn⟩, hs⟩, hc⟩, hlex⟩ := hB
  have hn' : m < l.length := by simpa using hn
  have htl : (l.take m).length = m := by simp; omega
  have hdl : (l.drop m).length = l.toArray.size - m := by simp
  have inv0 : HeadInv .any l.toArray m (Array.replicate l.toArray.size false) :=
    ⟨by simp, fun j oj _ hl => (by rw [getD_replicate_false] at hl; cases hl), fun t _ ht => getD_in (by simpa using ht) (getD_replicate_false _ _)⟩
  have H := headS_lex (md := .any) (S := S) (g := l.toArray.size - m) hsel (fun i listed hi inv hr j hj => by
      rcases Nat.lt_or_ge j m with h | h
      · exact h
      · exact absurd hj (tail_waits hs hc hn inv _ i rfl hi (mem_ready.1 hr).1 j h)) (l.take m) 0 _ a (fun j hj => by
    have hj' : j < m := by rw [htl] at hj; exact hj
    simp [hj']) (by simpa using htl) inv0 (by rw [htl]; exact hlex) h
  refine wpIn_region_any hm ?_
  have := wpAnyIn_of_headS (F := F) (n := n) (Q := Q) (g := l.toArray.size - m) hF hnd (fun listed a' w' hS hL => by
    have := wpAnyIn_of_seq (F := F) (n := n) (md := .any) (Q' := Q) (l.drop m) m listed a' w' (fun j => by simp [List.getElem?_drop]) (by rw [hdl]; exact hL.1) (hL.2 w' hS)
    rwa [hdl] at this) _ _ _ _ h0 H
  rw [htl, show m + (l.toArray.size - m) = l.toArray.size by omega] at this
  exact this
end
end Go.Proofs.YtdfkfcpkejjlnaaDoor
namespace Go.Proofs.YtdfkfcpkejjlnaaDoor
set_option linter.unusedVariables false
open Go
section
variable {F : Fence} {n : Nat} {P : Program} {ops : Array Oper} {md : Region.Mode} {S : Bool → World → Prop} {c : Nat}

/-- does an operation wait for the operation c? -/
def aftB (md : Region.Mode) (c : Nat) (o : Oper) : Bool := o.after.any fun e => Region.binds md e && e.on == c
/-- what the operation number i comes to -/
def yieldsT (P : Program) (md : Region.Mode) (ops : Array Oper) (S : Bool → World → Prop) (c i : Nat) (o : Oper) (v : Value) (a : Act) : Prop :=
  if i = c then Region.wanted o (yielded ops a.tmps) = true ∧ ∀ w, S false w → comesTo P (S true) v ((execOp a.eval o).run P w)
  else if aftB md c o = true then yieldsS P ops (S true) o v a
  else (∀ p, yieldsS P ops (S p) o v a)
theorem yieldsT_same {i : Nat} {o : Oper} {v : Value} {a a' : Act} (hy : yieldsT P md ops S c i o v a) (he : execOp a'.eval o = execOp a.eval o)
    (hw : Region.wanted o (yielded ops a'.tmps) = Region.wanted o (yielded ops a.tmps)) : yieldsT P md ops S c i o v a' := by
  unfold yieldsT at *
  split at hy
  · rename_i h
    rw [if_pos h, he, hw]; exact hy
  · rename_i h
    rw [if_neg h]
    split at hy
    · rename_i h2
      rw [if_pos h2]; exact yieldsS_same hy he hw
    · rename_i h2
      rw [if_neg h2]; exact fun p => yieldsS_same (hy p) he hw
def headT (P : Program) (md : Region.Mode) (ops : Array Oper) (S : Bool → World → Prop) (c n : Nat) (L : Array Bool → Act → Prop) : Nat → Array Bool → Act → Prop
  | 0, listed, a => L listed a
  | f + 1, listed, a => Region.ready md ops listed ≠ [] ∧ ∀ i ∈ Region.ready md ops listed, i < n ∧
      ∃ o v, ops[i]? = some o ∧ yieldsT P md ops S c i o v a ∧ headT P md ops S c n L f (listed.setIfInBounds i true) (a.put o.dst v)
theorem headT_first {n i : Nat} {oi : Oper} {v : Value} {L : Array Bool → Act → Prop} (hi : ops[i]? = some oi) (hsel : ∀ (j : Nat) (o : Oper) cs b, ops[j]? = some o → o.op ≠ .select cs b)
    (hin : i < n) (hlow : ∀ listed, HeadInv md ops n listed → i ∈ Region.ready md ops listed → ∀ j ∈ Region.ready md ops listed, j < n)
    (hdone : ∀ listed a, L listed a → ∀ j ∈ Region.ready md ops listed, n ≤ j) :
    ∀ (f : Nat) (listed : Array Bool) (a : Act), HeadInv md ops n listed →
      (∀ j oj, ops[j]? = some oj → j ≠ i → listed.getD j true = false → (∀ e ∈ oj.after, Region.binds md e = true → e.on ≠ i) → oi.apart ops oj = true) →
      i ∈ Region.ready md ops listed → yieldsT P md ops S c i oi v a →
      headT P md ops S c n L f (listed.setIfInBounds i true) (a.put oi.dst v) → headT P md ops S c n L (f + 1) listed a := by
  intro f
  induction f with
  | zero =>
    intro listed a inv _ hr hy H
    refine ⟨fun h => (by rw [h] at hr; cases hr), fun j hj => ?_⟩
    have hjn := hlow listed inv hr j hj
    refine ⟨hjn, ?_⟩
    by_cases hji : j = i
    · subst hji; exact ⟨oi, v, hi, hy, H⟩
    · have := hdone _ _ H j (ready_mono hj hji)
      omega
  | succ f ih =>
    intro listed a inv hfree hr hy H
    have hun := (mem_ready.1 hr).1
    refine ⟨fun h => (by rw [h] at hr; cases hr), fun j hj => ?_⟩
    have hjn := hlow listed inv hr j hj
    refine ⟨hjn, ?_⟩
    by_cases hji : j = i
    · subst hji; exact ⟨oi, v, hi, hy, H⟩
    · obtain ⟨_, oj, u, hoj, hyj, hK⟩ := H.2 j (ready_mono hj hji)
      obtain ⟨hjun, oj', hoj', hall⟩ := mem_ready.1 hj
      obtain rfl : oj' = oj := Option.some.inj (hoj'.symm.trans hoj)
      have hnot : ∀ e ∈ oj'.after, Region.binds md e = true → e.on ≠ i := fun e he hb heq => by
        have h1 := hall e he hb
        rw [heq, getD_both hun] at h1
        cases h1
      have hap := hfree j oj' hoj hji hjun hnot
      obtain ⟨h1, h2, h3⟩ := Oper.apart_spec hap
      refine ⟨oj', u, hoj, yieldsT_same hyj (execOp_put oj' (fun cs b => hsel j oj' cs b hoj) a oi.dst v h1).symm (wanted_put oj' a oi.dst v h1).symm, ?_⟩
      refine ih (listed.setIfInBounds j true) (a.put oj'.dst u) (inv.set hj hjn) (fun k ok hk hki hku hno => ?_) (ready_mono hr (Ne.symm hji))
        (yieldsT_same hy (execOp_put oi (fun cs b => hsel i oi cs b hi) a oj'.dst u h3) (wanted_put oi a oj'.dst u h3)) ?_
      · refine hfree k ok hk hki ?_ hno
        by_cases hjk : j = k
        · subst hjk; exact hjun
        · rw [getD_set_ne true hjk] at hku; exact hku
      · rw [Array.setIfInBounds_comm _ _ hji, ← Act.put_comm a v u h2]
        exact hK
def textT2 (P : Program) (md : Region.Mode) (ops : Array Oper) (S : Bool → World → Prop) (c : Nat) (Q : Act → Prop) : Nat → List Oper → Act → Prop
  | _, [], a => Q a
  | k, o :: rest, a => ∃ v, yieldsT P md ops S c k o v a ∧ textT2 P md ops S c Q (k + 1) rest (a.put o.dst v)
theorem headT_lex {n g : Nat} {Lq : Act → Prop} (hsel : Region.noSelect ops = true)
    (hlow : ∀ i listed, i < n → HeadInv md ops n listed → i ∈ Region.ready md ops listed → ∀ j ∈ Region.ready md ops listed, j < n) :
    ∀ (l : List Oper) (k : Nat) (listed : Array Bool) (a : Act), (∀ j, j < l.length → l[j]? = ops[k + j]?) → k + l.length = n → HeadInv md ops n listed →
    Region.lexHead md ops g l.length k listed = true → textT2 P md ops S c Lq k l a →
    headT P md ops S c n (fun listed' a' => Region.seqB md ops g n listed' = true ∧ Lq a') l.length listed a
  | [], k, listed, a, _, hk, _, hB, h => by
    have : k = n := by simpa using hk
    subst this
    exact ⟨by simpa [Region.lexHead] using hB, h⟩
  | o :: l, k, listed, a, hl, hk, inv, hB, h => by
    have h0 : ops[k]? = some o := by simpa using (hl 0 (by simp)).symm
    simp only [List.length_cons, Region.lexHead, Bool.and_eq_true] at hB
    obtain ⟨⟨hr, hf⟩, hB'⟩ := hB
    have hkn : k < n := by simp only [List.length_cons] at hk; omega
    have hr' : k ∈ Region.ready md ops listed := by simpa using hr
    obtain ⟨v, hy, hK⟩ := h
    exact headT_first h0 (Region.noSelect_spec hsel) hkn (fun listed' inv' hr'' => hlow k listed' hkn inv' hr'') (fun listed' a' hL => seqB_ready hL.1) l.length listed a inv (Region.free_spec h0 hf) hr' hy
      (headT_lex hsel hlow l (k + 1) _ _ (fun j hj => by have := hl (j + 1) (by simp; omega); simpa [Nat.add_assoc, Nat.add_comm 1 j] using this) (by simp only [List.length_cons] at hk; omega) (inv.set hr' hkn) hB' hK)
/-- which kind of world: has the operation c been carried out? -/
theorem phase_set {listed : Array Bool} {i : Nat} (hi : i < listed.size) (c : Nat) : (listed.setIfInBounds i true).getD c true = if i = c then true else listed.getD c true := by
  by_cases h : i = c
  · subst h
    rw [if_pos rfl]
    simp [Array.getD, hi]
  · rw [if_neg h]
    exact getD_set_ne true h
def doneN (m : Nat) (listed : Array Bool) : Nat := (List.range m).countP (fun j => listed.getD j true)
theorem doneN_set {listed : Array Bool} {i : Nat} (hi : i < listed.size) (h : listed.getD i true = false) : ∀ m, doneN m (listed.setIfInBounds i true) = doneN m listed + if i < m then 1 else 0
  | 0 => by simp [doneN]
  | m + 1 => by
    have ih := doneN_set hi h m
    unfold doneN at ih ⊢
    rw [List.range_succ, List.countP_append, List.countP_append, ih]
    simp only [List.countP_cons, List.countP_nil, phase_set hi m]
    by_cases hm : i = m
    · subst hm
      have e1 : ¬ i < i := by omega
      have e2 : i < i + 1 := by omega
      simp [h]
    · by_cases hlt : i < m
      · have e2 : i < m + 1 := by omega
        simp only [hm, hlt, e2, if_true, if_false]
        omega
      · have e2 : ¬ i < m + 1 := by omega
        simp only [hm, hlt, e2, if_false]
        omega
theorem doneN_all {m : Nat} {listed : Array Bool} (h : doneN m listed = m) {c : Nat} (hc : c < m) : listed.getD c true = true := by
  unfold doneN at h
  have : ∀ a ∈ List.range m, listed.getD a true = true := List.countP_eq_length.1 (by rw [h, List.length_range])
  exact this c (List.mem_range.2 hc)
theorem doneN_none (k : Nat) : ∀ m, m ≤ k → doneN m (Array.replicate k false) = 0
  | 0, _ => rfl
  | m + 1, h => by
    have ih := doneN_none k m (by omega)
    unfold doneN at ih ⊢
    rw [List.range_succ, List.countP_append, ih]
    simp [Array.getD, show m < k by omega]
theorem wpAnyIn_of_headT (hF : WideF F P) (hnd : noDefer ops = true) {m g : Nat} {L : Array Bool → Act → Prop} {Q : Exit → Act → World → Prop}
    (hL : ∀ listed a w, S true w → L listed a → wpAnyIn F n P md ops Q g listed a w) (hc : c < ops.size) (hcm : c < m) :
    ∀ (f : Nat) (listed : Array Bool) (a : Act) (w : World), listed.size = ops.size → doneN m listed + f = m → S (listed.getD c true) w → headT P md ops S c m L f listed a → wpAnyIn F n P md ops Q (f + g) listed a w
  | 0, listed, a, w, hz, hN, hS, h => by rw [Nat.zero_add]; rw [doneN_all hN hcm] at hS; exact hL _ _ _ hS h
  | f + 1, listed, a, w, hz, hN, hS, h => by
    rw [show f + 1 + g = (f + g) + 1 by omega]
    refine ⟨fun h0 => absurd h0 h.1, fun i hi => ?_⟩
    obtain ⟨him, o, v, ho, hy, hn⟩ := h.2 i hi
    have hun := (mem_ready.1 hi).1
    have hio := (Array.getElem?_eq_some_iff.1 ho).1
    have hN' : doneN m (listed.setIfInBounds i true) + f = m := by rw [doneN_set (by omega) hun, if_pos him]; omega
    have hz' : (listed.setIfInBounds i true).size = ops.size := by simpa using hz
    unfold yieldsT at hy
    by_cases hic : i = c
    · rw [if_pos hic] at hy
      have h0 : listed.getD c true = false := by rw [← hic]; exact hun
      rw [h0] at hS
      refine wpOpIn_mono (K := fun a' w' => a' = a.put o.dst v ∧ S true w') (fun a' w' hh => ?_) ?_
      · obtain ⟨rfl, h2⟩ := hh
        refine wpAnyIn_of_headT hF hnd hL hc hcm f _ _ _ hz' hN' ?_ hn
        rw [phase_set (by omega) c, if_pos hic]; exact h2
      · unfold wpOpIn
        simp only [ho, hy.1, if_true]
        refine ⟨fun f _ => hF.fn f, ?_⟩
        have h1 := hy.2 w hS
        rw [Oper.semAt_plain F _ _ (noDefer_spec hnd ho)]
        generalize (execOp a.eval o).run P w = r at *
        cases r with
        | ok x w' =>
          cases x <;> simp only [comesTo] at h1 <;> simp only [Oper.uponIn]
          case value u => obtain ⟨rfl, h2⟩ := h1; exact ⟨rfl, h2⟩
          case skip => obtain ⟨rfl, h2⟩ := h1; exact ⟨rfl, h2⟩
          case enter f args =>
            refine ⟨fun hx => (by rw [hF.depth] at hx; cases hx), hF.calls _ _ _ _ _ (h1.mono fun e w'' ⟨he, h2⟩ => ?_)⟩
            subst he; exact ⟨rfl, h2⟩
        | halt x w' => simp only [comesTo] at h1
    · rw [if_neg hic] at hy
      have hy2 : yieldsS P ops (S (listed.getD c true)) o v a := by
        split at hy
        · rename_i haf
          obtain ⟨q, hq, heb⟩ := Array.any_eq_true.1 haf
          have he := Array.getElem_mem hq
          generalize o.after[q] = e at *
          obtain ⟨_, o2, ho2, hall⟩ := mem_ready.1 hi
          obtain rfl : o2 = o := Option.some.inj (ho2.symm.trans ho)
          simp only [Bool.and_eq_true, beq_iff_eq] at heb
          have h1 := hall e he heb.1
          rw [heb.2] at h1
          have h2 : listed.getD c true = true := by
            cases hb : listed.getD c true with
            | true => rfl
            | false => rw [getD_both hb] at h1; cases h1
          rw [h2]; exact hy
        · exact hy _
      refine wpOpIn_of_yieldsS hF ho (noDefer_spec hnd ho) hy2 hS fun w' hS' => wpAnyIn_of_headT hF hnd hL hc hcm f _ _ _ hz' hN' ?_ hn
      rw [phase_set (by omega) c, if_neg hic]; exact hS'
/-- A REGION IN A FENCE WHOSE OPERATION c LEADS FROM ONE KIND OF WORLDS TO ANOTHER; BEHIND THE FIRST m OPERATIONS THE OTHERS FOLLOW ONE BEHIND THE OTHER. -/
theorem wpIn_region_two (hF : WideF F P) {id : Nat} {Q : Exit → Act → World → Prop} {a : Act} {w : World} {l : List Oper} (m c : Nat) (S : Bool → World → Prop) (hm : P.follows .mixedOrders = true) (hnd : noDefer l.toArray = true) (hB : Region.lexTailB .any l.toArray m = true) (hcm : c < m)
    (h0 : S false w.drew) (h : textT2 P .any l.toArray S c (fun a' => ∀ w', S true w' → wpListIn F n P l.toArray Q (l.drop m) a' w') 0 (l.take m) a) : (Code.region id l.toArray true).wpIn F n P Q a w := by
  simp only [Region.lexTailB, Bool.and_eq_true, decide_eq_true_eq] at hB
  obtain ⟨⟨⟨⟨hsel, hn⟩, hs⟩, hc⟩, hlex⟩ := hB
  have hn' : m < l.length := by simpa using hn
  have htl : (l.take m).length = m := by simp; omega
  have hdl : (l.drop m).length = l.toArray.size - m := by simp
  have inv0 : HeadInv .any l.toArray m (Array.replicate l.toArray.size false) :=
    ⟨by simp, fun j oj _ hl => (by rw [getD_replicate_false] at hl; cases hl), fun t _ ht => getD_in (by simpa using ht) (getD_replicate_false _ _)⟩
  have hlow : ∀ i listed, i < m → HeadInv .any l.toArray m listed → i ∈ Region.ready .any l.toArray listed → ∀ j ∈ Region.ready .any l.toArray listed, j < m := fun i listed hi inv hr j hj => by
      rcases Nat.lt_or_ge j m with h | h
      · exact h
      · exact absurd hj (tail_waits hs hc hn inv _ i rfl hi (mem_ready.1 hr).1 j h)
  have H := headT_lex (md := .any) (S := S) (c := c) (g := l.toArray.size - m) hsel hlow (l.take m) 0 _ a (fun j hj => by
    have hj' : j < m := by rw [htl] at hj; exact hj
    simp [hj']) (by simpa using htl) inv0 (by rw [htl]; exact hlex) h
  refine wpIn_region_any hm ?_
  have := wpAnyIn_of_headT (F := F) (n := n) (Q := Q) (g := l.toArray.size - m) hF hnd (fun listed a' w' hS hL => by
    have := wpAnyIn_of_seq (F := F) (n := n) (md := .any) (Q' := Q) (l.drop m) m listed a' w' (fun j => by simp [List.getElem?_drop]) (by rw [hdl]; exact hL.1) (hL.2 w' hS)
    rwa [hdl] at this) (by simp; omega) hcm _ _ _ _ (by simp) (by rw [doneN_none _ _ (by simp; omega), htl]; omega) (by rw [getD_in (by simp; omega) (getD_replicate_false _ _)]; exact h0) H
  rw [htl, show m + (l.toArray.size - m) = l.toArray.size by omega] at this
  exact this
/-- THE SAME, WHERE NO TAIL IS LEFT. -/
theorem wpIn_region_twoA (hF : WideF F P) {id : Nat} {Q : Exit → Act → World → Prop} {a : Act} {w : World} {l : List Oper} (c : Nat) (S : Bool → World → Prop) (hm : P.follows .mixedOrders = true) (hnd : noDefer l.toArray = true) (hB : lexAllB .any l.toArray = true) (hcm : c < l.length)
    (h0 : S false w.drew) (h : textT2 P .any l.toArray S c (fun a' => ∀ w', S true w' → Q .normal a' w') 0 l a) : (Code.region id l.toArray true).wpIn F n P Q a w := by
  simp only [lexAllB, Bool.and_eq_true] at hB
  obtain ⟨hsel, hlex⟩ := hB
  have inv0 : HeadInv .any l.toArray l.length (Array.replicate l.toArray.size false) :=
    ⟨by simp, fun j oj _ hl => (by rw [getD_replicate_false] at hl; cases hl), fun t ht ht' => by simp at ht'; omega⟩
  have H := headT_lex (md := .any) (S := S) (c := c) (n := l.length) (g := 0) hsel (fun i listed hi inv hr j hj => by
      obtain ⟨_, oj, hoj, _⟩ := mem_ready.1 hj
      have := (Array.getElem?_eq_some_iff.1 hoj).1
      simpa using this) l 0 _ a (fun j hj => by simp) (by simp) inv0 (by simpa using hlex) h
  refine wpIn_region_any hm ?_
  have := wpAnyIn_of_headT (F := F) (n := n) (Q := Q) (g := 0) hF hnd (fun listed a' w' hS hL => by
    exact ⟨by simpa [Region.seqB] using hL.1, hL.2 w' hS⟩) (by simpa using hcm) hcm _ _ _ _ (by simp) (by rw [doneN_none _ _ (by simp)]; omega) (by rw [getD_in (by simpa using hcm) (getD_replicate_false _ _)]; exact h0) H
  simpa using this
theorem textT2_run {Q : Act → Prop} {a : Act} {o : Oper} {rest : List Oper} {k : Nat} (v : Value) (hk : k ≠ c) (hw : Region.wanted o (yielded ops a.tmps) = true)
    (hy : ∀ p w, S p w → comesTo P (S p) v ((execOp a.eval o).run P w)) (h : textT2 P md ops S c Q (k + 1) rest (a.put o.dst v)) : textT2 P md ops S c Q k (o :: rest) a :=
  ⟨v, by unfold yieldsT; rw [if_neg hk]; split; exact .inl ⟨hw, hy true⟩; exact fun p => .inl ⟨hw, hy p⟩, h⟩
theorem textT2_after {Q : Act → Prop} {a : Act} {o : Oper} {rest : List Oper} {k : Nat} (v : Value) (hk : k ≠ c) (haf : aftB md c o = true) (hw : Region.wanted o (yielded ops a.tmps) = true)
    (hy : ∀ w, S true w → comesTo P (S true) v ((execOp a.eval o).run P w)) (h : textT2 P md ops S c Q (k + 1) rest (a.put o.dst v)) : textT2 P md ops S c Q k (o :: rest) a :=
  ⟨v, by unfold yieldsT; rw [if_neg hk, if_pos haf]; exact .inl ⟨hw, hy⟩, h⟩
theorem textT2_skip {Q : Act → Prop} {a : Act} {o : Oper} {rest : List Oper} {k : Nat} (hk : k ≠ c) (hw : Region.wanted o (yielded ops a.tmps) = false)
    (h : textT2 P md ops S c Q (k + 1) rest (a.put o.dst undef)) : textT2 P md ops S c Q k (o :: rest) a :=
  ⟨undef, by unfold yieldsT; rw [if_neg hk]; split; exact .inr ⟨hw, rfl⟩; exact fun p => .inr ⟨hw, rfl⟩, h⟩
theorem textT2_call {Q : Act → Prop} {a : Act} {o : Oper} {rest : List Oper} {k : Nat} (v : Value) (hk : k = c) (hw : Region.wanted o (yielded ops a.tmps) = true)
    (hy : ∀ w, S false w → comesTo P (S true) v ((execOp a.eval o).run P w)) (h : textT2 P md ops S c Q (k + 1) rest (a.put o.dst v)) : textT2 P md ops S c Q k (o :: rest) a :=
  ⟨v, by unfold yieldsT; rw [if_pos hk]; exact ⟨hw, hy⟩, h⟩
theorem textT2_nil {Q : Act → Prop} {a : Act} {k : Nat} (h : Q a) : textT2 P md ops S c Q k [] a := h
end
end Go.Proofs.YtdfkfcpkejjlnaaDoor
