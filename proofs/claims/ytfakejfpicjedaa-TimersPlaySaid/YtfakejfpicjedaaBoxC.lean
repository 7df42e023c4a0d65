/- The law of regions that lay boxes, as a walk of the text. The conditions: the edges' checks, by computation. -/
import Derived.Test.YtfakejfpicjedaaBoxB
namespace Go.Proofs.Ytfakejfpicjedaa
set_option linter.unusedVariables false
open Go Go.RowKit
section
variable {P : Program} {ops : Array Oper} {md : Region.Mode} {W0 : World}

/-- the boxes' slots, filled -/
def putAll (blk : Tmp → Nat) : List Tmp → Act → Act
  | [], a => a
  | d :: l, a => putAll blk l (a.put (some d) (.pointer (some ⟨blk d, 0, none⟩)))
/-- the operations of the text, one behind the other -/
def textB (P : Program) (ops : Array Oper) (W0 : World) (Q : List (Tmp × TypeId × Array Value) → Act → Prop) : List Oper → List (Tmp × TypeId × Array Value) → List (Tmp × TypeId × Array Value) → Act → Prop
  | [], _, bx, a => Q bx a
  | o :: rest, zs, bx, a =>
    if isAl o = true then ∃ (d : Tmp) (T : TypeId) (z : Array Value), o.dst = some d ∧ zs.lookup d = none ∧ allocs P o T z ∧ textB P ops W0 Q rest ((d, T, z) :: zs) bx a
    else match stAddr o with
      | some d => ∃ (T : TypeId) (z c : Array Value), zs.lookup d = some (T, z) ∧ bx.lookup d = none ∧ stores P o T d z c a ∧ textB P ops W0 Q rest zs ((d, T, c) :: bx) a
      | none => ∃ v, yieldsB P ops W0 o v a ∧ textB P ops W0 Q rest zs bx (a.put o.dst v)
theorem textB_det {Q : List (Tmp × TypeId × Array Value) → Act → Prop} {o : Oper} {rest : List Oper} {zs bx : List (Tmp × TypeId × Array Value)} {a : Act} (v : Value) (h1 : isAl o = false) (h2 : stAddr o = none) (hw : Region.wanted o (yielded ops a.tmps) = true)
    (hy : ∀ w, Below W0.heap.size W0 w → comesTo P (fun w' => Below w.heap.size w w') v ((execOp a.eval o).run P w)) (h : textB P ops W0 Q rest zs bx (a.put o.dst v)) : textB P ops W0 Q (o :: rest) zs bx a := by
  simp only [textB, h1, h2, Bool.false_eq_true, if_false]
  exact ⟨v, .inl ⟨hw, hy⟩, h⟩
theorem textB_skip {Q : List (Tmp × TypeId × Array Value) → Act → Prop} {o : Oper} {rest : List Oper} {zs bx : List (Tmp × TypeId × Array Value)} {a : Act} (h1 : isAl o = false) (h2 : stAddr o = none) (hw : Region.wanted o (yielded ops a.tmps) = false)
    (h : textB P ops W0 Q rest zs bx (a.put o.dst undef)) : textB P ops W0 Q (o :: rest) zs bx a := by
  simp only [textB, h1, h2, Bool.false_eq_true, if_false]
  exact ⟨undef, .inr ⟨hw, rfl⟩, h⟩
theorem textB_al {Q : List (Tmp × TypeId × Array Value) → Act → Prop} {o : Oper} {rest : List Oper} {zs bx : List (Tmp × TypeId × Array Value)} {a : Act} (d : Tmp) (T : TypeId) (z : Array Value) (h1 : isAl o = true) (hd : o.dst = some d) (hz : zs.lookup d = none)
    (ha : allocs P o T z) (h : textB P ops W0 Q rest ((d, T, z) :: zs) bx a) : textB P ops W0 Q (o :: rest) zs bx a := by
  simp only [textB, h1, if_true]
  exact ⟨d, T, z, hd, hz, ha, h⟩
theorem textB_st {Q : List (Tmp × TypeId × Array Value) → Act → Prop} {o : Oper} {rest : List Oper} {zs bx : List (Tmp × TypeId × Array Value)} {a : Act} (d : Tmp) (T : TypeId) (z c : Array Value) (h1 : isAl o = false) (h2 : stAddr o = some d) (hz : zs.lookup d = some (T, z)) (hb : bx.lookup d = none)
    (hs : stores P o T d z c a) (h : textB P ops W0 Q rest zs ((d, T, c) :: bx) a) : textB P ops W0 Q (o :: rest) zs bx a := by
  simp only [textB, h1, h2, Bool.false_eq_true, if_false]
  exact ⟨T, z, c, hz, hb, hs, h⟩

theorem lookup_ne {β : Type} {d d' : Tmp} {x : β} {l : List (Tmp × β)} (h : ¬ d' = d) : ((d, x) :: l).lookup d' = l.lookup d' := by
  have hb : (d' == d) = false := by simpa using h
  simp only [List.lookup, hb]
/-- what the walk of the text gives -/
theorem textB_get {Q : List (Tmp × TypeId × Array Value) → Act → Prop} : ∀ (l : List Oper) (k : Nat) (zs bx : List (Tmp × TypeId × Array Value)) (a : Act), textB P ops W0 Q l zs bx a →
    ∃ (vals : Nat → Value) (Z C : Tmp → Array Value) (TT : Tmp → TypeId) (F : Nat → Act) (bf : List (Tmp × TypeId × Array Value)), F k = a ∧
      (∀ (j : Nat) (o : Oper), l[j]? = some o → isAl o = false → stAddr o = none → yieldsB P ops W0 o (vals (k + j)) (F (k + j)) ∧ F (k + j + 1) = (F (k + j)).put o.dst (vals (k + j))) ∧
      (∀ (j : Nat) (o : Oper) (d : Tmp), l[j]? = some o → isAl o = true → o.dst = some d → allocs P o (TT d) (Z d) ∧ F (k + j + 1) = F (k + j)) ∧
      (∀ (j : Nat) (o : Oper) (d : Tmp), l[j]? = some o → stAddr o = some d → stores P o (TT d) d (Z d) (C d) (F (k + j)) ∧ F (k + j + 1) = F (k + j) ∧ (d, TT d, C d) ∈ bf) ∧
      (∀ d T z, zs.lookup d = some (T, z) → TT d = T ∧ Z d = z) ∧ (∀ d T c, bx.lookup d = some (T, c) → C d = c) ∧
      (∀ e ∈ bf, e ∈ bx ∨ ∃ (j : Nat) (o : Oper), l[j]? = some o ∧ stAddr o = some e.1 ∧ e = (e.1, TT e.1, C e.1)) ∧ (∀ e ∈ bx, e ∈ bf) ∧ Q bf (F (k + l.length))
  | [], k, zs, bx, a, h => ⟨fun _ => undef, fun d => ((zs.lookup d).map (·.2)).getD #[], fun d => ((bx.lookup d).map (·.2)).getD #[], fun d => ((zs.lookup d).map (·.1)).getD 0, fun _ => a, bx, rfl, fun j o h => by simp at h, fun j o d h => by simp at h, fun j o d h => by simp at h,
      fun d T z h => by simp [h], fun d T c h => by simp [h], fun e he => .inl he, fun e he => he, h⟩
  | o :: rest, k, zs, bx, a, h => by
    have key : ∀ {p : Nat → Oper → Prop}, p 0 o → (∀ (j : Nat) (o' : Oper), rest[j]? = some o' → p (j + 1) o') → ∀ (j : Nat) (o' : Oper), (o :: rest)[j]? = some o' → p j o' := fun h0 hs j o' hj => by
      cases j with
      | zero => simp at hj; subst hj; exact h0
      | succ j => exact hs j o' (by simpa using hj)
    by_cases hal : isAl o = true
    · simp only [textB, hal, if_true] at h
      obtain ⟨d, T, z, hd, hz, ha, h⟩ := h
      obtain ⟨vals, Z, C, TT, F, bf, hF, h1, h2, h3, h4, h5, h6, h7, h8⟩ := textB_get rest (k + 1) _ bx a h
      have hT := h4 d T z (by simp)
      refine ⟨vals, Z, C, TT, fun i => if i = k then a else F i, bf, by simp, fun j o' hj ha' hs' => ?_, fun j o' d' hj ha' hd' => ?_, fun j o' d' hj hs' => ?_, fun d' T' z' h' => ?_, h5, fun e he => ?_, h7, ?_⟩
      · cases j with
        | zero => simp at hj; subst hj; rw [hal] at ha'; cases ha'
        | succ j => have := h1 j o' (by simpa using hj) ha' hs'; simpa [Nat.add_assoc, Nat.add_comm 1 j, show k + (j + 1) ≠ k by omega, show k + (j + 1 + 1) ≠ k by omega] using this
      · cases j with
        | zero => simp at hj; subst hj; obtain rfl := Option.some.inj (hd.symm.trans hd'); rw [hT.1, hT.2]; exact ⟨ha, by simp [hF]⟩
        | succ j => have := h2 j o' d' (by simpa using hj) ha' hd'; simpa [Nat.add_assoc, Nat.add_comm 1 j, show k + (j + 1) ≠ k by omega, show k + (j + 1 + 1) ≠ k by omega] using this
      · cases j with
        | zero => simp at hj; subst hj; rw [isAl_stAddr hal] at hs'; cases hs'
        | succ j => have := h3 j o' d' (by simpa using hj) hs'; simpa [Nat.add_assoc, Nat.add_comm 1 j, show k + (j + 1) ≠ k by omega, show k + (j + 1 + 1) ≠ k by omega] using this
      · by_cases hdd : d' = d
        · subst hdd; rw [hz] at h'; cases h'
        · refine h4 d' T' z' ?_
          rw [lookup_ne hdd]; exact h'
      · rcases h6 e he with h | ⟨j, o', hj, hs, he'⟩
        · exact .inl h
        · exact .inr ⟨j + 1, o', by simpa using hj, hs, he'⟩
      · have : k + (o :: rest).length = k + 1 + rest.length := by simp; omega
        simp only [this, show k + 1 + rest.length ≠ k by omega, if_false]
        exact h8
    · have hal' : isAl o = false := by simpa using hal
      simp only [textB, hal', Bool.false_eq_true, if_false] at h
      cases hst : stAddr o with
      | some d =>
        simp only [hst] at h
        obtain ⟨T, z, c, hz, hb, hs, h⟩ := h
        obtain ⟨vals, Z, C, TT, F, bf, hF, h1, h2, h3, h4, h5, h6, h7, h8⟩ := textB_get rest (k + 1) zs _ a h
        have hT := h4 d T z hz
        have hC := h5 d T c (by simp)
        refine ⟨vals, Z, C, TT, fun i => if i = k then a else F i, bf, by simp, fun j o' hj ha' hs' => ?_, fun j o' d' hj ha' hd' => ?_, fun j o' d' hj hs' => ?_, h4, fun d' T' c' h' => ?_, fun e he => ?_, fun e he => h7 e (List.mem_cons_of_mem _ he), ?_⟩
        · cases j with
          | zero => simp at hj; subst hj; rw [hst] at hs'; cases hs'
          | succ j => have := h1 j o' (by simpa using hj) ha' hs'; simpa [Nat.add_assoc, Nat.add_comm 1 j, show k + (j + 1) ≠ k by omega, show k + (j + 1 + 1) ≠ k by omega] using this
        · cases j with
          | zero => simp at hj; subst hj; rw [hal'] at ha'; cases ha'
          | succ j => have := h2 j o' d' (by simpa using hj) ha' hd'; simpa [Nat.add_assoc, Nat.add_comm 1 j, show k + (j + 1) ≠ k by omega, show k + (j + 1 + 1) ≠ k by omega] using this
        · cases j with
          | zero =>
            simp at hj; subst hj; obtain rfl := Option.some.inj (hst.symm.trans hs'); rw [hT.1, hT.2, hC]
            exact ⟨by simpa using hs, by simp [hF], h7 _ List.mem_cons_self⟩
          | succ j => have := h3 j o' d' (by simpa using hj) hs'; simpa [Nat.add_assoc, Nat.add_comm 1 j, show k + (j + 1) ≠ k by omega, show k + (j + 1 + 1) ≠ k by omega] using this
        · by_cases hdd : d' = d
          · subst hdd; rw [hb] at h'; cases h'
          · refine h5 d' T' c' ?_
            rw [lookup_ne hdd]; exact h'
        · rcases h6 e he with h | ⟨j, o', hj, hs', he'⟩
          · rcases List.mem_cons.1 h with rfl | h
            · exact .inr ⟨0, o, by simp, hst, by simp [hT.1, hC]⟩
            · exact .inl h
          · exact .inr ⟨j + 1, o', by simpa using hj, hs', he'⟩
        · have : k + (o :: rest).length = k + 1 + rest.length := by simp; omega
          simp only [this, show k + 1 + rest.length ≠ k by omega, if_false]
          exact h8
      | none =>
        simp only [hst] at h
        obtain ⟨v, hy, h⟩ := h
        obtain ⟨vals, Z, C, TT, F, bf, hF, h1, h2, h3, h4, h5, h6, h7, h8⟩ := textB_get rest (k + 1) zs bx _ h
        refine ⟨fun i => if i = k then v else vals i, Z, C, TT, fun i => if i = k then a else F i, bf, by simp, fun j o' hj ha' hs' => ?_, fun j o' d' hj ha' hd' => ?_, fun j o' d' hj hs' => ?_, h4, h5, fun e he => ?_, h7, ?_⟩
        · cases j with
          | zero => simp at hj; subst hj; exact ⟨by simpa using hy, by simp [hF]⟩
          | succ j => have := h1 j o' (by simpa using hj) ha' hs'; simpa [Nat.add_assoc, Nat.add_comm 1 j, show k + (j + 1) ≠ k by omega, show k + (j + 1 + 1) ≠ k by omega] using this
        · cases j with
          | zero => simp at hj; subst hj; rw [hal'] at ha'; cases ha'
          | succ j => have := h2 j o' d' (by simpa using hj) ha' hd'; simpa [Nat.add_assoc, Nat.add_comm 1 j, show k + (j + 1) ≠ k by omega, show k + (j + 1 + 1) ≠ k by omega] using this
        · cases j with
          | zero => simp at hj; subst hj; rw [hst] at hs'; cases hs'
          | succ j => have := h3 j o' d' (by simpa using hj) hs'; simpa [Nat.add_assoc, Nat.add_comm 1 j, show k + (j + 1) ≠ k by omega, show k + (j + 1 + 1) ≠ k by omega] using this
        · rcases h6 e he with h | ⟨j, o', hj, hs, he'⟩
          · exact .inl h
          · exact .inr ⟨j + 1, o', by simpa using hj, hs, he'⟩
        · have : k + (o :: rest).length = k + 1 + rest.length := by simp; omega
          simp only [this, show k + 1 + rest.length ≠ k by omega, if_false]
          exact h8

/-- what the boxes come to, in whatever order: other blocks, each new, each with its cells -/
def boxed (W0 : World) (Q : Exit → Act → World → Prop) (bx : List (Tmp × TypeId × Array Value)) (a : Act) : Prop :=
  ∀ (blk : Tmp → Nat) (w : World), Below W0.heap.size W0 w → (∀ e ∈ bx, W0.heap.size ≤ blk e.1 ∧ w.heap[blk e.1]? = some (.cells e.2.2 e.2.1 (0, 0))) → (∀ e ∈ bx, ∀ f ∈ bx, e.1 ≠ f.1 → blk e.1 ≠ blk f.1) → Q .normal (putAll blk (bx.map (·.1)) a) w

theorem putAll_agr (ok : BoxOk md ops) {vals : Nat → Value} {blk : Tmp → Nat} {a0 : Act} : ∀ (l : List Tmp) (L : Nat → Prop) (a : Act), Agr ops L (valOf ops vals blk) a0 a →
    (∀ d ∈ l, ∃ (i : Nat) (o : Oper), ops[i]? = some o ∧ isAl o = true ∧ o.dst = some d) →
    Agr ops (fun i => L i ∨ ∃ o d, ops[i]? = some o ∧ isAl o = true ∧ o.dst = some d ∧ d ∈ l) (valOf ops vals blk) a0 (putAll blk l a)
  | [], L, a, h, _ => h.congr (fun i o d _ _ => by simp) (fun _ _ _ _ _ _ => rfl)
  | d :: l, L, a, h, hl => by
    obtain ⟨i, o, hi, ha, hd⟩ := hl d List.mem_cons_self
    have h1 : Agr ops (fun j => L j ∨ j = i) (valOf ops vals blk) a0 (a.put (some d) (.pointer (some ⟨blk d, 0, none⟩))) := by
      by_cases hL : L i
      · have he : a.put (some d) (.pointer (some ⟨blk d, 0, none⟩)) = a := by
          obtain ⟨tm, df⟩ := a
          simp only [Act.put]
          congr 1
          apply Array.ext_getElem?
          intro t
          by_cases ht : d = t
          · subst ht
            have := h.onn i o d hi hL hd
            rw [valOf_al hi ha hd] at this
            have hs := h.size
            simp only at this hs
            rw [Array.getElem?_setIfInBounds]
            simp only [if_true]
            rw [this]
            by_cases hlt : d < a0.tmps.size
            · simp [hs, hlt]
            · simp [hs, hlt]
          · rw [Array.getElem?_setIfInBounds_ne ht]
        rw [he]
        exact h.congr (fun j o' d' _ _ => ⟨fun h => .inl h, fun h => (by rcases h with h | rfl; exact h; exact hL)⟩) (fun _ _ _ _ _ _ => rfl)
      · have := h.put ok.dd hi hL (.pointer (some ⟨blk d, 0, none⟩))
        rw [hd] at this
        refine this.congr (fun j o' d' _ _ => Iff.rfl) (fun j o' d' hj hd' hL' => ?_)
        by_cases hji : j = i
        · subst hji; simp [valOf_al hi ha hd]
        · simp [hji]
    have h2 := putAll_agr ok l _ _ h1 (fun d' hd' => hl d' (List.mem_cons_of_mem _ hd'))
    refine h2.congr (fun j o' d' hj hd' => ⟨fun h => ?_, fun h => ?_⟩) (fun _ _ _ _ _ _ => rfl)
    · rcases h with (h | rfl) | ⟨o'', d'', h1, h2, h3, h4⟩
      · exact .inl h
      · exact .inr ⟨o, d, hi, ha, hd, List.mem_cons_self⟩
      · exact .inr ⟨o'', d'', h1, h2, h3, List.mem_cons_of_mem _ h4⟩
    · rcases h with h | ⟨o'', d'', g1, g2, g3, g4⟩
      · exact .inl (.inl h)
      · rcases List.mem_cons.1 g4 with rfl | g4
        · exact .inl (.inr (ok.dd j i o'' o d'' g1 hi g3 hd))
        · exact .inr ⟨o'', d'', g1, g2, g3, g4⟩

/-- A REGION WHOSE OPERATIONS YIELD ONE VALUE IN EVERY WORLD THAT HAS GROWN, BESIDE NEW BLOCKS THAT ARE LAID AND STORED INTO ONCE EACH. -/
theorem wp_region_boxes {id : Nat} {Q : Exit → Act → World → Prop} {a : Act} {w : World} {l : List Oper} (W0 : World) (hm : P.follows .mixedOrders = true) (hB : boxB .any l.toArray = true)
    (h0 : Below W0.heap.size W0 w) (h : textB P l.toArray W0 (boxed W0 Q) l [] [] a) : (Code.region id l.toArray true).wp P Q a w := by
  have ok := boxB_spec hB
  obtain ⟨vals, Z, C, TT, F, bf, hF, h1, h2, h3, _, _, h6, _, h8⟩ := textB_get l 0 [] [] a h
  have K : Known P l.toArray W0 vals Z C TT F := ⟨fun i o hi ha hs => by simpa using h1 i o (by simpa using hi) ha hs, fun i o d hi ha hd => by simpa using h2 i o d (by simpa using hi) ha hd,
    fun i o d hi hs => by have := h3 i o d (by simpa using hi) hs; simp only [Nat.zero_add] at this; exact ⟨this.1, this.2.1⟩⟩
  refine wp_region_any hm ?_
  subst hF
  refine wpAny_of_inv ok K (fun blk listed a' w' inv hall => ?_) l.toArray.size (fun _ => 0) _ _ _ ?_ ⟨by simp, fun j oj _ hl => (by rw [getD_replicate_false] at hl; cases hl), ?_, h0.drew, fun i o d _ _ _ hl => (by rw [getD_replicate_false] at hl; cases hl), fun i o d _ _ _ hl => (by rw [getD_replicate_false] at hl; cases hl), fun i j oi oj d e _ _ _ _ _ _ hl => (by rw [getD_replicate_false] at hl; cases hl)⟩
  · have hst : ∀ e ∈ bf, ∃ (j : Nat) (o : Oper), l.toArray[j]? = some o ∧ stAddr o = some e.1 ∧ e = (e.1, TT e.1, C e.1) := fun e he => by
      rcases h6 e he with h | ⟨j, o, hj, hs, he'⟩
      · cases h
      · exact ⟨j, o, by simpa using hj, hs, he'⟩
    have hbox : ∀ e ∈ bf, ∃ (i : Nat) (o : Oper), l.toArray[i]? = some o ∧ isAl o = true ∧ o.dst = some e.1 ∧ Stored l.toArray listed e.1 ∧ e = (e.1, TT e.1, C e.1) := fun e he => by
      obtain ⟨j, o, hj, hs, he'⟩ := hst e he
      obtain ⟨i, oi, hi, ha, hd, _⟩ := ok.allocOf j o e.1 hj hs
      exact ⟨i, oi, hi, ha, hd, ⟨j, o, hj, hs, hall j (Array.getElem?_eq_some_iff.1 hj).1⟩, he'⟩
    have hfin : a' = putAll blk (bf.map (·.1)) (F l.length) := by
      have hA := K.agr ok l.toArray.size (Nat.le_refl _)
      have hA' : Agr l.toArray (fun j => j < l.toArray.size ∧ isDet l.toArray j) (valOf l.toArray vals blk) (F 0) (F l.length) := by
        have : l.toArray.size = l.length := by simp
        rw [this] at hA ⊢
        exact hA.congr (fun _ _ _ _ _ => Iff.rfl) (fun i o d hi hd hL => by
          obtain ⟨o', ho', ha', _⟩ := hL.2
          rw [valOf_det ho' ha'])
      have hP := putAll_agr ok (bf.map (·.1)) _ _ hA' (fun d hd => by
        obtain ⟨e, he, rfl⟩ := List.mem_map.1 hd
        obtain ⟨i, o, hi, ha, hd, _⟩ := hbox e he
        exact ⟨i, o, hi, ha, hd⟩)
      refine inv.agr.unique hP fun i o d hi hd => ⟨⟨fun _ => ?_, fun _ => hall i (Array.getElem?_eq_some_iff.1 hi).1⟩, fun _ => rfl⟩
      by_cases hal : isAl o = true
      · obtain ⟨d', hd', s, os, hs, hsd⟩ := ok.dstA i o hi hal
        obtain rfl : d' = d := Option.some.inj (hd'.symm.trans hd)
        have hm := (h3 s os d' (by simpa using hs) hsd).2.2
        exact .inr ⟨o, d', hi, hal, hd, List.mem_map.2 ⟨_, hm, rfl⟩⟩
      · refine .inl ⟨(Array.getElem?_eq_some_iff.1 hi).1, o, hi, by simpa using hal, ?_⟩
        cases hs : stAddr o with
        | none => rfl
        | some e => have := ok.dstS i o e hi hs; rw [this] at hd; cases hd
    rw [hfin]
    refine (show boxed W0 Q bf (F l.length) by simpa using h8) blk w' inv.bel (fun e he => ?_) (fun e he f hf hne => ?_)
    · obtain ⟨i, o, hi, ha, hd, hs, he'⟩ := hbox e he
      have hli := hall i (Array.getElem?_eq_some_iff.1 hi).1
      obtain ⟨cs, hc, hC, _⟩ := inv.box i o e.1 hi ha hd hli
      refine ⟨inv.low i o e.1 hi ha hd hli, ?_⟩
      rw [hc, hC hs]
      rw [he']
    · obtain ⟨i, o, hi, ha, hd, _⟩ := hbox e he
      obtain ⟨j, o', hj, ha', hd', _⟩ := hbox f hf
      exact inv.dist i j o o' e.1 f.1 hi hj ha ha' hd hd' (hall i (Array.getElem?_eq_some_iff.1 hi).1) (hall j (Array.getElem?_eq_some_iff.1 hj).1) hne
  · unfold leftN
    have := List.countP_le_length (p := fun i => !(Array.replicate l.toArray.size false).getD i true) (l := List.range l.toArray.size)
    simpa using this
  · exact (Agr.refl (valOf l.toArray vals fun _ => 0) _).congr (fun i o d _ _ => ⟨fun h => h.elim, fun h => by rw [getD_replicate_false] at h; cases h⟩) (fun _ _ _ _ _ h => h.elim)
theorem cell_of_block {w : World} {b o : Nat} {cs : Array Value} {T : TypeId} {v : Value} (h : w.heap[b]? = some (.cells cs T (0, 0))) (hv : cs[o]? = some v) : w.cell? ⟨b, o, none⟩ = some v := by simp [World.cell?, h, hv]
theorem free_of_block {w : World} {b : Nat} {cs : Array Value} {T : TypeId} (o : Nat) (h : w.heap[b]? = some (.cells cs T (0, 0))) : w.frozen? ⟨b, o, none⟩ = false := by simp [World.frozen?, h]
theorem wrote_refl {w : World} {b : Nat} {cs : Array Value} {T : TypeId} (h : w.heap[b]? = some (.cells cs T (0, 0))) : WroteTo b T cs w w := ⟨rfl, rfl, rfl, rfl, fun _ _ => rfl, h⟩
theorem WroteTo.set {w0 w : World} {b : Nat} {cs : Array Value} {T : TypeId} (h : WroteTo b T cs w0 w) (o : Nat) (v : Value) : WroteTo b T (cs.setIfInBounds o v) w0 (w.setCell ⟨b, o, none⟩ v) := by
  refine ⟨h.os, h.tape, h.output, by simp [World.setCell, h.size], fun k hk => (Below.heap_setCell _ _ _ _ hk).trans (h.rest k hk), ?_⟩
  have hb := h.there
  have hlt : b < w.heap.size := blk_lt hb
  have h' : w.heap[b] = .cells cs T (0, 0) := by simpa [Array.getElem?_eq_getElem hlt] using hb
  show (w.heap.modify b _)[b]? = _
  rw [Array.getElem?_eq_getElem (by simpa using hlt), Array.getElem_modify_self, h']
  rfl
end
end Go.Proofs.Ytfakejfpicjedaa
