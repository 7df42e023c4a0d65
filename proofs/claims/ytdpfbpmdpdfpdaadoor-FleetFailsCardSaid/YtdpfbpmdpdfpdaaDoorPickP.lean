/- What is chosen: plain facts on sets, no condition. -/
import Derived.Test.YtdpfbpmdpdfpdaaDoorBitsOrdP
namespace Go.Proofs.YtdpfbpmdpdfpdaaDoor
set_option linter.unusedVariables false
open Go
theorem and_not_zero (g : NSet) : g &&& ~~~(0#64) = g := by
  apply BitVec.eq_of_getLsbD_eq
  intro i hi
  rw [get_diff _ _ _ hi, BitVec.getLsbD_zero]
  simp
theorem lowI_zero : lowI 0#64 = -1 := by decide
theorem oneI_neg : oneI (-1) = 0#64 := by decide
theorem tk_zero : ∀ k, tk k 0#64 = 0#64
  | 0 => rfl
  | k + 1 => by rw [tk, tk_zero k]; decide
theorem tk_cons (g : NSet) : ∀ k, tk (k + 1) g = oneI (lowI g) ||| tk k (restS g)
  | 0 => by
    show 0#64 ||| oneI (lowI (g &&& ~~~(0#64))) = oneI (lowI g) ||| 0#64
    rw [and_not_zero]
    simp
  | k + 1 => by
    rw [tk, tk_cons g k]
    rw [show tk (k + 1) (restS g) = tk k (restS g) ||| oneI (lowI (restS g &&& ~~~ tk k (restS g))) from rfl]
    have e : g &&& ~~~(oneI (lowI g) ||| tk k (restS g)) = restS g &&& ~~~ tk k (restS g) := by
      rw [show ~~~(oneI (lowI g) ||| tk k (restS g)) = ~~~oneI (lowI g) &&& ~~~ tk k (restS g) from BitVec.not_or, ← BitVec.and_assoc]; rfl
    rw [e, BitVec.or_assoc]
/-- a set, with the nodes of a list -/
def addL (c : NSet) (l : List Int) : NSet := l.foldl (fun s n => s ||| oneI n) c
theorem addL_snoc (c : NSet) (l : List Int) (n : Int) : addL c (l ++ [n]) = addL c l ||| oneI n := by unfold addL; rw [List.foldl_append]; rfl
theorem addL_cons (c : NSet) (l : List Int) (n : Int) : addL c (n :: l) = addL (c ||| oneI n) l := rfl
theorem addL_take : ∀ (k : Nat) (c g : NSet), addL c ((nodes g).take k) = c ||| tk k g
  | 0, c, g => by simp [addL, tk]
  | k + 1, c, g => by
    by_cases hg : g = 0#64
    · rw [hg, nodes_zero, tk_zero]; simp [addL]
    · rw [nodes_cons hg, List.take_succ_cons, addL_cons, addL_take k, tk_cons, BitVec.or_assoc]
theorem card_or_apart {a b : NSet} (h : a &&& b = 0#64) : card (a ||| b) = card a + card b := by
  have := card_or a b
  rw [h, card_zero] at this
  omega
theorem and_sub_zero {a b b' : NSet} (h : a &&& b = 0#64) (hs : Sub b' b) : a &&& b' = 0#64 := by
  apply BitVec.eq_of_getLsbD_eq
  intro i hi
  have h1 := congrArg (fun x : NSet => x.getLsbD i) h
  simp only [BitVec.getLsbD_and, BitVec.getLsbD_zero] at h1 ⊢
  cases ha : a.getLsbD i with
  | false => rfl
  | true =>
    rw [ha] at h1
    cases hb : b'.getLsbD i with
    | false => rfl
    | true => rw [sub_iff.1 hs i hi hb] at h1; simp at h1
theorem tk_sub (g : NSet) : ∀ k, Sub (tk k g) g
  | 0 => sub_zero g
  | k + 1 => by
    by_cases hg : g = 0#64
    · rw [hg, tk_zero]; exact sub_refl _
    · rw [tk_cons]
      refine sub_iff.2 fun i hi h => ?_
      rw [BitVec.getLsbD_or] at h
      rcases Bool.or_eq_true _ _ ▸ h with h | h
      · have := (hasI_oneI (lowI g) (i : Int)).1 (by rw [hasI_nat]; exact h)
        have h2 := hasI_low hg
        rw [this.1, hasI_nat] at h2; exact h2
      · have h3 := sub_iff.1 (tk_sub (restS g) k) i hi h
        unfold restS at h3
        rw [get_diff _ _ _ hi] at h3
        simp only [Bool.and_eq_true] at h3
        exact h3.1
/-- as many of good as go -/
def fillC (m : Int) (c good : NSet) : NSet := c ||| tk (min (card good) (m - card c).toNat) good
/-- what is chosen, set by set -/
def chF (may : NSet) (m : Int) : List NSet → NSet → NSet
  | [], c => fillC m c (may &&& ~~~c)
  | p :: ps, c => chF may m ps (fillC m c ((may &&& ~~~c) &&& p))
theorem fillC_full {m : Int} {c good : NSet} (h : (card c : Int) = m) : fillC m c good = c := by
  unfold fillC
  rw [h, show (m - m).toNat = 0 by omega, Nat.min_zero]
  simp [tk]
theorem chF_full (may : NSet) (m : Int) : ∀ (ps : List NSet) (c : NSet), (card c : Int) = m → chF may m ps c = c
  | [], c, h => fillC_full h
  | p :: ps, c, h => by
    rw [chF, fillC_full h]
    exact chF_full may m ps c h
theorem less_apart (may c : NSet) : c &&& (may &&& ~~~c) = 0#64 := by
  apply BitVec.eq_of_getLsbD_eq
  intro i hi
  rw [BitVec.getLsbD_and, get_diff _ _ _ hi, BitVec.getLsbD_zero]
  cases c.getLsbD i <;> simp
theorem and_subl (a b : NSet) : Sub (a &&& b) a := sub_iff.2 fun i _ h => by
  rw [BitVec.getLsbD_and] at h
  simp only [Bool.and_eq_true] at h
  exact h.1
theorem and_subr (a b : NSet) : Sub (a &&& b) b := sub_iff.2 fun i _ h => by
  rw [BitVec.getLsbD_and] at h
  simp only [Bool.and_eq_true] at h
  exact h.2
theorem good_apart (may c p : NSet) : c &&& ((may &&& ~~~c) &&& p) = 0#64 := and_sub_zero (less_apart may c) (and_subl _ _)
theorem nodes_take_length (g : NSet) {k : Nat} (h : k ≤ card g) : ((nodes g).take k).length = k := by
  rw [List.length_take, nodes_length _ g rfl]; omega
theorem card_addL {c g : NSet} (h : c &&& g = 0#64) {k : Nat} (hk : k ≤ card g) : card (addL c ((nodes g).take k)) = card c + k := by
  obtain ⟨h1, h2⟩ := tk_spec g k hk
  rw [addL_take, card_or_apart (and_sub_zero h h1), h2]
/-- all of them came -/
theorem fill_done {m : Int} {c g : NSet} (h : c &&& g = 0#64) (hc : (card c : Int) ≤ m) (ok : ∀ j, j < card g → ¬ (card (addL c ((nodes g).take j)) : Int) = m) :
    addL c (nodes g) = fillC m c g ∧ (card (addL c (nodes g)) : Int) ≤ m := by
  have key : ∀ j, j ≤ card g → (card c : Int) + j ≤ m := by
    intro j
    induction j with
    | zero => intro _; omega
    | succ j ih =>
      intro hj
      have h1 := ih (by omega)
      have h2 := ok j (by omega)
      rw [card_addL h (by omega)] at h2
      omega
  have hk := key (card g) (Nat.le_refl _)
  have e : addL c (nodes g) = c ||| tk (card g) g := by
    rw [← addL_take, List.take_of_length_le (by rw [nodes_length _ g rfl]; exact Nat.le_refl _)]
  refine ⟨?_, ?_⟩
  · unfold fillC
    rw [e, show min (card g) (m - card c).toNat = card g by omega]
  · have := card_addL h (Nat.le_refl (card g))
    rw [List.take_of_length_le (by rw [nodes_length _ g rfl]; exact Nat.le_refl _)] at this
    omega
/-- there are enough -/
theorem fill_stop {m : Int} {c g : NSet} (h : c &&& g = 0#64) {pre : List Int} {x : Int} (hp : pre ++ [x] <+: nodes g) (hm : (card (addL c pre) : Int) = m) : addL c pre = fillC m c g := by
  obtain ⟨r, hr⟩ := hp
  have hl := congrArg List.length hr
  rw [nodes_length _ g rfl, List.length_append, List.length_append, List.length_singleton] at hl
  have hpre : pre = (nodes g).take pre.length := by rw [← hr, List.append_assoc, List.take_left']; rfl
  have hc := card_addL h (k := pre.length) (by omega)
  rw [← hpre] at hc
  unfold fillC
  rw [show min (card g) (m - card c).toNat = pre.length by omega, ← addL_take, ← hpre]
/-! what is chosen is right -/
theorem fill_card {m : Int} {c g : NSet} (h : c &&& g = 0#64) (hc : (card c : Int) ≤ m) : (card (fillC m c g) : Int) = min ((card c : Int) + card g) m := by
  unfold fillC
  obtain ⟨h1, h2⟩ := tk_spec g (min (card g) (m - card c).toNat) (by omega)
  rw [card_or_apart (and_sub_zero h h1), h2]
  omega
theorem or_sub {a b c : NSet} (h : Sub a c) (h' : Sub b c) : Sub (a ||| b) c := sub_iff.2 fun i hi hg => by
  rw [BitVec.getLsbD_or] at hg
  rcases Bool.or_eq_true _ _ ▸ hg with h1 | h1
  · exact sub_iff.1 h i hi h1
  · exact sub_iff.1 h' i hi h1
theorem fill_sub {m : Int} {c g may : NSet} (hc : Sub c may) (hg : Sub g may) : Sub (fillC m c g) may := or_sub hc (sub_trans (tk_sub g _) hg)
theorem chF_right (may : NSet) (m : Int) (hm : m ≤ card may) : ∀ (ps : List NSet) (c : NSet), Sub c may → (card c : Int) ≤ m → Sub (chF may m ps c) may ∧ (card (chF may m ps c) : Int) = m
  | [], c, hs, hc => by
    rw [chF]
    refine ⟨fill_sub hs (and_subl _ _), ?_⟩
    rw [fill_card (less_apart may c) hc]
    have := card_diff hs
    omega
  | p :: ps, c, hs, hc => by
    rw [chF]
    refine chF_right may m hm ps _ (fill_sub hs (sub_trans (and_subl _ _) (and_subl _ _))) ?_
    rw [fill_card (good_apart may c p) hc]
    omega
theorem diff_of_sub {a b : NSet} (h : Sub a b) : a &&& ~~~b = 0#64 := h
/-- one set that is preferred: no other choice has fewer outside of it -/
theorem chF_cost (may g : NSet) (m : Int) (h0 : 0 ≤ m) (hm : m ≤ card may) : (card (chF may m [g] 0#64 &&& ~~~g) : Int) = max 0 (m - card (may &&& g)) := by
  rw [chF, chF, and_not_zero]
  have hz : (0#64 : NSet) &&& (may &&& g) = 0#64 := by simp
  have c1 := fill_card (m := m) hz (by rw [card_zero]; omega)
  rw [card_zero] at c1
  have s1 : Sub (fillC m 0#64 (may &&& g)) g := fill_sub (sub_zero _) (and_subr _ _)
  have s2 : Sub (fillC m 0#64 (may &&& g)) may := fill_sub (sub_zero _) (and_subl _ _)
  by_cases hle : m ≤ card (may &&& g)
  · have e : fillC m (fillC m 0#64 (may &&& g)) (may &&& ~~~fillC m 0#64 (may &&& g)) = fillC m 0#64 (may &&& g) := fillC_full (by rw [c1]; omega)
    rw [e, diff_of_sub s1, card_zero]
    omega
  · have e1 : fillC m 0#64 (may &&& g) = may &&& g := by
      unfold fillC
      rw [card_zero, show min (card (may &&& g)) (m - ((0 : Nat) : Int)).toNat = card (may &&& g) by omega, ← addL_take, List.take_of_length_le (by rw [nodes_length _ _ rfl]; exact Nat.le_refl _)]
      have := ofL_nodes (card (may &&& g)) (may &&& g) rfl
      have key : ∀ (l : List Int) (c : NSet), addL c l = c ||| ofL l := by
        intro l
        induction l with
        | nil => intro c; simp [addL, ofL]
        | cons x l ih => intro c; rw [addL_cons, ih, BitVec.or_assoc]; rfl
      rw [key, this]; simp
    rw [e1] at c1 ⊢
    have hs : Sub (may &&& g) may := and_subl _ _
    have hd := card_diff hs
    have e2 : fillC m (may &&& g) (may &&& ~~~(may &&& g)) &&& ~~~g = tk (min (card (may &&& ~~~(may &&& g))) (m - card (may &&& g)).toNat) (may &&& ~~~(may &&& g)) := by
      unfold fillC
      have hT := tk_sub (may &&& ~~~(may &&& g)) (min (card (may &&& ~~~(may &&& g))) (m - card (may &&& g)).toNat)
      generalize tk (min (card (may &&& ~~~(may &&& g))) (m - card (may &&& g)).toNat) (may &&& ~~~(may &&& g)) = T at *
      apply BitVec.eq_of_getLsbD_eq
      intro i hi
      have h3 := sub_iff.1 hT i hi
      rw [get_diff _ _ _ hi, BitVec.getLsbD_and] at h3
      rw [get_diff _ _ _ hi, BitVec.getLsbD_or, BitVec.getLsbD_and]
      cases hTi : T.getLsbD i with
      | false => cases may.getLsbD i <;> cases g.getLsbD i <;> rfl
      | true =>
        have h4 := h3 hTi
        cases hm' : may.getLsbD i <;> cases hg' : g.getLsbD i <;> rw [hm', hg'] at h4 <;> first | rfl | cases h4
    rw [e2, (tk_spec _ _ (by omega)).2]
    omega
end Go.Proofs.YtdpfbpmdpdfpdaaDoor
