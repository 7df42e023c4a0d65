/- What is told of a node makes one swap at most; how many active nodes are up then. No condition. -/
import Derived.Test.YtdpfbpmdpdfpdaaDoorFlE
namespace Go.Proofs.YtdpfbpmdpdfpdaaDoor
set_option linter.unusedVariables false

theorem up_get (f : FV) (i : Nat) (hi : i < 64) : (upF f).getLsbD i = (decide (i < f.ns.length) && (f.ns.getD i (0, 0, 0)).1 == 0) := by
  unfold upF inF
  rw [sel_get _ _ _ hi]
def putN (f : FV) (i : Nat) (y : N3) : FV := { f with ns := f.ns.set i y }
theorem putN_len (f : FV) (i : Nat) (y : N3) : (putN f i y).ns.length = f.ns.length := List.length_set
theorem putN_all (f : FV) (i : Nat) (y : N3) : allF (putN f i y) = allF f := by unfold allF; rw [putN_len]
theorem putN_act (f : FV) (i : Nat) (y : N3) : actF (putN f i y) = actF f := by unfold actF; rw [putN_all]; rfl
theorem putN_up (f : FV) (i : Nat) (y : N3) (j : Nat) (hj : j < 64) (h : j ≠ i) : (upF (putN f i y)).getLsbD j = (upF f).getLsbD j := by
  rw [up_get _ _ hj, up_get _ _ hj, putN_len]
  congr 1
  have : (putN f i y).ns.getD j (0, 0, 0) = f.ns.getD j (0, 0, 0) := by
    show (f.ns.set i y).getD j _ = _
    rw [List.getD_eq_getElem?_getD, List.getElem?_set_ne (by omega), List.getD_eq_getElem?_getD]
  rw [this]
theorem act_get (f : FV) (i : Nat) (hi : i < 64) : (actF f).getLsbD i = (decide (i < f.ns.length) && !f.sp.getLsbD i) := by
  unfold actF allF
  rw [get_diff _ _ _ hi, firstI_get _ _ hi]
  congr 1
  exact decide_eq_decide.2 (by omega)
theorem gone_act (f : FV) (i : Nat) (hi : i < 64) : (goneF f).getLsbD i = ((actF f).getLsbD i && !(upF f).getLsbD i) := by
  unfold goneF
  rw [get_diff _ _ _ hi]
theorem free_get (f : FV) (i : Nat) : (freeF f).getLsbD i = (f.sp.getLsbD i && (upF f).getLsbD i) := by
  unfold freeF
  rw [BitVec.getLsbD_and]
theorem zero_of {s : NSet} (h : ∀ i, i < 64 → s.getLsbD i = true → False) : s = 0#64 := set_ext fun i hi => by
  rw [BitVec.getLsbD_zero]
  cases hs : s.getLsbD i with
  | false => rfl
  | true => exact (h i hi hs).elim
/-- one node turns: behind a swap there is nothing to swap -/
theorem swap_once {f : FV} (hs : stopF f) (i : Nat) (y : N3) (h : ¬ stopF (putN f i y)) : stopF (swap1 (putN f i y)) := by
  obtain ⟨a, b, ea, eb, ha, hb, hne, hl, h1, h2, h3, h4, hg⟩ := swap1_get h
  rcases hs with hs | hs
  · refine .inl (zero_of fun j hj hx => ?_)
    rw [gone_get _ j hj, swap1_up, hg j hj] at hx
    simp only [Bool.and_eq_true, Bool.not_eq_true', decide_eq_true_eq, Bool.or_eq_false_iff, decide_eq_false_iff_not] at hx
    obtain ⟨⟨hj1, hj2, hj3⟩, hj4⟩ := hx
    have old : ∀ k, k < 64 → k ≠ i → k < f.ns.length → f.sp.getLsbD k = false → (upF (putN f i y)).getLsbD k = false → False := fun k hk hki hkl hks hku => by
      have : (goneF f).getLsbD k = true := by rw [gone_get _ _ hk, hks, ← putN_up f i y k hk hki, hku]; simp [hkl]
      rw [hs, BitVec.getLsbD_zero] at this
      cases this
    have hai : a = i := Classical.byContradiction fun hx => old a ha hx (by rw [putN_len] at hl; exact hl) h1 h2
    have hji : j = i := Classical.byContradiction fun hx => by
      refine old j hj hx (by have := putN_len f i y; have e : (swap1 (putN f i y)).ns.length = (putN f i y).ns.length := rfl; omega) ?_ hj4
      have hjb : j ≠ b := fun e => by rw [e, h4] at hj4; cases hj4
      have : (putN f i y).sp.getLsbD j = false := by
        cases hq : (putN f i y).sp.getLsbD j with
        | false => rfl
        | true => rw [hq] at hj3; simp [hjb] at hj3
      exact this
    exact hj2 (hji.trans hai.symm)
  · refine .inr (zero_of fun j hj hx => ?_)
    rw [free_get, swap1_up, hg j hj] at hx
    simp only [Bool.and_eq_true, Bool.or_eq_true, Bool.not_eq_true', decide_eq_true_eq, decide_eq_false_iff_not] at hx
    obtain ⟨hx1, hx2⟩ := hx
    have old : ∀ k, k < 64 → k ≠ i → f.sp.getLsbD k = true → (upF (putN f i y)).getLsbD k = true → False := fun k hk hki hks hku => by
      have : (freeF f).getLsbD k = true := by rw [free_get, hks, ← putN_up f i y k hk hki, hku]; rfl
      rw [hs, BitVec.getLsbD_zero] at this
      cases this
    have hbi : b = i := Classical.byContradiction fun hx => old b hb hx h3 h4
    rcases hx1 with e | ⟨hx1, hx3⟩
    · rw [e, h2] at hx2; cases hx2
    · by_cases hji : j = i
      · exact hx3 (hji.trans hbi.symm)
      · exact old j hj hji hx1 hx2
/-- the active nodes that are up -/
def cF (f : FV) : Nat := card (actF f &&& upF f)
theorem card_less_one (s : NSet) (i : Nat) (hi : i < 64) : card s ≤ card (s &&& ~~~ oneI (i : Int)) + 1 := by
  by_cases h : s.getLsbD i = true
  · have hsub : Sub (oneI (i : Int)) s := sub_iff.2 fun j hj hh => by
      rw [oneI_get, Bool.and_eq_true, decide_eq_true_eq, decide_eq_true_eq] at hh
      obtain rfl : i = j := by omega
      exact h
    have := card_diff hsub
    rw [card_one hi] at this
    omega
  · have : s &&& ~~~ oneI (i : Int) = s := set_ext fun j hj => by
      rw [get_diff _ _ _ hj, oneI_get]
      by_cases hji : j = i
      · subst hji; simp only [Bool.not_eq_true] at h; rw [h]; rfl
      · have : ¬ (i : Int) = (j : Int) := by omega
        simp [this]
    rw [this]
    omega
theorem putN_c (f : FV) (i : Nat) (hi : i < 64) (y : N3) : cF f ≤ cF (putN f i y) + 1 := by
  unfold cF
  refine Nat.le_trans (card_less_one _ i hi) (Nat.add_le_add_right (card_mono (sub_iff.2 fun j hj h => ?_)) 1)
  rw [get_diff _ _ _ hj, oneI_get, BitVec.getLsbD_and] at h
  simp only [Bool.and_eq_true, Bool.not_eq_true', Bool.and_eq_false_iff, decide_eq_false_iff_not] at h
  have hji : j ≠ i := fun e => by
    rcases h.2 with h2 | h2
    · exact h2 hj
    · exact h2 (by omega)
  rw [BitVec.getLsbD_and, putN_act, putN_up f i y j hj hji, h.1.1, h.1.2]
  rfl
theorem swap1_c {f : FV} (h : ¬ stopF f) (hl64 : f.ns.length ≤ 64) (hsub : Sub f.sp (allF f)) : cF (swap1 f) = cF f + 1 := by
  obtain ⟨a, b, ea, eb, ha, hb, hne, hl, h1, h2, h3, h4, hg⟩ := swap1_get h
  have hbl : b < f.ns.length := by
    have := sub_iff.1 hsub b hb h3
    unfold allF at this
    rw [firstI_get _ _ hb, decide_eq_true_eq] at this
    omega
  have hn : (actF f &&& upF f).getLsbD b = false := by rw [BitVec.getLsbD_and, act_get _ _ hb, h3]; simp
  unfold cF
  rw [← card_with hb hn]
  congr 1
  refine set_ext fun j hj => ?_
  rw [BitVec.getLsbD_and, BitVec.getLsbD_or, BitVec.getLsbD_and, swap1_up, act_get _ _ hj, act_get _ _ hj, hg j hj, oneI_get, show (swap1 f).ns = f.ns from rfl]
  by_cases hja : j = a
  · subst hja
    have hba : ¬ (b : Int) = (j : Int) := by omega
    rw [h2]
    simp [hba]
  · by_cases hjb : j = b
    · subst hjb
      rw [h4, h3]
      simp [hja, hbl, hj]
    · have hjb' : ¬ (b : Int) = (j : Int) := by omega
      simp [hja, hjb, hjb']
/-- what stays so, whatever is told: of N nodes, s spares, behind j tellings -/
structure FInv (f : FV) (N s j : Nat) : Prop where
  stop : stopF f
  sub : Sub f.sp (allF f)
  cd : card f.sp = s
  len : f.ns.length = N
  le : N ≤ 64
  sw : 0 ≤ f.sw ∧ f.sw ≤ (j : Int)
theorem swap1_sub {f : FV} (h : ¬ stopF f) (hsub : Sub f.sp (allF f)) : Sub (swap1 f).sp (allF (swap1 f)) := by
  obtain ⟨a, b, ea, eb, ha, hb, hne, hl, h1, h2, h3, h4, hg⟩ := swap1_get h
  refine sub_iff.2 fun i hi hx => ?_
  rw [hg i hi] at hx
  rw [swap1_all]
  simp only [Bool.or_eq_true, decide_eq_true_eq, Bool.and_eq_true] at hx
  rcases hx with rfl | ⟨hx, _⟩
  · unfold allF
    rw [firstI_get _ _ hi, decide_eq_true_eq]
    omega
  · exact sub_iff.1 hsub i hi hx
theorem card_firstI : ∀ m : Nat, m ≤ 64 → card (firstI (m : Int)) = m := by
  have h : ∀ m : Nat, m < 65 → card (firstI (m : Int)) = m := by decide +kernel
  exact fun m hm => h m (by omega)
/-- as many are not up as there are spares at most: all active ones are up -/
theorem FInv.all {f : FV} {N s j : Nat} (h : FInv f N s j) (hg : (N : Int) - (card (upF f) : Int) ≤ (s : Int)) : goneF f = 0#64 := by
  rcases h.stop with hs | hs
  · exact hs
  · have hup : Sub (upF f) (allF f) := sel_sub _ _
    have h1 := card_diff hup
    have h2 : card (allF f) = N := by unfold allF; rw [h.len]; exact card_firstI N h.le
    have hap : f.sp &&& goneF f = 0#64 := zero_of fun i hi hx => by
      rw [BitVec.getLsbD_and, gone_act _ _ hi, act_get _ _ hi] at hx
      cases hb : f.sp.getLsbD i <;> rw [hb] at hx <;> simp at hx
    have h3 := card_or_apart hap
    have h4 : Sub (f.sp ||| goneF f) (allF f &&& ~~~ upF f) := sub_iff.2 fun i hi hx => by
      rw [BitVec.getLsbD_or] at hx
      rw [get_diff _ _ _ hi]
      cases hsp : f.sp.getLsbD i with
      | true =>
        have hu : (upF f).getLsbD i = false := by
          have : (freeF f).getLsbD i = false := by rw [hs, BitVec.getLsbD_zero]
          rw [free_get, hsp, Bool.true_and] at this
          exact this
        rw [sub_iff.1 h.sub i hi hsp, hu]; rfl
      | false =>
        rw [hsp, Bool.false_or, gone_act _ _ hi, Bool.and_eq_true, act_get _ _ hi, Bool.and_eq_true] at hx
        unfold allF
        rw [firstI_get _ _ hi]
        have := of_decide_eq_true hx.1.1
        rw [hx.2, decide_eq_true (by omega)]; rfl
    have h5 := card_mono h4
    have h6 := h.cd
    exact card_eq_zero (by omega)
theorem FInv.more {f : FV} {N s j : Nat} (h : FInv f N s j) : FInv f N s (j + 1) := ⟨h.stop, h.sub, h.cd, h.len, h.le, h.sw.1, by have := h.sw.2; omega⟩
/-- a telling -/
theorem FInv.tell {f : FV} {N s j : Nat} (h : FInv f N s j) (hj : j < 1000) (n k : Int) :
    FInv (tellF f n k).1 N s (j + 1) ∧ f.sw ≤ (tellF f n k).1.sw ∧ (tellF f n k).1.sw ≤ f.sw + 1 ∧ (f.sw < (tellF f n k).1.sw → cF f ≤ cF (tellF f n k).1) ∧ cF f ≤ cF (tellF f n k).1 + 1 := by
  unfold tellF
  split
  · dsimp only
    exact ⟨h.more, Int.le_refl _, by omega, fun hx => by omega, by omega⟩
  · rename_i hn
    split
    · dsimp only
      exact ⟨h.more, Int.le_refl _, by omega, fun hx => by omega, by omega⟩
    · have hi : n.toNat < f.ns.length := by omega
      have hi64 : n.toNat < 64 := by have := h.len; have := h.le; omega
      have hp := putN_c f n.toNat hi64 (nextF f (f.ns.getD n.toNat (0, 0, 0)) k)
      have ho := fun hx => swap_once h.stop n.toNat (nextF f (f.ns.getD n.toNat (0, 0, 0)) k) hx
      show FInv (swapF (putN f n.toNat (nextF f (f.ns.getD n.toNat (0, 0, 0)) k))) N s (j + 1) ∧ f.sw ≤ (swapF (putN f n.toNat (nextF f (f.ns.getD n.toNat (0, 0, 0)) k))).sw ∧ (swapF (putN f n.toNat (nextF f (f.ns.getD n.toNat (0, 0, 0)) k))).sw ≤ f.sw + 1 ∧ (f.sw < (swapF (putN f n.toNat (nextF f (f.ns.getD n.toNat (0, 0, 0)) k))).sw → cF f ≤ cF (swapF (putN f n.toNat (nextF f (f.ns.getD n.toNat (0, 0, 0)) k)))) ∧ cF f ≤ cF (swapF (putN f n.toNat (nextF f (f.ns.getD n.toNat (0, 0, 0)) k))) + 1
      generalize nextF f (f.ns.getD n.toNat (0, 0, 0)) k = y at *
      have hlen := putN_len f n.toNat y
      have hsub : Sub (putN f n.toNat y).sp (allF (putN f n.toNat y)) := by rw [putN_all]; exact h.sub
      have hsw : (putN f n.toNat y).sw = f.sw := rfl
      have hc : card (putN f n.toNat y).sp = s := h.cd
      by_cases hs : stopF (putN f n.toNat y)
      · rw [swapF_done hs]
        exact ⟨⟨hs, hsub, hc, hlen.trans h.len, h.le, h.sw.1, by have := h.sw.2; rw [hsw]; omega⟩, by rw [hsw]; exact Int.le_refl _, by rw [hsw]; omega, fun hx => by rw [hsw] at hx; omega, hp⟩
      · rw [swapF_step hs, swapF_done (ho hs)]
        have hc1 := swap1_c hs (by rw [hlen, h.len]; exact h.le) hsub
        have hw : (swap1 (putN f n.toNat y)).sw = f.sw + 1 := by
          show (if (putN f n.toNat y).sw < 9223372036854775807 then (putN f n.toNat y).sw + 1 else (putN f n.toNat y).sw) = _
          have := h.sw.2
          rw [hsw, if_pos (by omega)]
        refine ⟨⟨ho hs, swap1_sub hs hsub, (swap1_card hs).trans hc, hlen.trans h.len, h.le, by have := h.sw.1; rw [hw]; omega, by have := h.sw.2; rw [hw]; omega⟩, by rw [hw]; omega, by rw [hw]; omega, fun _ => by omega, by omega⟩
theorem newF_inv (n s : Nat) (S D P : Int) (h1 : 1 ≤ n) (h2 : n ≤ 64) (h3 : s < n) : FInv (newF n s S D P) n s 0 := by
  have hall : allF (newF n s S D P) = firstI n := by unfold allF newF; simp
  have hsp : (newF n s S D P).sp = firstI n &&& ~~~ firstI ((n : Int) - (s : Int)) := rfl
  have hsb : Sub (firstI ((n : Int) - (s : Int))) (firstI n) := sub_iff.2 fun i hi hx => by
    rw [firstI_get _ _ hi, decide_eq_true_eq] at hx ⊢
    omega
  refine ⟨.inl (zero_of fun i hi hx => ?_), ?_, ?_, by unfold newF; simp, h2, by show (0 : Int) ≤ 0 ∧ (0 : Int) ≤ ((0 : Nat) : Int); omega⟩
  · rw [gone_get _ _ hi, up_get _ _ hi] at hx
    have : ((newF n s S D P).ns.getD i (0, 0, 0)).1 = 0 := by
      unfold newF
      simp only [List.getD_eq_getElem?_getD]
      by_cases hin : i < n
      · simp [hin]
      · simp [hin]
    rw [this] at hx
    simp only [Bool.and_eq_true, Bool.not_eq_true', decide_eq_true_eq, beq_self_eq_true, Bool.and_true, decide_eq_false_iff_not] at hx
    exact hx.2 hx.1.1
  · rw [hall, hsp]
    exact sub_iff.2 fun i hi hx => by rw [get_diff _ _ _ hi, Bool.and_eq_true] at hx; exact hx.1
  · rw [hsp]
    have h5 := card_diff hsb
    rw [card_firstI n h2, show ((n : Int) - (s : Int)) = ((n - s : Nat) : Int) by omega, card_firstI (n - s) (by omega)] at h5
    rw [show ((n : Int) - (s : Int)) = ((n - s : Nat) : Int) by omega]
    omega
end Go.Proofs.YtdpfbpmdpdfpdaaDoor
