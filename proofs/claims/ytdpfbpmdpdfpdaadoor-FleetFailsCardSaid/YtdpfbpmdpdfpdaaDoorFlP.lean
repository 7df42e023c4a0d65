/- Fleets, plainly: the nodes that are as asked; spares that take the places of nodes that are not up. No condition. -/
import Derived.Test.YtdpfbpmdpdfpdaaDoorPickP
import Derived.Test.YtdpfbpmdpdfpdaaDoorBitsOrdP
namespace Go.Proofs.YtdpfbpmdpdfpdaaDoor
set_option linter.unusedVariables false

abbrev N3 := Int × Int × Int
/-- of the numbers of l those whose node is as p asks -/
def selF (p : N3 → Bool) (ns : List N3) (s : NSet) (n : Int) : NSet := if p (ns.getD n.toNat (0, 0, 0)) = true then s ||| oneI n else s
def selL (p : N3 → Bool) (ns : List N3) (l : List Int) : NSet := l.foldl (selF p ns) 0#64
theorem selL_snoc (p : N3 → Bool) (ns : List N3) (l : List Int) (n : Int) : selL p ns (l ++ [n]) = selF p ns (selL p ns l) n := by unfold selL; rw [List.foldl_append]; rfl
theorem selF_get (p : N3 → Bool) (ns : List N3) (s : NSet) (n : Int) (i : Nat) (hi : i < 64) : (selF p ns s n).getLsbD i = (s.getLsbD i || (decide (n = (i : Int)) && p (ns.getD i (0, 0, 0)))) := by
  unfold selF
  by_cases hn : n = (i : Int)
  · subst hn
    rw [show ((i : Int)).toNat = i from rfl]
    cases hp : p (ns.getD i (0, 0, 0)) with
    | true => rw [if_pos rfl, BitVec.getLsbD_or, oneI_get]; simp [hi]
    | false => rw [if_neg (by decide)]; simp
  · split
    · rw [BitVec.getLsbD_or, oneI_get]; simp [hn]
    · simp [hn]
theorem selG_get (p : N3 → Bool) (ns : List N3) : ∀ (l : List Int) (s : NSet) (i : Nat), i < 64 → (l.foldl (selF p ns) s).getLsbD i = (s.getLsbD i || (decide ((i : Int) ∈ l) && p (ns.getD i (0, 0, 0))))
  | [], s, i, _ => by simp
  | n :: l, s, i, hi => by
    rw [List.foldl_cons, selG_get p ns l _ i hi, selF_get p ns s n i hi]
    by_cases hn : n = (i : Int)
    · subst hn
      cases s.getLsbD i <;> cases p (ns.getD i (0, 0, 0)) <;> simp
    · have h2 : ¬ (i : Int) = n := fun e => hn e.symm
      simp [hn, h2]
/-- the nodes that are as p asks -/
def sel (p : N3 → Bool) (ns : List N3) : NSet := selL p ns (nodes (firstI ns.length))
theorem mem_first (m : Nat) (i : Nat) (hi : i < 64) : (i : Int) ∈ nodes (firstI m) ↔ i < m := by
  rw [nodes_mem (card (firstI m)) (firstI m) rfl, hasI_nat, firstI_get _ _ hi, decide_eq_true_eq]
  omega
theorem sel_get (p : N3 → Bool) (ns : List N3) (i : Nat) (hi : i < 64) : (sel p ns).getLsbD i = (decide (i < ns.length) && p (ns.getD i (0, 0, 0))) := by
  unfold sel selL
  rw [selG_get p ns _ _ i hi, BitVec.getLsbD_zero, Bool.false_or]
  congr 1
  exact decide_eq_decide.2 (mem_first _ _ hi)
theorem sel_sub (p : N3 → Bool) (ns : List N3) : Sub (sel p ns) (firstI ns.length) := sub_iff.2 fun i hi h => by
  rw [sel_get p ns i hi, Bool.and_eq_true, decide_eq_true_eq] at h
  rw [firstI_get _ _ hi, decide_eq_true_eq]
  omega
/-- what a fleet holds: the rules, its nodes, which are spares, how many swaps -/
structure FV where
  S : Int
  D : Int
  P : Int
  ns : List N3
  sp : NSet
  sw : Int
def inF (f : FV) (k : Int) : NSet := sel (fun n => n.1 == k) f.ns
def upF (f : FV) : NSet := inF f 0
def allF (f : FV) : NSet := firstI f.ns.length
def actF (f : FV) : NSet := allF f &&& ~~~ f.sp
def goneF (f : FV) : NSet := actF f &&& ~~~ upF f
def freeF (f : FV) : NSet := f.sp &&& upF f
/-- one swap -/
def swap1 (f : FV) : FV := { f with sp := (f.sp ||| oneI (lowI (goneF f))) &&& ~~~ oneI (lowI (freeF f)), sw := if f.sw < 9223372036854775807 then f.sw + 1 else f.sw }
def stopF (f : FV) : Prop := goneF f = 0#64 ∨ freeF f = 0#64
instance (f : FV) : Decidable (stopF f) := by unfold stopF; infer_instance
def swapN : Nat → FV → FV
  | 0, f => f
  | k + 1, f => if stopF f then f else swapN k (swap1 f)
def swapF (f : FV) : FV := swapN 64 f
theorem low_get {s : NSet} (h : s ≠ 0#64) : ∃ i : Nat, lowI s = (i : Int) ∧ i < 64 ∧ s.getLsbD i = true := ⟨lowN s, lowI_pos h, (lowN_spec h).1, (lowN_spec h).2.1⟩
/-- a swap, node by node -/
theorem swap1_get {f : FV} (h : ¬ stopF f) : ∃ a b : Nat, lowI (goneF f) = (a : Int) ∧ lowI (freeF f) = (b : Int) ∧ a < 64 ∧ b < 64 ∧ a ≠ b ∧ a < f.ns.length ∧ f.sp.getLsbD a = false ∧ (upF f).getLsbD a = false ∧ f.sp.getLsbD b = true ∧ (upF f).getLsbD b = true ∧
    ∀ i, i < 64 → (swap1 f).sp.getLsbD i = (decide (i = a) || (f.sp.getLsbD i && !decide (i = b))) := by
  unfold stopF at h
  rw [not_or] at h
  obtain ⟨a, ea, ha, ga⟩ := low_get h.1
  obtain ⟨b, eb, hb, gb⟩ := low_get h.2
  unfold goneF actF allF at ga
  rw [get_diff _ _ _ ha, get_diff _ _ _ ha, firstI_get _ _ ha] at ga
  unfold freeF at gb
  rw [BitVec.getLsbD_and] at gb
  simp only [Bool.and_eq_true, Bool.not_eq_true', decide_eq_true_eq] at ga gb
  have hne : a ≠ b := by
    rintro rfl
    rw [ga.2] at gb
    cases gb.2
  refine ⟨a, b, ea, eb, ha, hb, hne, by omega, ga.1.2, ga.2, gb.1, gb.2, fun i hi => ?_⟩
  unfold swap1
  rw [ea, eb, get_diff _ _ _ hi, BitVec.getLsbD_or, oneI_get, oneI_get]
  have e1 : (decide (i < 64) && decide ((a : Int) = (i : Int))) = decide (i = a) := by rw [decide_eq_true hi, Bool.true_and]; exact decide_eq_decide.2 (by omega)
  have e2 : (decide (i < 64) && decide ((b : Int) = (i : Int))) = decide (i = b) := by rw [decide_eq_true hi, Bool.true_and]; exact decide_eq_decide.2 (by omega)
  rw [e1, e2]
  by_cases hia : i = a
  · subst hia; simp [hne]
  · simp [hia]
theorem swap1_up (f : FV) : upF (swap1 f) = upF f := rfl
theorem swap1_all (f : FV) : allF (swap1 f) = allF f := rfl
theorem gone_get (f : FV) (i : Nat) (hi : i < 64) : (goneF f).getLsbD i = (decide (i < f.ns.length) && !f.sp.getLsbD i && !(upF f).getLsbD i) := by
  unfold goneF actF allF
  rw [get_diff _ _ _ hi, get_diff _ _ _ hi, firstI_get _ _ hi]
  congr 2
  exact decide_eq_decide.2 (by omega)
theorem set_ext {a b : NSet} (h : ∀ i, i < 64 → a.getLsbD i = b.getLsbD i) : a = b := BitVec.eq_of_getLsbD_eq h
/-- a swap: one node less is gone -/
theorem swap1_gone {f : FV} (h : ¬ stopF f) : card (goneF (swap1 f)) + 1 = card (goneF f) := by
  obtain ⟨a, b, ea, eb, ha, hb, hne, hl, h1, h2, h3, h4, hg⟩ := swap1_get h
  have hsub : Sub (oneI (a : Int)) (goneF f) := sub_iff.2 fun i hi hh => by
    rw [oneI_get, Bool.and_eq_true, decide_eq_true_eq, decide_eq_true_eq] at hh
    obtain rfl : a = i := by omega
    rw [gone_get f a ha, h1, h2]
    simp [hl]
  have hd := card_diff hsub
  rw [card_one ha] at hd
  rw [← hd]
  congr 2
  refine set_ext fun i hi => ?_
  rw [gone_get _ i hi, get_diff _ _ _ hi, gone_get f i hi, swap1_up, hg i hi, oneI_get, show (swap1 f).ns = f.ns from rfl]
  by_cases hia : i = a
  · subst hia; simp [ha]
  · have : ¬ (a : Int) = (i : Int) := by omega
    by_cases hib : i = b
    · subst hib; simp [h4]
    · simp [hia, hib, this]
theorem swap1_card {f : FV} (h : ¬ stopF f) : card (swap1 f).sp = card f.sp := by
  obtain ⟨a, b, ea, eb, ha, hb, hne, hl, h1, h2, h3, h4, hg⟩ := swap1_get h
  have hw : card (f.sp ||| oneI (a : Int)) = card f.sp + 1 := card_with ha h1
  have hsub : Sub (oneI (b : Int)) (f.sp ||| oneI (a : Int)) := sub_iff.2 fun i hi hh => by
    rw [oneI_get, Bool.and_eq_true, decide_eq_true_eq, decide_eq_true_eq] at hh
    obtain rfl : b = i := by omega
    rw [BitVec.getLsbD_or, h3]; rfl
  have hd := card_diff hsub
  rw [card_one hb] at hd
  unfold swap1
  rw [ea, eb]
  simp only
  omega
theorem swapN_ns : ∀ (k : Nat) (f : FV), (swapN k f).ns = f.ns ∧ (swapN k f).S = f.S ∧ (swapN k f).D = f.D ∧ (swapN k f).P = f.P ∧ card (swapN k f).sp = card f.sp
  | 0, f => ⟨rfl, rfl, rfl, rfl, rfl⟩
  | k + 1, f => by
    unfold swapN
    split
    · exact ⟨rfl, rfl, rfl, rfl, rfl⟩
    · rename_i h
      have := swapN_ns k (swap1 f)
      exact ⟨this.1, this.2.1, this.2.2.1, this.2.2.2.1, this.2.2.2.2.trans (swap1_card h)⟩
theorem swapN_stop : ∀ (k : Nat) (f : FV), card (goneF f) ≤ k → stopF (swapN k f)
  | 0, f, h => .inl (card_eq_zero (by unfold swapN; omega))
  | k + 1, f, h => by
    unfold swapN
    split
    · assumption
    · rename_i hs
      exact swapN_stop k _ (by have := swap1_gone hs; omega)
theorem swapF_stop (f : FV) : stopF (swapF f) := swapN_stop 64 f (card_le _)
/-- swaps that go on to where they stop -/
theorem swapN_more : ∀ (j k : Nat) (f : FV), card (goneF f) ≤ k → k ≤ j → swapN j f = swapN k f
  | 0, k, f, h, hk => by obtain rfl : k = 0 := by omega
                         rfl
  | j + 1, 0, f, h, hk => by
    unfold swapN
    rw [if_pos (.inl (card_eq_zero (by omega)))]
  | j + 1, k + 1, f, h, hk => by
    unfold swapN
    split
    · rfl
    · rename_i hs
      exact swapN_more j k _ (by have := swap1_gone hs; omega) (by omega)
theorem swapF_step {f : FV} (h : ¬ stopF f) : swapF f = swapF (swap1 f) := by
  have h1 := swap1_gone h
  have h2 := card_le (goneF f)
  unfold swapF
  rw [swapN_more 64 63 (swap1 f) (by omega) (by omega)]
  show swapN (63 + 1) f = _
  rw [show swapN (63 + 1) f = if stopF f then f else swapN 63 (swap1 f) from rfl, if_neg h]
theorem swapF_done {f : FV} (h : stopF f) : swapF f = f := by
  show (if stopF f then f else _) = f
  rw [if_pos h]
end Go.Proofs.YtdpfbpmdpdfpdaaDoor
