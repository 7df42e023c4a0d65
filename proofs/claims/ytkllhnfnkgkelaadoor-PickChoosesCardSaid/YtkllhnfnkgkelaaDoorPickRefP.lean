/- The reference's choice (layer 20): plain facts, no condition. -/
import Derived.Test.YtkllhnfnkgkelaaDoorBitsRefP
namespace Go.Proofs.YtkllhnfnkgkelaaDoor
set_option linter.unusedVariables false
open Go
theorem goodL_eq {may good : NSet} (h : Sub good may) : (nodes may).filter (fun x => hasI good x) = nodes good := by
  refine sorted_ext _ _ ((nodes_sorted (card may) may rfl).filter _) (nodes_sorted (card good) good rfl) fun n => ?_
  rw [List.mem_filter, nodes_mem (card may) may rfl, nodes_mem (card good) good rfl]
  constructor
  · exact fun hn => hn.2
  · intro hn
    have h0 := hasI_lt hn
    refine ⟨(hasI_iff may n).2 ⟨h0.1, sub_iff.1 h n.toNat (by omega) ((hasI_iff good n).1 hn).2⟩, hn⟩
/-- of the first i nodes that may be taken, those that are good -/
def goodT (may good : NSet) (i : Nat) : List Int := ((nodes may).take i).filter (fun x => hasI good x)
theorem goodT_yes {may good : NSet} {i : Nat} (hi : i < (nodes may).length) (h : hasI good ((nodes may).getD i 0) = true) : goodT may good (i + 1) = goodT may good i ++ [(nodes may).getD i 0] := by
  unfold goodT
  have e : (nodes may).getD i 0 = (nodes may)[i] := by simp [List.getD, List.getElem?_eq_getElem hi]
  rw [List.take_succ_eq_append_getElem hi, List.filter_append, ← e]
  simp only [List.filter_cons, h, if_true, List.filter_nil]
theorem goodT_no {may good : NSet} {i : Nat} (hi : i < (nodes may).length) (h : hasI good ((nodes may).getD i 0) = false) : goodT may good (i + 1) = goodT may good i := by
  unfold goodT
  have e : (nodes may).getD i 0 = (nodes may)[i] := by simp [List.getD, List.getElem?_eq_getElem hi]
  rw [List.take_succ_eq_append_getElem hi, List.filter_append, ← e]
  simp only [List.filter_cons, h, Bool.false_eq_true, if_false, List.filter_nil, List.append_nil]
theorem goodT_prefix {may good : NSet} (hs : Sub good may) (i : Nat) : goodT may good i = (nodes good).take (goodT may good i).length := by
  have h := goodL_eq hs
  rw [← List.take_append_drop i (nodes may), List.filter_append] at h
  rw [← h]
  show goodT may good i = (goodT may good i ++ _).take (goodT may good i).length
  rw [List.take_left' rfl]
theorem goodT_le {may good : NSet} (hs : Sub good may) (i : Nat) : (goodT may good i).length ≤ card good := by
  have h := congrArg List.length (goodL_eq hs)
  rw [nodes_length _ good rfl, ← List.take_append_drop i (nodes may), List.filter_append, List.length_append] at h
  show (((nodes may).take i).filter _).length ≤ _
  omega
theorem goodT_all {may good : NSet} (hs : Sub good may) : (goodT may good (nodes may).length).length = card good := by
  unfold goodT
  rw [List.take_of_length_le (Nat.le_refl _), goodL_eq hs, nodes_length _ good rfl]
/-- nodes, each once -/
structure Outs (l : List Int) : Prop where
  nodup : l.Nodup
  range : ∀ x ∈ l, 0 ≤ x ∧ x < 64
theorem Outs.nil : Outs [] := ⟨.nil, fun _ h => by cases h⟩
theorem Outs.new {l : List Int} (h : Outs l) (k : Nat) (hk : k < l.length) : hasI (addL 0#64 (l.take k)) (l.getD k 0) = false := by
  have e : l.getD k 0 = l[k] := by simp [List.getD, List.getElem?_eq_getElem hk]
  rw [e]
  have hb := h.range l[k] (List.getElem_mem hk)
  rw [addL_has _ _ hb.1 hb.2, decide_eq_false_iff_not]
  intro hm
  obtain ⟨j, hj, hje⟩ := List.getElem_of_mem hm
  rw [List.length_take] at hj
  rw [List.getElem_take] at hje
  have := List.pairwise_iff_getElem.1 h.nodup j k (by omega) hk (by omega)
  exact this hje
theorem card_more {s : NSet} {x : Int} (h0 : 0 ≤ x) (h1 : x < 64) (h : hasI s x = false) : card (s ||| oneI x) = card s + 1 := by
  rw [card_or_apart (and_oneI_zero h)]
  have := card_one (i := x.toNat) (by omega)
  rw [show ((x.toNat : Nat) : Int) = x by omega] at this
  omega
theorem Outs.card : ∀ {l : List Int}, Outs l → Go.Proofs.YtkllhnfnkgkelaaDoor.card (addL 0#64 l) = l.length := by
  intro l
  induction l using list_rev with
  | h0 => intro _; exact card_zero
  | h1 l x ih =>
    intro h
    have hn := List.nodup_append.1 h.nodup
    have hl : Outs l := ⟨hn.1, fun y hy => h.range y (by simp [hy])⟩
    have hx := h.range x (by simp)
    rw [addL_snoc, card_more hx.1 hx.2, ih hl, List.length_append, List.length_singleton]
    rw [addL_has _ _ hx.1 hx.2, decide_eq_false_iff_not]
    intro hm
    exact hn.2.2 x hm x (by simp) rfl
theorem Outs.has {l : List Int} (_ : Outs l) {x : Int} (h0 : 0 ≤ x) (h1 : x < 64) : hasI (addL 0#64 l) x = decide (x ∈ l) := addL_has l x h0 h1
theorem addL_append (c : NSet) (a b : List Int) : addL c (a ++ b) = addL (addL c a) b := by unfold addL; rw [List.foldl_append]
theorem fill_pick {m : Int} {c good : NSet} {G : List Int} (hG : G = (nodes good).take G.length) (hle : G.length ≤ card good)
    (h : (G.length = card good ∧ (card c : Int) + G.length ≤ m) ∨ (card c : Int) + G.length = m) : addL c G = fillC m c good := by
  unfold fillC
  rw [show min (card good) (m - card c).toNat = G.length by omega, ← addL_take, ← hG]
/-- is the i-th one to be taken? Those that were taken in this round are less -/
theorem pick_cond {may good c0 : NSet} {out0 : List Int} (ho : Outs out0) (hc : addL 0#64 out0 = c0) {i : Nat} (hi : i < (nodes may).length) :
    decide ((nodes may).getD i 0 ∈ out0 ++ goodT may good i) = hasI c0 ((nodes may).getD i 0) := by
  have e : (nodes may).getD i 0 = (nodes may)[i] := by simp [List.getD, List.getElem?_eq_getElem hi]
  have hm := (nodes_mem (card may) may rfl _).1 (List.getElem_mem hi)
  have hr := hasI_lt hm
  rw [e, ← hc, addL_has _ _ hr.1 hr.2, Bool.eq_iff_iff, decide_eq_true_eq, decide_eq_true_eq, List.mem_append]
  refine ⟨fun h => ?_, .inl⟩
  rcases h with h | h
  · exact h
  · exfalso
    unfold goodT at h
    obtain ⟨j, hj, hje⟩ := List.getElem_of_mem (List.mem_filter.1 h).1
    rw [List.length_take] at hj
    rw [List.getElem_take] at hje
    have := List.pairwise_iff_getElem.1 (nodes_sorted (card may) may rfl) j i (by omega) hi (by omega)
    omega
theorem outs_grow {may good c0 : NSet} {out0 : List Int} (ho : Outs out0) (hc : addL 0#64 out0 = c0) (hd : c0 &&& good = 0#64) (hs : Sub good may) (i : Nat) : Outs (out0 ++ goodT may good i) := by
  have hmem : ∀ x ∈ goodT may good i, hasI good x = true := fun x hx => (List.mem_filter.1 hx).2
  refine ⟨List.nodup_append.2 ⟨ho.nodup, ?_, fun x hx y hy hxy => ?_⟩, fun x hx => ?_⟩
  · unfold goodT
    refine List.Pairwise.filter _ ?_
    exact ((nodes_sorted (card may) may rfl).imp (fun h => by omega)).sublist (List.take_sublist _ _)
  · subst hxy
    have h1 := hmem x hy
    have h2 := hasI_lt h1
    have h3 : hasI c0 x = true := by rw [← hc, addL_has _ _ h2.1 h2.2]; simpa using hx
    have h4 := congrArg (fun s : NSet => s.getLsbD x.toNat) hd
    simp only [BitVec.getLsbD_and, BitVec.getLsbD_zero, ((hasI_iff c0 x).1 h3).2, ((hasI_iff good x).1 h1).2] at h4
    cases h4
  · rcases List.mem_append.1 hx with h | h
    · exact ho.range x h
    · exact hasI_lt (hmem x h)
/-- a round of the reference -/
theorem round_done {may good c0 : NSet} {m : Int} {out0 : List Int} (ho : Outs out0) (hc : addL 0#64 out0 = c0) (hd : c0 &&& good = 0#64) (hs : Sub good may) {i : Nat}
    (h : i = (nodes may).length ∧ ((out0 ++ goodT may good i).length : Int) ≤ m ∨ ((out0 ++ goodT may good i).length : Int) = m) : addL 0#64 (out0 ++ goodT may good i) = fillC m c0 good := by
  rw [addL_append, hc]
  have h1 := ho.card
  rw [hc] at h1
  refine fill_pick (goodT_prefix hs i) (goodT_le hs i) ?_
  rw [List.length_append] at h
  rcases h with ⟨rfl, h⟩ | h
  · exact .inl ⟨goodT_all hs, by omega⟩
  · exact .inr (by omega)
theorem good_of {may c0 : NSet} {x : Int} : hasI (may &&& ~~~c0) x = (hasI may x && !hasI c0 x) := by
  rw [Bool.eq_iff_iff, Bool.and_eq_true, Bool.not_eq_true', hasI_diff]
  simp
theorem hasI_and' (a b : NSet) (x : Int) : hasI (a &&& b) x = (hasI a x && hasI b x) := by
  unfold hasI; rw [BitVec.getLsbD_and]
  cases decide (0 ≤ x) <;> simp
end Go.Proofs.YtkllhnfnkgkelaaDoor
