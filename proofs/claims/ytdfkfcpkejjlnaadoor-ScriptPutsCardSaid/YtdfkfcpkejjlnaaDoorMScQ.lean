/- What is laid of steps is read as it was; cut by a byte, the last one is not (layer 28). Condition: the numbers fit. -/
import Derived.Test.YtdfkfcpkejjlnaaDoorMah
import Derived.Test.YtdfkfcpkejjlnaaDoorMad
namespace Go.Proofs.YtdfkfcpkejjlnaaDoor
set_option linter.unusedVariables false
open Go.RowKit Cs

theorem readA_put : ∀ (l ys : List Int), (∀ y ∈ l, i64S y) → readA l.length ⟨l.flatMap putI ++ ys, 0⟩ = (⟨ys, 0⟩, l)
  | [], ys, _ => rfl
  | y :: l, ys, h => by
    rw [List.length_cons, readA_succ, List.flatMap_cons, List.append_assoc, intF_put (h y List.mem_cons_self)]
    dsimp only
    rw [readA_put l ys fun z hz => h z (List.mem_cons_of_mem _ hz)]
theorem readA_cut : ∀ (l : List Int), l ≠ [] → (∀ y ∈ l, i64S y) → (readA l.length ⟨(l.flatMap putI).take ((l.flatMap putI).length - 1), 0⟩).1.bad ≠ 0
  | [], h, _ => absurd rfl h
  | [y], _, h => by
    have hp := putI_pos y
    rw [show [y].flatMap putI = putI y by simp]
    show (readA 1 _).1.bad ≠ 0
    rw [readA_succ, intF_cut (h y List.mem_cons_self) (by omega)]
    show (⟨[], 10⟩ : CS).bad ≠ 0
    decide
  | y :: z :: l, _, h => by
    have hr := readA_cut (z :: l) (by simp) fun x hx => h x (List.mem_cons_of_mem _ hx)
    have hz := putI_pos z
    have hl : 1 ≤ ((z :: l).flatMap putI).length := by rw [List.flatMap_cons, List.length_append]; omega
    have e : ((y :: z :: l).flatMap putI).take (((y :: z :: l).flatMap putI).length - 1) = putI y ++ ((z :: l).flatMap putI).take (((z :: l).flatMap putI).length - 1) := by
      rw [show (y :: z :: l).flatMap putI = putI y ++ (z :: l).flatMap putI from by rw [List.flatMap_cons]]
      generalize (z :: l).flatMap putI = B at *
      rw [List.take_append, List.length_append, List.take_of_length_le (by omega), show (putI y).length + B.length - 1 - (putI y).length = B.length - 1 by omega]
    rw [e]
    show (readA ((z :: l).length + 1) _).1.bad ≠ 0
    rw [readA_succ, intF_put (h y List.mem_cons_self)]
    exact hr
theorem textF_cut {bs : List Int} (h : bs.length ≤ 65536) : (textF ⟨(putTx bs).take ((putTx bs).length - 1), 0⟩).1.bad ≠ 0 := by
  rcases Nat.eq_zero_or_pos bs.length with h0 | h0
  · obtain rfl := List.eq_nil_of_length_eq_zero h0
    have e : (putTx []).take ((putTx []).length - 1) = (putI 0).take ((putI 0).length - 1) := by unfold putTx; simp
    rw [e]
    have hp := putI_pos 0
    unfold textF
    rw [smallF_cut (by decide) (by omega)]
    simp [failF]
  · have e : (putTx bs).take ((putTx bs).length - 1) = putI (bs.length : Int) ++ bs.take (bs.length - 1) := by
      unfold putTx
      rw [List.take_append, List.length_append, List.take_of_length_le (by omega), show (putI (bs.length : Int)).length + bs.length - 1 - (putI (bs.length : Int)).length = bs.length - 1 by omega]
    rw [e]
    unfold textF
    rw [smallF_put (by omega) (by omega) (by omega)]
    dsimp only
    rw [if_pos (by rw [List.length_take]; omega)]
    simp [failF]
theorem gotC_put {x : List Int} (h : Cmd12 x) (hr : rightL x = true) : readB (putC x) = true ∧ gotC (putC x) = cleanL x := by
  have h1 : readB (putC x) = true := by rw [readB_put h]; exact hr
  exact ⟨h1, by rw [gotC_yes h1, ysC_put h]⟩
theorem stepV_ok {s : CS} {v : SV} (h : s.bad = 0) (hr : rightS v = true) : stepV s v = some (s, v) := by unfold stepV; rw [if_pos ⟨h, hr⟩]
theorem stepV_no {s : CS} {v : SV} (h : s.bad ≠ 0) : stepV s v = none := by unfold stepV; rw [if_neg fun hh => h hh.1]
theorem kinds {v : SV} (hr : rightS v = true) : v.k = 0 ∨ v.k = 1 ∨ v.k = 2 ∨ v.k = 3 ∨ v.k = 4 ∨ v.k = 5 := by have := right_kind hr; omega
theorem small5 {k : Int} (h : 0 ≤ k ∧ k ≤ 5) (ys : List Int) : smallF ⟨putI k ++ ys, 0⟩ 5 = (⟨ys, 0⟩, k) := smallF_put h.1 h.2 (by omega) ys
theorem size_len (s : ByteArray) : (bytesOf s).length = s.size := bytesOf_length s
/-- a right step's bytes are read as it was, without what does not count -/
theorem step_put {v : SV} (g : GoodS v) (hr : rightS v = true) (hc : cleanS v = v) (ys : List Int) : stepF ⟨bytesS v ++ ys, 0⟩ = some (⟨ys, 0⟩, v) := by
  have hk := right_kind hr
  have hr2 := hr
  unfold bytesS
  rw [List.append_assoc]
  unfold stepF
  rw [small5 hk]
  dsimp only
  unfold rightS rightK at hr2
  rcases kinds hr with h | h | h | h | h | h
  · simp only [h, if_true] at hr2 ⊢
    obtain ⟨h1, h2⟩ := gotC_put g.x hr2
    rw [textF_put (by have := putC_le g.x; omega)]
    dsimp only
    rw [h1, h2, if_pos rfl]
    have e : (⟨0, cleanL v.x, eS, 0, z4⟩ : SV) = v := (show cleanS v = ⟨0, cleanL v.x, eS, 0, z4⟩ from by unfold cleanS; simp [h]).symm.trans hc
    rw [e]
    exact stepV_ok rfl hr
  · simp only [h] at hr2 ⊢
    simp only [show ¬ (1 : Int) = 0 from by decide, if_false, if_true] at hr2 ⊢
    have h2 := of_decide_eq_true hr2
    rw [textF_put (by rw [size_len]; omega)]
    dsimp only
    rw [str_bytes]
    have e : (⟨1, z12, v.s, 0, z4⟩ : SV) = v := (show cleanS v = ⟨1, z12, v.s, 0, z4⟩ from by unfold cleanS; simp [h]).symm.trans hc
    rw [e]
    exact stepV_ok rfl hr
  · simp only [h] at hr2 ⊢
    simp only [show ¬ (2 : Int) = 0 from by decide, show ¬ (2 : Int) = 1 from by decide, if_false, if_true] at hr2 ⊢
    rw [intF_put g.n64]
    dsimp only
    have e : (⟨2, z12, eS, v.n, z4⟩ : SV) = v := (show cleanS v = ⟨2, z12, eS, v.n, z4⟩ from by unfold cleanS; simp [h]).symm.trans hc
    rw [e]
    exact stepV_ok rfl hr
  · simp only [h] at hr2 ⊢
    simp only [show ¬ (3 : Int) = 0 from by decide, show ¬ (3 : Int) = 1 from by decide, show ¬ (3 : Int) = 2 from by decide, if_false, if_true] at hr2 ⊢
    have hq := readA_put v.q ys g.q64
    rw [g.q] at hq
    rw [hq]
    dsimp only
    have e : (⟨3, z12, eS, 0, v.q⟩ : SV) = v := (show cleanS v = ⟨3, z12, eS, 0, v.q⟩ from by unfold cleanS; simp [h]).symm.trans hc
    rw [e]
    exact stepV_ok rfl hr
  · simp only [h] at hr2 ⊢
    simp only [show ¬ (4 : Int) = 0 from by decide, show ¬ (4 : Int) = 1 from by decide, show ¬ (4 : Int) = 2 from by decide, show ¬ (4 : Int) = 3 from by decide, if_false, if_true, List.nil_append] at hr2 ⊢
    have e : (⟨4, z12, eS, 0, z4⟩ : SV) = v := (show cleanS v = ⟨4, z12, eS, 0, z4⟩ from by unfold cleanS; simp [h]).symm.trans hc
    rw [e]
    exact stepV_ok rfl hr
  · simp only [h] at hr2 ⊢
    simp only [show ¬ (5 : Int) = 0 from by decide, show ¬ (5 : Int) = 1 from by decide, show ¬ (5 : Int) = 2 from by decide, show ¬ (5 : Int) = 3 from by decide, if_false, if_true, List.nil_append] at hr2 ⊢
    have e : (⟨5, z12, eS, 0, z4⟩ : SV) = v := (show cleanS v = ⟨5, z12, eS, 0, z4⟩ from by unfold cleanS; simp [h]).symm.trans hc
    rw [e]
    exact stepV_ok rfl hr
theorem putI_small {k : Int} (h : 0 ≤ k ∧ k ≤ 5) : (putI k).length = 1 := by
  have : foldF k < 128 := by unfold foldF; split <;> omega
  unfold putI
  rw [putU_lt this]
  rfl
/-- what stands behind a step's kind -/
def restS (v : SV) : List Int := if v.k = 0 then putTx (putC v.x) else if v.k = 1 then putTx (bytesOf v.s) else if v.k = 2 then putI v.n else if v.k = 3 then v.q.flatMap putI else []
theorem bytes_rest (v : SV) : bytesS v = putI v.k ++ restS v := rfl
/-- cut by a byte it is none, or nothing stands there -/
theorem step_cut {v : SV} (g : GoodS v) (hr : rightS v = true) : (bytesS v).take ((bytesS v).length - 1) = [] ∨ stepF ⟨(bytesS v).take ((bytesS v).length - 1), 0⟩ = none := by
  have hk := right_kind hr
  have h1 := putI_small hk
  rw [bytes_rest]
  by_cases h0 : restS v = []
  · refine .inl ?_
    rw [h0, List.append_nil, h1]
    rfl
  · refine .inr ?_
    have hl : 1 ≤ (restS v).length := List.length_pos_iff.2 h0
    have e : (putI v.k ++ restS v).take ((putI v.k ++ restS v).length - 1) = putI v.k ++ (restS v).take ((restS v).length - 1) := by
      rw [List.take_append, List.length_append, List.take_of_length_le (by omega), show (putI v.k).length + (restS v).length - 1 - (putI v.k).length = (restS v).length - 1 by omega]
    rw [e]
    unfold stepF
    rw [small5 hk]
    dsimp only
    have hr2 := hr
    unfold rightS rightK at hr2
    unfold restS at h0 ⊢
    rcases kinds hr with h | h | h | h | h | h
    · simp only [h, if_true] at hr2 ⊢
      have hb := textF_cut (bs := putC v.x) (by have := putC_le g.x; omega)
      split
      · exact stepV_no hb
      · rfl
    · simp only [h] at hr2 ⊢
      simp only [show ¬ (1 : Int) = 0 from by decide, if_false, if_true] at hr2 ⊢
      have h2 := of_decide_eq_true hr2
      exact stepV_no (textF_cut (bs := bytesOf v.s) (by rw [size_len]; omega))
    · simp only [h] at hr2 ⊢
      simp only [show ¬ (2 : Int) = 0 from by decide, show ¬ (2 : Int) = 1 from by decide, if_false, if_true] at hr2 ⊢
      have hp := putI_pos v.n
      rw [intF_cut g.n64 (by omega)]
      exact stepV_no (show (10 : Int) ≠ 0 by decide)
    · simp only [h] at hr2 ⊢
      simp only [show ¬ (3 : Int) = 0 from by decide, show ¬ (3 : Int) = 1 from by decide, show ¬ (3 : Int) = 2 from by decide, if_false, if_true] at hr2 ⊢
      have hq := readA_cut v.q (by intro hn; have := g.q; rw [hn] at this; cases this) g.q64
      rw [g.q] at hq
      exact stepV_no hq
    · exfalso; apply h0; simp [h]
    · exfalso; apply h0; simp [h]
theorem bytesS_pos {v : SV} : 1 ≤ (bytesS v).length := by rw [bytes_rest, List.length_append]; have := putI_pos v.k; omega
structure TidyS (v : SV) : Prop where
  good : GoodS v
  right : rightS v = true
  clean : cleanS v = v
theorem tidy_clean {v : SV} (g : GoodS v) (hr : rightS v = true) : TidyS (cleanS v) := ⟨good_clean g, right_cleanS hr, cleanS_twice v⟩
theorem putS_cons {v : SV} (hr : rightS v = true) (L : List SV) : putS (v :: L) = bytesS v ++ putS L := by unfold putS; rw [List.flatMap_cons, if_pos hr]
theorem rdS_pre : ∀ (L acc : List SV) (n : Nat) (ys : List Int), (∀ v ∈ L, TidyS v) → rdS (L.length + n) ⟨putS L ++ ys, 0⟩ acc = rdS n ⟨ys, 0⟩ (acc ++ L)
  | [], acc, n, ys, _ => by simp [putS]
  | v :: L, acc, n, ys, h => by
    have hv := h v List.mem_cons_self
    have ih := rdS_pre L (acc ++ [v]) n ys fun z hz => h z (List.mem_cons_of_mem _ hz)
    rw [putS_cons hv.right, List.append_assoc, List.length_cons, show L.length + 1 + n = L.length + n + 1 by omega]
    have hne : ¬ (bytesS v ++ (putS L ++ ys)) = [] := by
      intro hn
      have := bytesS_pos (v := v)
      rw [(List.append_eq_nil_iff.1 hn).1] at this
      cases this
    show (if (bytesS v ++ (putS L ++ ys)) = [] then _ else _) = _
    rw [if_neg hne, step_put hv.good hv.right hv.clean]
    dsimp only
    rw [ih, List.append_assoc]
    rfl
theorem putS_long : ∀ L : List SV, (∀ v ∈ L, TidyS v) → L.length ≤ (putS L).length
  | [], _ => by simp
  | v :: L, h => by
    have := putS_long L fun z hz => h z (List.mem_cons_of_mem _ hz)
    have hp := bytesS_pos (v := v)
    rw [putS_cons (h v List.mem_cons_self).right, List.length_append, List.length_cons]
    omega
theorem readS_put {L : List SV} (h : ∀ v ∈ L, TidyS v) (hl : L.length ≤ 60) : readS (putS L) = (L, 0) := by
  have h1 := putS_len L fun v hv => (h v hv).good
  have h2 := putS_long L h
  unfold readS
  rw [if_neg (by omega)]
  have := rdS_pre L [] ((putS L).length + 1 - L.length) [] h
  rw [List.append_nil, show L.length + ((putS L).length + 1 - L.length) = (putS L).length + 1 by omega] at this
  rw [this]
  obtain ⟨m, hm⟩ : ∃ m, (putS L).length + 1 - L.length = m + 1 := ⟨(putS L).length - L.length, by omega⟩
  rw [hm]
  show (if ([] : List Int) = [] then _ else _) = _
  rw [if_pos rfl]
  simp
theorem readS_cut {L : List SV} {v : SV} (h : ∀ x ∈ L ++ [v], TidyS x) (hl : L.length ≤ 60) : (readS ((putS (L ++ [v])).take ((putS (L ++ [v])).length - 1))).1 = L := by
  have hv := h v (by simp)
  have hL : ∀ x ∈ L, TidyS x := fun x hx => h x (by simp [hx])
  have h1 := putS_len L fun v hv => (hL v hv).good
  have h2 := putS_long L hL
  have h3 := bytes_len hv.good hv.right
  have h4 := bytesS_pos (v := v)
  have e1 : putS (L ++ [v]) = putS L ++ bytesS v := by unfold putS; rw [List.flatMap_append]; simp [hv.right]
  have e2 : (putS (L ++ [v])).take ((putS (L ++ [v])).length - 1) = putS L ++ (bytesS v).take ((bytesS v).length - 1) := by
    rw [e1, List.take_append, List.length_append, List.take_of_length_le (by omega), show (putS L).length + (bytesS v).length - 1 - (putS L).length = (bytesS v).length - 1 by omega]
  rw [e2]
  have hc := step_cut hv.good hv.right
  have hcl : ((bytesS v).take ((bytesS v).length - 1)).length ≤ 300 := by rw [List.length_take]; omega
  generalize (bytesS v).take ((bytesS v).length - 1) = c at *
  unfold readS
  rw [if_neg (by rw [List.length_append]; omega)]
  have := rdS_pre L [] ((putS L ++ c).length + 1 - L.length) c hL
  rw [show L.length + ((putS L ++ c).length + 1 - L.length) = (putS L ++ c).length + 1 by rw [List.length_append]; omega] at this
  rw [this, List.nil_append]
  obtain ⟨m, hm⟩ : ∃ m, (putS L ++ c).length + 1 - L.length = m + 1 := ⟨(putS L ++ c).length - L.length, by rw [List.length_append]; omega⟩
  rw [hm]
  show (if c = [] then (L, (0 : Int)) else _).1 = L
  split
  · rfl
  · rename_i hne
    rcases hc with hc | hc
    · exact absurd hc hne
    · rw [hc]
theorem readS_big {bs : List Int} (h : 65536 < bs.length) : readS bs = ([], 3) := by unfold readS; rw [if_pos h]
end Go.Proofs.YtdfkfcpkejjlnaaDoor
