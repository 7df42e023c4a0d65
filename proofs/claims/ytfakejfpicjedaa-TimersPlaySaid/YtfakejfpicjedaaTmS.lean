/- The document's clocks: rows that are read (layer 17). No condition. -/
import Derived.Test.YtfakejfpicjedaaTmO
import Derived.BigQuiet
namespace Go.Proofs.Ytfakejfpicjedaa
set_option linter.unusedVariables false
open Go.ChangeShapes Go.WideShapes Go.RowKit Tm

/-- no name twice -/
def NU (L : List AL) : Prop := ∀ i j, i < L.length → j < L.length → (gA L i).2 = (gA L j).2 → i = j
theorem srt_at {R : List AL} (h : SrtT R) {i j : Nat} (hij : i < j) (hj : j < R.length) : ltB (gA R i) (gA R j) = true := by
  rw [gA_get (Nat.lt_trans hij hj), gA_get hj]
  exact List.pairwise_iff_getElem.1 h i j _ _ hij
theorem Ck.nu {w : World} {c Q m : Nat} {v : Value} {R : List AL} (h : Ck w c Q m v R) : NU R := fun i j hi hj e => by
  have e2 := h.inj _ (gA_mem hi) _ (gA_mem hj) e
  rcases Nat.lt_trichotomy i j with h1 | h1 | h1
  · have := srt_at h.srt h1 hj
    rw [e2, lt_irr] at this
    cases this
  · exact h1
  · have := srt_at h.srt h1 hi
    rw [e2, lt_irr] at this
    cases this
theorem list_split {L : List AL} {i : Nat} (hi : i < L.length) : L = L.take i ++ gA L i :: L.drop (i + 1) := by
  rw [gA_get hi, ← List.drop_eq_getElem_cons hi, List.take_append_drop]
theorem del_at {L : List AL} (h : NU L) {i : Nat} (hi : i < L.length) : delR L (gA L i).2 = L.take i ++ L.drop (i + 1) := by
  have e := list_split hi
  have hne : ∀ y ∈ L.take i ++ L.drop (i + 1), (y.2 != (gA L i).2) = true := by
    intro y hy
    rw [bne_iff_ne]
    intro he
    rcases List.mem_append.1 hy with hy | hy
    · obtain ⟨j, hj, rfl⟩ := List.getElem_of_mem hy
      rw [List.length_take] at hj
      rw [List.getElem_take] at he
      have := h j i (by omega) hi (by rw [gA_get (by omega)]; exact he)
      omega
    · obtain ⟨j, hj, rfl⟩ := List.getElem_of_mem hy
      rw [List.length_drop] at hj
      rw [List.getElem_drop] at he
      have := h (i + 1 + j) i (by omega) hi (by rw [gA_get (by omega)]; exact he)
      omega
  obtain ⟨x, hx⟩ : ∃ x, x = gA L i := ⟨_, rfl⟩
  rw [← hx] at e hne ⊢
  unfold delR
  have e2 : L.filter (fun y => y.2 != x.2) = (L.take i ++ x :: L.drop (i + 1)).filter fun y => y.2 != x.2 := congrArg _ e
  rw [e2, List.filter_append, List.filter_cons, if_neg (by simp), ← List.filter_append]
  exact List.filter_eq_self.2 hne
theorem ins_at {x : AL} : ∀ (L : List AL) (k : Nat), k ≤ L.length → (∀ j, j < k → ltB (gA L j) x = true) → (k < L.length → ltB (gA L k) x = false) → insR x L = L.take k ++ x :: L.drop k
  | [], k, h, _, _ => by
    obtain rfl : k = 0 := by simpa using h
    rfl
  | y :: L, 0, _, _, h2 => by
    have hy : ltB y x = false := h2 (by simp)
    unfold insR
    rw [if_neg (by rw [hy]; decide)]
    rfl
  | y :: L, k + 1, h, h1, h2 => by
    have hy : ltB y x = true := h1 0 (by omega)
    unfold insR
    rw [if_pos hy, ins_at L k (by simpa using h) (fun j hj => h1 (j + 1) (by omega)) (fun hk => h2 (by simpa using hk))]
    rfl
theorem in_at {L : List AL} {id : Int} : inR L id = true ↔ ∃ i, i < L.length ∧ (gA L i).2 = id := by
  rw [in_iff]
  constructor
  · rintro ⟨y, hy, he⟩
    obtain ⟨i, hi, rfl⟩ := List.getElem_of_mem hy
    exact ⟨i, hi, by rw [gA_get hi]; exact he⟩
  · rintro ⟨i, hi, he⟩
    exact ⟨_, gA_mem hi, he⟩
theorem due_at : ∀ (L : List AL) (t : Int) (k : Nat), k ≤ L.length → (∀ j, j < k → (gA L j).1 ≤ t) → (k < L.length → ¬ (gA L k).1 ≤ t) → dueR L t = L.take k ∧ restR L t = L.drop k
  | [], t, k, h, _, _ => by
    obtain rfl : k = 0 := by simpa using h
    exact ⟨rfl, rfl⟩
  | y :: L, t, 0, _, _, h2 => due_stop (.inr ⟨y, L, rfl, h2 (by simp)⟩)
  | y :: L, t, k + 1, h, h1, h2 => by
    have hy : y.1 ≤ t := h1 0 (by omega)
    obtain ⟨a, b⟩ := due_at L t k (by simpa using h) (fun j hj => h1 (j + 1) (by omega)) (fun hk => h2 (by simpa using hk))
    rw [(due_cons hy).1, (due_cons hy).2, a, b]
    exact ⟨rfl, rfl⟩
theorem at_take {L : List AL} (h : NU L) {k : Nat} (hk : k < L.length) (u : Int) : atR (L.take (k + 1)) u = if (gA L k).2 = u then some (gA L k).1 else atR (L.take k) u := by
  have e : L.take (k + 1) = L.take k ++ [gA L k] := by rw [gA_get hk, List.take_succ_eq_append_getElem hk]
  rw [e]
  unfold atR
  rw [List.find?_append]
  by_cases hu : (gA L k).2 = u
  · rw [if_pos hu]
    have hn : (L.take k).find? (fun y => y.2 == u) = none := by
      rw [List.find?_eq_none]
      intro y hy hyu
      obtain ⟨j, hj, rfl⟩ := List.getElem_of_mem hy
      rw [List.length_take] at hj
      rw [List.getElem_take] at hyu
      have := h j k (by omega) hk (by rw [gA_get (by omega), hu]; simpa using hyu)
      omega
    rw [hn]
    simp [hu]
  · rw [if_neg hu]
    have hn : [gA L k].find? (fun y => y.2 == u) = none := by simp [hu]
    rw [hn]
    cases (L.take k).find? fun y => y.2 == u <;> rfl
/-- a row of the document's alarms, that is read: where it lies, told -/
structure RCat (w : World) (g o : Nat) (L : List AL) : Prop where
  lt : g < w.heap.size
  cells : ∀ k, k < L.length → w.cell? ⟨g, o + k * 2, none⟩ = some (.int .i64 (gA L k).1) ∧ w.cell? ⟨g, o + k * 2 + 1, none⟩ = some (.int .i64 (gA L k).2)
def RC (w : World) (v : Value) (L : List AL) : Prop := (v = .slice none 0 0 ∧ L = []) ∨ ∃ g o cap, v = .slice (some ⟨g, o, none⟩) L.length cap ∧ L.length ≤ cap ∧ cap ≤ maxLen ∧ RCat w g o L
theorem RC.keep {w w' : World} {v : Value} {L : List AL} (h : RC w v L) (hs : w.heap.size ≤ w'.heap.size) (hb : ∀ g, v.ownBlock = some g → w'.heap[g]? = w.heap[g]?) : RC w' v L := by
  rcases h with h | ⟨g, o, cap, rfl, h1, h2, h3⟩
  · exact .inl h
  · have hg := hb g rfl
    have hc : ∀ j, w'.cell? ⟨g, j, none⟩ = w.cell? ⟨g, j, none⟩ := fun j => by
      unfold World.cell?
      dsimp only
      rw [hg]
    exact .inr ⟨g, o, cap, rfl, h1, h2, Nat.lt_of_lt_of_le h3.lt hs, fun k hk => ⟨(hc _).trans (h3.cells k hk).1, (hc _).trans (h3.cells k hk).2⟩⟩
theorem RC.below {w w' : World} {v : Value} {L : List AL} (h : RC w v L) (hb : Below w.heap.size w w') : RC w' v L :=
  h.keep hb.size fun g hg => by
    rcases h with ⟨rfl, _⟩ | ⟨g', o, cap, rfl, _, _, h3⟩
    · cases hg
    · injection hg with hg
      subst hg
      exact hb.block _ h3.lt
theorem RC.lt {w : World} {v : Value} {L : List AL} (h : RC w v L) : ∀ g, v.ownBlock = some g → g < w.heap.size := fun g hg => by
  rcases h with ⟨rfl, _⟩ | ⟨g', o, cap, rfl, _, _, h3⟩
  · cases hg
  · injection hg with hg
    subst hg
    exact h3.lt
theorem RC.own {w : World} {B : Nat} {v : Value} {L : List AL} (h : w.ownsRow B 44 2 v L.length (flA L)) : RC w v L := by
  rcases h.2 with ⟨rfl, h0⟩ | ⟨g, cap, cur, hv, hB, hg, hc, hm, hs, ht⟩
  · exact .inl ⟨rfl, List.eq_nil_of_length_eq_zero h0⟩
  · refine .inr ⟨g, 0, cap, hv, hc, hm, (Array.getElem?_eq_some_iff.1 hg).1, fun k hk => ?_⟩
    obtain ⟨a, b⟩ := cur_get hk ht
    rw [Nat.zero_add]
    exact ⟨cell_of_block hg a, cell_of_block hg b⟩
theorem RCat.take {w : World} {g o : Nat} {L : List AL} (h : RCat w g o L) {k : Nat} (hk : k ≤ L.length) : RCat w g o (L.take k) := ⟨h.lt, fun j hj => by
  rw [List.length_take] at hj
  rw [gA_take (by omega)]
  exact h.cells j (by omega)⟩
theorem gA_drop {L : List AL} {k j : Nat} : gA (L.drop k) j = gA L (k + j) := by
  unfold gA
  rw [List.getD_eq_getElem?_getD, List.getD_eq_getElem?_getD, List.getElem?_drop]
theorem RCat.drop {w : World} {g o : Nat} {L : List AL} (h : RCat w g o L) (k : Nat) : RCat w g (o + k * 2) (L.drop k) := ⟨h.lt, fun j hj => by
  rw [List.length_drop] at hj
  rw [gA_drop, show o + k * 2 + j * 2 = o + (k + j) * 2 by omega]
  exact h.cells (k + j) (by omega)⟩
theorem flA_at {L : List AL} {j : Nat} {u : Value} (h : (flA L)[j]? = some u) : ∃ k, k < L.length ∧ (j = k * 2 ∧ u = .int .i64 (gA L k).1 ∨ j = k * 2 + 1 ∧ u = .int .i64 (gA L k).2) := by
  have hj : j < (flA L).length := (List.getElem?_eq_some_iff.1 h).1
  rw [flA_len] at hj
  obtain ⟨a, b⟩ := flA_get L (j / 2) (by omega)
  refine ⟨j / 2, by omega, ?_⟩
  rcases Nat.mod_two_eq_zero_or_one j with e | e
  · left
    have e2 : j = j / 2 * 2 := by omega
    refine ⟨e2, ?_⟩
    rw [e2, a] at h
    injection h with h
    exact h.symm
  · right
    have e2 : j = j / 2 * 2 + 1 := by omega
    refine ⟨e2, ?_⟩
    rw [e2, b] at h
    injection h with h
    exact h.symm
/-- part of a row, read -/
theorem RCat.rd {w : World} {g o : Nat} {L : List AL} (h : RCat w g o L) {n : Nat} (hn : n = L.length) (cap : Nat) : Ap.RdG w 2 (.slice (some ⟨g, o, none⟩) n cap) n (flA L) := by
  subst hn
  refine ⟨⟨some ⟨g, o, none⟩, cap, rfl, (fun e => by cases e), fun a ha j u hj => ?_, fun a ha _ => ?_⟩, flA_len L, flA_one L⟩
  · injection ha with ha
    subst ha
    have hp : (⟨g, o, none⟩ : Addr).add j = ⟨g, o + j, none⟩ := by unfold Addr.add; split <;> simp_all
    rw [hp]
    obtain ⟨k, hk, ⟨rfl, rfl⟩ | ⟨rfl, rfl⟩⟩ := flA_at hj
    · exact (h.cells k hk).1
    · exact (h.cells k hk).2
  · injection ha with ha
    subst ha
    exact h.lt
/-- nothing, read, wherever it lies -/
theorem rd_none {w : World} {g o : Nat} (hg : g < w.heap.size) (cap : Nat) : Ap.RdG w 2 (.slice (some ⟨g, o, none⟩) 0 cap) 0 (flA []) := (RCat.rd (L := []) ⟨hg, fun k hk => absurd hk (Nat.not_lt_zero _)⟩ rfl cap)
theorem RCat.below {w w' : World} {g o : Nat} {L : List AL} (h : RCat w g o L) (hb : Below w.heap.size w w') : RCat w' g o L := by
  have hg := hb.block g h.lt
  have hc : ∀ j, w'.cell? ⟨g, j, none⟩ = w.cell? ⟨g, j, none⟩ := fun j => by
    unfold World.cell?
    dsimp only
    rw [hg]
  exact ⟨Nat.lt_of_lt_of_le h.lt hb.size, fun k hk => ⟨(hc _).trans (h.cells k hk).1, (hc _).trans (h.cells k hk).2⟩⟩
theorem info_al17 : (Try.prog.info? 44).map (fun i => (i.zero, i.size, i.bytes)) = some (some (.agg #[.int .i64 0, .int .i64 0]), 2, 16) := by kernel_rfl
theorem elt17 : Ap.Elt Try.prog 26 44 2 16 :=
  ⟨Try.underlying26, by obtain ⟨i, h1, h2, h3, h4⟩ := info_partsT info_al17; exact ⟨i, _, h1, h2, h3, h4, rfl⟩, by decide⟩
end Go.Proofs.Ytfakejfpicjedaa
