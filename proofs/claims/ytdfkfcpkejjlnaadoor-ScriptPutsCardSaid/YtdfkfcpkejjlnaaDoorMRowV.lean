/- Rows of structs, whatever their cells: one that came in, one of one's own; append of one element; a load of an element. Conditions: the lengths' bounds. -/
import Derived.Test.YtdfkfcpkejjlnaaDoorMab
import Derived.Test.YtdfkfcpkejjlnaaDoorMAppTwo
import Derived.Lib.ConvBytes
namespace Go.Proofs.YtdfkfcpkejjlnaaDoor
set_option linter.unusedVariables false
open Go Go.RowKit
namespace Rv
variable {P : Program}
/-- a row of elements of n cells -/
def RowV (n : Nat) (w : World) (v : Value) (M : List (List Value)) : Prop :=
  ∃ a c, v = .slice a M.length c ∧ M.length ≤ c ∧ (0 < M.length → ∃ b off, a = some ⟨b, off, none⟩ ∧ b < w.heap.size ∧ ∀ k l, M[k]? = some l → w.rangeAt b (off + k * n) l)
theorem RowV.below {n : Nat} {w w' : World} {v : Value} {M : List (List Value)} (h : RowV n w v M) (hb : Below w.heap.size w w') : RowV n w' v M := by
  obtain ⟨a, c, h1, h2, h3⟩ := h
  refine ⟨a, c, h1, h2, fun h0 => ?_⟩
  obtain ⟨b, off, e, hlt, hc⟩ := h3 h0
  exact ⟨b, off, e, Nat.lt_of_lt_of_le hlt hb.size, fun k l hk j u hj => (hb.cell (p := ⟨b, off + k * n + j, none⟩) hlt).trans (hc k l hk j u hj)⟩
theorem RowV.nil {n : Nat} {w : World} : RowV n w (.slice none 0 0) [] := ⟨none, 0, rfl, Nat.le_refl _, fun h => absurd h (by decide)⟩
theorem flat_at {n : Nat} : ∀ (M : List (List Value)), (∀ l ∈ M, l.length = n) → ∀ (k : Nat) (l : List Value), M[k]? = some l → ∀ j, j < n → M.flatten[k * n + j]? = l[j]?
  | [], _, k, l, hk, _, _ => by simp at hk
  | m :: M, h, 0, l, hk, j, hj => by
    simp at hk
    subst hk
    rw [List.flatten_cons, Nat.zero_mul, Nat.zero_add, List.getElem?_append_left (by rw [h _ List.mem_cons_self]; exact hj)]
  | m :: M, h, k + 1, l, hk, j, hj => by
    have hm := h m List.mem_cons_self
    have := flat_at M (fun x hx => h x (List.mem_cons_of_mem _ hx)) k l (by simpa using hk) j hj
    rw [List.flatten_cons, List.getElem?_append_right (by rw [hm, Nat.add_mul, Nat.one_mul]; omega), hm, ← this]
    congr 1
    rw [Nat.add_mul, Nat.one_mul]; omega
theorem flat_len {n : Nat} : ∀ (M : List (List Value)), (∀ l ∈ M, l.length = n) → M.flatten.length = M.length * n
  | [], _ => by simp
  | m :: M, h => by
    rw [List.flatten_cons, List.length_append, h m List.mem_cons_self, flat_len M (fun x hx => h x (List.mem_cons_of_mem _ hx)), List.length_cons, Nat.add_mul, Nat.one_mul, Nat.add_comm]
/-- a row of one's own -/
def OwnV (e : TypeId) (n : Nat) (w : World) (B : Nat) (v : Value) (M : List (List Value)) : Prop := w.ownsRow B e n v M.length M.flatten
theorem OwnV.nil {e : TypeId} {n : Nat} {w : World} {B : Nat} : OwnV e n w B (.slice none 0 0) [] := ⟨by simp, .inl ⟨rfl, rfl⟩⟩
theorem OwnV.keep {e : TypeId} {n : Nat} {w w' : World} {B : Nat} {v : Value} {M : List (List Value)} (h : OwnV e n w B v M) (hb : ∀ k, v.ownBlock = some k → w'.heap[k]? = w.heap[k]?) : OwnV e n w' B v M := Ap.own_keep h hb
theorem OwnV.below {e : TypeId} {n : Nat} {w w' : World} {B : Nat} {v : Value} {M : List (List Value)} (h : OwnV e n w B v M) (hb : Below w.heap.size w w') : OwnV e n w' B v M := Ap.own_below h hb
theorem OwnV.form {e : TypeId} {n : Nat} {w : World} {B : Nat} {v : Value} {M : List (List Value)} (h : OwnV e n w B v M) : ∃ ad c, v = .slice ad M.length c := by
  rcases h.2 with ⟨e, h0⟩ | ⟨g, cap, cur, e, _⟩
  · exact ⟨none, 0, by rw [e, h0]⟩
  · exact ⟨_, cap, e⟩
theorem OwnV.blk {e : TypeId} {n : Nat} {w : World} {B : Nat} {v : Value} {M : List (List Value)} (h : OwnV e n w B v M) {g : Nat} (hg : v.ownBlock = some g) : B ≤ g ∧ g < w.heap.size ∧ ∃ cs, w.heap[g]? = some (.cells cs e (0, 0)) := by
  rcases h.2 with ⟨rfl, _⟩ | ⟨g', cap, cur, rfl, hB, hh, _⟩
  · cases hg
  · simp only [Value.ownBlock, Option.some.injEq] at hg
    subst hg
    exact ⟨hB, (Array.getElem?_eq_some_iff.1 hh).1, _, hh⟩
theorem OwnV.lower {e : TypeId} {n : Nat} {w : World} {B B' : Nat} {v : Value} {M : List (List Value)} (h : OwnV e n w B v M) (hB : B' ≤ B) : OwnV e n w B' v M := by
  refine ⟨h.1, ?_⟩
  rcases h.2 with h0 | ⟨g, cap, cur, h1, h2, h3⟩
  · exact .inl h0
  · exact .inr ⟨g, cap, cur, h1, Nat.le_trans hB h2, h3⟩
theorem OwnV.row {e : TypeId} {n : Nat} {w : World} {B : Nat} {v : Value} {M : List (List Value)} (hM : ∀ l ∈ M, l.length = n) (h : OwnV e n w B v M) : RowV n w v M := by
  rcases h.2 with ⟨e, h0⟩ | ⟨g, cap, cur, e, hB, hg, hrest⟩
  · rw [List.eq_nil_of_length_eq_zero h0, e]; exact RowV.nil
  · refine ⟨some ⟨g, 0, none⟩, cap, e, hrest.1, fun _ => ⟨g, 0, rfl, (Array.getElem?_eq_some_iff.1 hg).1, fun k l hk j u hj => ?_⟩⟩
    have hjn : j < n := by
      have := hM l (List.mem_of_getElem? hk)
      rw [← this]
      exact (List.getElem?_eq_some_iff.1 hj).1
    have := h.cells (g := g) (by rw [e]; rfl) (k * n + j) u (by rw [flat_at M hM k l hk j hjn]; exact hj)
    have hplain : (⟨g, 0, none⟩ : Addr).add (k * n + j) = ⟨g, 0 + k * n + j, none⟩ := by unfold Addr.add; split <;> simp_all
    rwa [hplain] at this
/-- one element more -/
theorem app_one {T e : TypeId} {size bytes : Nat} (E : Ap.Elt P T e size bytes) (ty : TypeId) {w : World} {B : Nat} {v : Value} {M : List (List Value)} (hown : OwnV e size w B v M) (news : List Value) (hl : news.length = size) (h1 : ∀ u ∈ news, u.oneCell' = true)
    (h63 : M.length + 1 ≤ 100000) (hby : bytes ≤ 1000) (hB : B ≤ w.heap.size) {q : Nat} (hq : w.heap[q]? = some (.cells news.toArray e (0, 0))) :
    ∃ v' w', (Builtin.append_ #[T, T] ty #[v, .slice (some ⟨q, 0, none⟩) 1 1]).run P w = .ok v' w' ∧ OwnV e size w' B v' (M ++ [news]) ∧ w.grownBy w' v.ownBlock ∧ (∀ g, v'.ownBlock = some g → v.ownBlock = some g ∨ w.heap.size ≤ g) ∧ Below B w w' := by
  obtain ⟨i, z, hi, hz0, hz1, hz2, hz3⟩ := E.info
  have hplain : ∀ j, (⟨q, 0, none⟩ : Addr).add j = ⟨q, j, none⟩ := fun j => by unfold Addr.add; split <;> simp_all
  obtain ⟨v', w', g0, g1, g2, _, g4⟩ := run_append_own_at (P := P) w B T ty e i z size bytes E.ul hi hz0 hz1 hz2 hz3 E.pos v M.length M.flatten hown ⟨q, 0, none⟩ 1 1 news (by rw [hl, Nat.one_mul])
    (fun j u hj => by rw [hplain]; exact cell_of_block hq (by simpa using hj)) h1 (by unfold maxLen; omega) (by
      have : (M.length + 1) * bytes ≤ 100000 * 1000 := Nat.mul_le_mul h63 hby
      omega) hB
  refine ⟨v', w', g0, ?_, g2, fun g hg => ?_, Below.grown (Below.refl _ _) g2 hB (Ap.own_blk hown)⟩
  · show w'.ownsRow B e size v' (M ++ [news]).length (M ++ [news]).flatten
    rw [List.flatten_append, show [news].flatten = news by simp, List.length_append]
    exact g1
  · rcases g4 with g4 | g4
    · exact .inl (g4 ▸ hg)
    · rw [g4] at hg
      injection hg with hg
      exact .inr (by rw [← hg]; exact Nat.le_refl _)
/-- a load of an element, in a plain region -/
theorem wpList_load_elt {ops : Array Oper} {rest : List Oper} {op : Oper} {a : Act} {w : World} {Q : Exit → Act → World → Prop} (hgd : op.guard = none) (ty : TypeId) (x : Operand) (ho : op.op = .load ty x) (b o : Nat) (hx : a.eval x = .pointer (some ⟨b, o, none⟩)) (l : List Value) (d : TypeDesc)
    (hc : w.rangeAt b o l) (hu : P.underlying ty = some d) (hd : d.isRow = true) (hi : (P.info? ty).map (·.size) = some l.length)
    (h : wpList P ops Q rest (a.put op.dst (.agg l.toArray)) w) : wpList P ops Q (op :: rest) a w := wpList_load_mid hgd ty x ho b o hx l d hc hu hd hi h
theorem exec_load_elt {op : Oper} {ρ : Operand → Value} {w : World} (ty : TypeId) (x : Operand) (ho : op.op = .load ty x) (b o : Nat) (hx : ρ x = .pointer (some ⟨b, o, none⟩)) (l : List Value) (d : TypeDesc)
    (hc : w.rangeAt b o l) (hu : P.underlying ty = some d) (hd : d.isRow = true) (hi : (P.info? ty).map (·.size) = some l.length) : (execOp ρ op).run P w = .ok (.value (.agg l.toArray)) w := by
  unfold execOp
  simp only [ho, hx, Sem.run_bind, run_loadAt_mid w b o ty l d hc hu hd hi, Result.andThen_ok, Sem.run_pure]
theorem info_partsV {i? : Option TypeInfo} {z : Value} {s b : Nat} (h : i?.map (fun i => (i.zero, i.size, i.bytes)) = some (some z, s, b)) : ∃ i, i? = some i ∧ i.zero = some z ∧ i.size = s ∧ i.bytes = b := by
  cases i? with
  | none => cases h
  | some i =>
    simp only [Option.map_some, Option.some.injEq, Prod.mk.injEq] at h
    exact ⟨i, rfl, h.1, h.2.1, h.2.2⟩
/-- a store of a part of a struct's block -/
theorem wpList_store_part {ops : Array Oper} {rest : List Oper} {op : Oper} {a : Act} {w : World} {Q : Exit → Act → World → Prop} (hgd : op.guard = none) (ty : TypeId) (x y : Operand) (ho : op.op = .store ty x y) (b o : Nat) {T : TypeId} {cs : Array Value} (l : List Value)
    (hx : a.eval x = .pointer (some ⟨b, o, none⟩)) (hy : a.eval y = .agg l.toArray) (hb : w.heap[b]? = some (.cells cs T (0, 0))) (hl : o + l.length ≤ cs.size) (hi : (P.info? ty).map (·.size) = some l.length) (h1 : l.all (·.oneCell') = true)
    (h : ∀ w', WroteTo b T (setAll cs o l) w w' → wpList P ops Q rest (a.put op.dst undef) w') : wpList P ops Q (op :: rest) a w :=
  wpList_store_mid hgd ty x y ho b o l.toArray hx hy (fun j hj => by
    have hj' : o + j < cs.size := by simp at hj; omega
    exact ⟨by rw [cell_of_block (o := o + j) hb (Array.getElem?_eq_getElem hj')]; rfl, free_of_block _ hb⟩) (by simpa using hi) (by simpa using h1) (h _ (WroteTo.sets l o (wrote_refl hb)))
/-- a string's bytes in memory -/
theorem conv_txt (w : World) (s : ByteArray) (hs : s.size ≤ 9223372036854775807) : ∃ (c : Nat) (W' : World), (convert 9 40 (.string s)).run Tryd.prog w = .ok (.slice (some ⟨w.heap.size, 0, none⟩) s.size c) W' ∧ TxtAt W' (.slice (some ⟨w.heap.size, 0, none⟩) s.size c) (bytesOf s) ∧ Below w.heap.size w W' := by
  refine ⟨_, _, Lib.run_convert_string_bytes w 9 40 5 s Tryd.underlying9 Tryd.underlying40 Tryd.underlying5, ?_, ⟨rfl, rfl, rfl, by rw [Lib.bytesWorld_size]; omega, fun k hk => Lib.bytesWorld_at_old w _ s k hk⟩⟩
  by_cases h0 : s.size = 0
  · refine .inr ⟨List.eq_nil_of_length_eq_zero (by rw [bytesOf_length]; exact h0), _, _, by rw [h0], fun h => by cases h⟩
  · have hg : ∀ k, k < s.size → (bytesOf s).getD k 0 = (s.data.toList.getD k 0).toNat := fun k hk => by
      have hk' : k < s.data.toList.length := by simpa using hk
      simp [bytesOf, List.getD, List.getElem?_eq_getElem, hk, hk']
    refine .inl ⟨_, 0, _, by rw [bytesOf_length], by rw [bytesOf_length]; omega, ⟨fun k hk => ?_, fun k hk => ?_, fun k hk => ?_, by rw [bytesOf_length]; exact hs⟩⟩
    all_goals rw [bytesOf_length] at hk
    · rw [Nat.zero_add, hg k hk]
      exact Lib.bytesWorld_cell w _ s k hk
    · rw [hg k hk]; omega
    · rw [hg k hk]; have := (s.data.toList.getD k 0).toNat_lt; omega
end Rv
end Go.Proofs.YtdfkfcpkejjlnaaDoor
