/- Appends to rows of the call's own, whatever the elements; a region that draws its order, where a row is built from nothing, from another row and from one element more (append(append([]T{}, s...), x)). Conditions: the lengths' bounds. -/
import Derived.Test.YtdfkfcpkejjlnaaDoorMab
import Derived.Test.YtdfkfcpkejjlnaaDoorTxt
import Derived.RangeFuncRecord
import Derived.Maps.AppendAt
import Derived.Laws.OwnMore
import Derived.Laws.MakeOwn
import Derived.OwnWalk
namespace Go.Proofs.YtdfkfcpkejjlnaaDoor
set_option linter.unusedVariables false
open Go Go.RowKit
namespace Ap
/-- an element's type, plainly: its number, zero, cells and bytes -/
structure Elt (P : Program) (T e : TypeId) (size bytes : Nat) : Prop where
  ul : P.underlying T = some (.slice e)
  info : ∃ (i : TypeInfo) (z : Value), P.info? e = some i ∧ i.zero = some z ∧ i.size = size ∧ i.bytes = bytes ∧ z.cells.size = size
  pos : 0 < size
/-- a row that may be read: m elements, their cells -/
structure RdG (w : World) (size : Nat) (v : Value) (m : Nat) (news : List Value) : Prop where
  form : ∃ ad c, v = .slice ad m c ∧ (ad = none → m = 0) ∧ (∀ a, ad = some a → ∀ j u, news[j]? = some u → w.cell? (a.add j) = some u) ∧ (∀ a, ad = some a → 0 < m → a.block < w.heap.size)
  len : news.length = m * size
  one : ∀ u ∈ news, u.oneCell' = true
theorem RdG.mono {w w' : World} {size m : Nat} {v : Value} {news : List Value} (h : RdG w size v m news) (hb : Below w.heap.size w w') : RdG w' size v m news := by
  obtain ⟨ad, c, rfl, h0, h1, h2⟩ := h.form
  refine ⟨⟨ad, c, rfl, h0, fun a ha j u hj => ?_, fun a ha hm => Nat.lt_of_lt_of_le (h2 a ha hm) hb.size⟩, h.len, h.one⟩
  have hm : 0 < m := by
    rcases Nat.eq_zero_or_pos m with e | e
    · have := h.len
      subst e
      rw [Nat.zero_mul] at this
      rw [List.eq_nil_of_length_eq_zero this] at hj
      cases hj
    · exact e
  have hbk := h2 a ha hm
  have hab : (a.add j).block = a.block := by unfold Addr.add; split <;> rfl
  exact (hb.cell (p := a.add j) (by rw [hab]; exact hbk)).trans (h1 a ha j u hj)
theorem own_blk {w : World} {B : Nat} {e : TypeId} {size n : Nat} {v : Value} {xs : List Value} (hown : w.ownsRow B e size v n xs) : ∀ k, v.ownBlock = some k → B ≤ k := fun k hk => by
  rcases hown.2 with ⟨rfl, _⟩ | ⟨g, cap, cur, rfl, hg, _⟩
  · cases hk
  · simp only [Value.ownBlock, Option.some.injEq] at hk; omega
theorem own_lt {w : World} {B : Nat} {e : TypeId} {size n : Nat} {v : Value} {xs : List Value} (hown : w.ownsRow B e size v n xs) : ∀ k, v.ownBlock = some k → k < w.heap.size := fun k hk => by
  rcases hown.2 with ⟨rfl, _⟩ | ⟨g, cap, cur, rfl, hg, hh, _⟩
  · cases hk
  · simp only [Value.ownBlock, Option.some.injEq] at hk; subst hk; exact (Array.getElem?_eq_some_iff.1 hh).1
theorem own_keep {w w' : World} {B : Nat} {e : TypeId} {size n : Nat} {v : Value} {xs : List Value} (hown : w.ownsRow B e size v n xs) (hb : ∀ k, v.ownBlock = some k → w'.heap[k]? = w.heap[k]?) : w'.ownsRow B e size v n xs := by
  refine ⟨hown.1, ?_⟩
  rcases hown.2 with hn | ⟨g, cap, cur, hv, hB, hg, rest⟩
  · exact .inl hn
  · refine .inr ⟨g, cap, cur, hv, hB, ?_, rest⟩
    rw [hb g (by rw [hv]; rfl)]; exact hg
theorem own_below {w w' : World} {B : Nat} {e : TypeId} {size n : Nat} {v : Value} {xs : List Value} (hown : w.ownsRow B e size v n xs) (hb : Below w.heap.size w w') : w'.ownsRow B e size v n xs := own_keep hown fun k hk => hb.block k (own_lt hown k hk)
theorem own_made (w : World) (e : TypeId) {size : Nat} {B : Nat} (hB : B ≤ w.heap.size) : (w.alloc (.cells #[] e)).ownsRow B e size (.slice (some ⟨w.heap.size, 0, none⟩) 0 0) 0 [] :=
  ⟨by simp, .inr ⟨w.heap.size, 0, #[], rfl, hB, World.alloc_heap_new w _, Nat.le_refl _, by unfold maxLen; omega, by simp, by simp⟩⟩
section
variable {P : Program} {w : World} {T e : TypeId} {size bytes : Nat}
theorem append_none (E : Elt P T e size bytes) (ty : TypeId) (v : Value) (n B : Nat) (xs : List Value) (hown : w.ownsRow B e size v n xs) (c : Nat) : (Builtin.append_ #[T, T] ty #[v, .slice none 0 c]).run P w = .ok v w := by
  obtain ⟨i, z, hi, _⟩ := E.info
  rcases hown.2 with ⟨rfl, rfl⟩ | ⟨g, cap, cur, rfl, _, _, hnc, _⟩
  · simp [Builtin.append_, run_underlying E.ul, sizeOf, typeInfo, hi, Builtin.lenOf, Builtin.firstCells]
  · simp [Builtin.append_, run_underlying E.ul, sizeOf, typeInfo, hi, Builtin.lenOf, Builtin.firstCells, hnc, storeCells]
/-- what an append of a row that may be read comes to -/
theorem run_app (E : Elt P T e size bytes) (ty : TypeId) (B : Nat) (v : Value) (n : Nat) (xs : List Value) (hown : w.ownsRow B e size v n xs) (vx : Value) (m : Nat) (news : List Value) (hr : RdG w size vx m news)
    (h63 : n + m ≤ maxLen) (hby : (n + m) * bytes ≤ 140737488355328) (hB : B ≤ w.heap.size) :
    ∃ v' w', (Builtin.append_ #[T, T] ty #[v, vx]).run P w = .ok v' w' ∧ w'.ownsRow B e size v' (n + m) (xs ++ news) ∧ w.grownBy w' v.ownBlock ∧ Below B w w' := by
  obtain ⟨i, z, hi, hz0, hz1, hz2, hz3⟩ := E.info
  obtain ⟨ad, c, rfl, h0, h1, h2⟩ := hr.form
  cases ad with
  | none =>
    have hm := h0 rfl
    subst hm
    have hn : news = [] := List.eq_nil_of_length_eq_zero (by rw [hr.len, Nat.zero_mul])
    subst hn
    refine ⟨v, w, append_none E ty v n B xs hown c, by rw [List.append_nil]; exact hown, ⟨rfl, rfl, rfl, Nat.le_refl _, fun _ _ _ => rfl⟩, Below.refl _ _⟩
  | some a =>
    obtain ⟨v', w', g0, g1, g2, _, _⟩ := run_append_own_at (P := P) w B T ty e i z size bytes E.ul hi hz0 hz1 hz2 hz3 E.pos v n xs hown a m c news hr.len (h1 a rfl) hr.one h63 hby hB
    exact ⟨v', w', g0, g1, g2, Below.grown (Below.refl _ _) g2 hB (own_blk hown)⟩
theorem exec_app {ρ : Operand → Value} {o : Oper} {s x : Operand} {v vx v' : Value} {w' : World} (ho : o.op = .call { callee := .builtin .append, args := #[s, x], argTypes := #[T, T] }) (hs : ρ s = v) (hx : ρ x = vx)
    (h : (Builtin.append_ #[T, T] o.type #[v, vx]).run P w = .ok v' w') : (execOp ρ o).run P w = .ok (.value v') w' := by
  unfold execOp
  simp only [ho, resolve, invoke, builtin, Sem.run_bind, Sem.run_pure, Result.andThen_ok, List.map_toArray, List.map_cons, List.map_nil, hs, hx, h]
end
/-- whatever order is picked: S1 holds behind each operation; S2 as long as number js has not come up -/
def wpAnyK (P : Program) (md : Region.Mode) (ops : Array Oper) (Q : Exit → Act → World → Prop) (S1 S2 : World → Prop) (js : Nat) : Nat → Array Bool → Act → World → Prop
  | 0, listed, a, w => Region.ready md ops listed = [] ∧ Q .normal a w
  | fuel + 1, listed, a, w =>
    (Region.ready md ops listed = [] → Q .normal a w) ∧
    ∀ i ∈ Region.ready md ops listed, wpOp P ops Q i (fun a' w' => (S1 w' ∧ ((listed.setIfInBounds i true).getD js true = false → S2 w')) ∧ wpAnyK P md ops Q S1 S2 js fuel (listed.setIfInBounds i true) a' w') a w
section
variable {P : Program} {ops : Array Oper} {Q : Exit → Act → World → Prop} {md : Region.Mode} {S1 S2 : World → Prop} {js : Nat}
theorem wpAny_of_K : ∀ (fuel : Nat) (listed : Array Bool) (a : Act) (w : World), wpAnyK P md ops Q S1 S2 js fuel listed a w → wpAnyH P md ops Q (fun _ => True) fuel listed a w
  | 0, _, _, _, h => h
  | fuel + 1, _, _, _, h => ⟨h.1, fun i hi => wpOp_mono (fun a' w' h' => ⟨trivial, wpAny_of_K fuel _ a' w' h'.2⟩) (h.2 i hi)⟩
theorem wpAnyK_first {i : Nat} {oi : Oper} {v : Value} (T : World → Prop) (hi : ops[i]? = some oi) (hsel : ∀ (j : Nat) (o : Oper) cs b, ops[j]? = some o → o.op ≠ .select cs b)
    (hQ : ∀ c a w, Q (.panic c) (a.put oi.dst v) w → Q (.panic c) a w) (hij : i ≠ js)
    (hT : (∀ w, S1 w → T w) ∨ ((∀ w, S1 w → S2 w → T w) ∧ ∃ ojs, ops[js]? = some ojs ∧ ∃ e ∈ ojs.after, Region.binds md e = true ∧ e.on = i)) :
    ∀ (fuel : Nat) (listed : Array Bool) (a : Act) (w : World),
      (∀ j oj, ops[j]? = some oj → j ≠ i → listed.getD j true = false → (∀ e ∈ oj.after, Region.binds md e = true → e.on ≠ i) → oi.apart ops oj = true) →
      i ∈ Region.ready md ops listed → YieldsIf P ops T oi v a → (S1 w ∧ (listed.getD js true = false → S2 w)) → (listed.getD js true = false ∨ ∀ w, S1 w → T w) →
      wpAnyK P md ops Q S1 S2 js fuel (listed.setIfInBounds i true) (a.put oi.dst v) w → wpAnyK P md ops Q S1 S2 js (fuel + 1) listed a w := by
  have useT : ∀ (listed : Array Bool) w, (S1 w ∧ (listed.getD js true = false → S2 w)) → (listed.getD js true = false ∨ ∀ w, S1 w → T w) → T w := fun listed w hS hu => by
    rcases hu with hu | hu
    · rcases hT with h | ⟨h, _⟩
      · exact h w hS.1
      · exact h w hS.1 (hS.2 hu)
    · exact hu w hS.1
  intro fuel
  induction fuel with
  | zero =>
    intro listed a w _ hr hy hS hu H
    refine ⟨fun h => (by rw [h] at hr; cases hr), fun j hj => ?_⟩
    by_cases hji : j = i
    · subst hji
      refine hy.wpOp hi (useT listed w hS hu) ⟨⟨hS.1, fun h => hS.2 ?_⟩, H⟩
      rw [getD_set_ne true hij] at h; exact h
    · have := ready_mono hj hji
      rw [H.1] at this
      cases this
  | succ fuel ih =>
    intro listed a w hfree hr hy hS hu H
    refine ⟨fun h => (by rw [h] at hr; cases hr), fun j hj => ?_⟩
    by_cases hji : j = i
    · subst hji
      refine hy.wpOp hi (useT listed w hS hu) ⟨⟨hS.1, fun h => hS.2 ?_⟩, H⟩
      rw [getD_set_ne true hij] at h; exact h
    · have h1 := H.2 j (ready_mono hj hji)
      obtain ⟨hjun, oj, hoj, hall⟩ := mem_ready.1 hj
      have hnot : ∀ e ∈ oj.after, Region.binds md e = true → e.on ≠ i := fun e he hb heq => by
        have h1 := hall e he hb
        have h0 := (mem_ready.1 hr).1
        rw [heq] at h1
        rcases Nat.lt_or_ge i listed.size with h' | h'
        · simp [h'] at h0 h1; rw [h0] at h1; cases h1
        · simp [Array.getElem?_eq_none h'] at h1
      have h2 := wpOp_putIf hoj (hfree j oj hoj hji hjun hnot) (fun cs b => hsel i oi cs b hi) (fun cs b => hsel j oj cs b hoj) hQ hy h1
      have hfree' : ∀ k ok, ops[k]? = some ok → k ≠ i → (listed.setIfInBounds j true).getD k true = false →
          (∀ e ∈ ok.after, Region.binds md e = true → e.on ≠ i) → oi.apart ops ok = true := fun k ok hk hki hun hno => by
        refine hfree k ok hk hki ?_ hno
        by_cases hjk : j = k
        · subst hjk; exact hjun
        · rw [getD_set_ne true hjk] at hun; exact hun
      have hu' : (listed.setIfInBounds j true).getD js true = false ∨ ∀ w, S1 w → T w := by
        rcases hT with h | ⟨_, ojs, hjs, e, he, hb, hei⟩
        · exact .inr h
        · rcases hu with hu | hu
          · refine .inl ?_
            have hjjs : j ≠ js := by
              rintro rfl
              rw [hoj] at hjs
              cases hjs
              exact hnot e he hb hei
            rw [getD_set_ne true hjjs]; exact hu
          · exact .inr hu
      have hget : ∀ l : Array Bool, (l.setIfInBounds i true).getD js true = l.getD js true := fun l => getD_set_ne true hij
      refine wpOp_mono (fun a' w' h3 => ?_) h2
      have hS' : S1 w' ∧ ((listed.setIfInBounds j true).getD js true = false → S2 w') := ⟨h3.2.1.1, fun h => h3.2.1.2 (by rw [Array.setIfInBounds_comm _ _ (Ne.symm hji), hget]; exact h)⟩
      refine ⟨hS', ih (listed.setIfInBounds j true) a' w' hfree' (ready_mono hr (Ne.symm hji)) h3.1 hS' hu' ?_⟩
      rw [Array.setIfInBounds_comm _ _ hji]
      exact h3.2.2
/-- number i is taken first: it yields v wherever S1 holds -/
theorem wpAnyK_take1 {i : Nat} {oi : Oper} {v : Value} {fuel : Nat} {listed : Array Bool} {a : Act} {w : World} (hi : ops[i]? = some oi) (hij : i ≠ js)
    (hs : Region.noSelect ops = true) (hf : Region.free md ops listed i = true) (hr : (Region.ready md ops listed).contains i = true)
    (hQ : ∀ c a w, Q (.panic c) (a.put oi.dst v) w → Q (.panic c) a w) (hy : YieldsIf P ops S1 oi v a) (hS : S1 w ∧ S2 w)
    (h : wpAnyK P md ops Q S1 S2 js fuel (listed.setIfInBounds i true) (a.put oi.dst v) w) : wpAnyK P md ops Q S1 S2 js (fuel + 1) listed a w :=
  wpAnyK_first S1 hi (Region.noSelect_spec hs) hQ hij (.inl fun _ h => h) fuel listed a w (Region.free_spec hi hf) (by simpa using hr) hy ⟨hS.1, fun _ => hS.2⟩ (.inr fun _ h => h) h
/-- number i is taken first: it yields v wherever S1 and S2 hold, and number js waits for it -/
theorem wpAnyK_take2 {i : Nat} {oi ojs : Oper} {v : Value} {fuel : Nat} {listed : Array Bool} {a : Act} {w : World} (hi : ops[i]? = some oi) (hij : i ≠ js)
    (hs : Region.noSelect ops = true) (hf : Region.free md ops listed i = true) (hr : (Region.ready md ops listed).contains i = true)
    (hjs : ops[js]? = some ojs) (hed : ojs.after.any (fun e => Region.binds md e && e.on == i) = true) (hun : listed.getD js true = false)
    (hQ : ∀ c a w, Q (.panic c) (a.put oi.dst v) w → Q (.panic c) a w) (hy : YieldsIf P ops (fun w => S1 w ∧ S2 w) oi v a) (hS : S1 w ∧ S2 w)
    (h : wpAnyK P md ops Q S1 S2 js fuel (listed.setIfInBounds i true) (a.put oi.dst v) w) : wpAnyK P md ops Q S1 S2 js (fuel + 1) listed a w := by
  refine wpAnyK_first (fun w => S1 w ∧ S2 w) hi (Region.noSelect_spec hs) hQ hij (.inr ⟨fun _ h1 h2 => ⟨h1, h2⟩, ojs, hjs, ?_⟩) fuel listed a w (Region.free_spec hi hf) (by simpa using hr) hy ⟨hS.1, fun _ => hS.2⟩ (.inl hun) h
  obtain ⟨k, hk, hb⟩ := Array.any_eq_true.1 hed
  simp only [Bool.and_eq_true, beq_iff_eq] at hb
  exact ⟨_, Array.getElem_mem hk, hb.1, hb.2⟩
theorem wpAnyK_all {rs : List Nat} {fuel : Nat} {listed : Array Bool} {a : Act} {w : World} (hr : Region.ready md ops listed = rs) (hne : rs ≠ [])
    (h : ∀ i ∈ rs, wpOp P ops Q i (fun a' w' => (S1 w' ∧ ((listed.setIfInBounds i true).getD js true = false → S2 w')) ∧ wpAnyK P md ops Q S1 S2 js fuel (listed.setIfInBounds i true) a' w') a w) : wpAnyK P md ops Q S1 S2 js (fuel + 1) listed a w :=
  ⟨fun h0 => absurd (hr ▸ h0) hne, hr ▸ h⟩
theorem wpAnyK_done {listed : Array Bool} {a : Act} {w : World} (hr : Region.ready md ops listed = []) (h : Q .normal a w) : ∀ fuel, wpAnyK P md ops Q S1 S2 js fuel listed a w
  | 0 => ⟨hr, h⟩
  | _ + 1 => ⟨fun _ => h, by rw [hr]; simp⟩
theorem wp_region_K {id : Nat} {a : Act} {w : World} (hm : P.follows .mixedOrders = true) (h : wpAnyK P .any ops Q S1 S2 js ops.size (Array.replicate ops.size false) a w.drew) : (Code.region id ops true).wp P Q a w :=
  wp_region_held (S := fun _ => True) hm (wpAny_of_K _ _ _ _ h)
/-- the last store -/
theorem anyK_store {fuel : Nat} {listed : Array Bool} {a : Act} {w : World} {i : Nat} {oi : Oper} {w' : World} (hr : Region.ready md ops listed = [i]) (hi : ops[i]? = some oi) (hg : oi.guard = none) (hjs : (listed.setIfInBounds i true).getD js true = true)
    (h : (execOp a.eval oi).run P w = .ok .skip w') (hS : S1 w') (hR : wpAnyK P md ops Q S1 S2 js fuel (listed.setIfInBounds i true) (a.put oi.dst undef) w') :
    wpAnyK P md ops Q S1 S2 js (fuel + 1) listed a w := by
  refine wpAnyK_all hr (by simp) fun k hk => ?_
  obtain rfl : k = i := by simpa using hk
  unfold wpOp
  simp only [hi, Region.wanted, hg, if_true]
  refine .inl ?_
  unfold Oper.wp
  rw [h]
  exact ⟨⟨hS, fun h => by rw [hjs] at h; cases h⟩, hR⟩
/-- a call that alone may come up -/
theorem anyK_call {fuel : Nat} {listed : Array Bool} {a : Act} {w : World} {i : Nat} {oi : Oper} {f : FuncId} {args : Array Value} {R : Ending → World → Prop} (hr : Region.ready md ops listed = [i]) (hi : ops[i]? = some oi) (hg : oi.guard = none)
    (h : (execOp a.eval oi).run P w = .ok (.enter f args) w) (hc : Calls P f args w R) (hR : ∀ e w', R e w' → ∃ v, e = .returned v ∧ (S1 w' ∧ ((listed.setIfInBounds i true).getD js true = false → S2 w')) ∧ wpAnyK P md ops Q S1 S2 js fuel (listed.setIfInBounds i true) (a.put oi.dst v) w') :
    wpAnyK P md ops Q S1 S2 js (fuel + 1) listed a w := by
  refine wpAnyK_all hr (by simp) fun k hk => ?_
  obtain rfl : k = i := by simpa using hk
  unfold wpOp
  simp only [hi, Region.wanted, hg, if_true]
  refine .inl ?_
  unfold Oper.wp
  rw [h]
  exact hc.mono fun e w' hRe => by
    obtain ⟨v, rfl, h⟩ := hR e w' hRe
    exact h
end
section
variable {P : Program} {ops : Array Oper} {Q : Exit → Act → World → Prop} {md : Region.Mode} {S1 S2 : World → Prop} {js : Nat} {fuel : Nat} {listed : Array Bool} {a : Act} {w : World}
theorem anyK_val {i : Nat} {oi : Oper} {v : Value} {w' : World} (hi : ops[i]? = some oi) (hw : Region.wanted oi (yielded ops a.tmps) = true) (h : (execOp a.eval oi).run P w = .ok (.value v) w') (hS : S1 w' ∧ S2 w')
    (hR : wpAnyK P md ops Q S1 S2 js fuel (listed.setIfInBounds i true) (a.put oi.dst v) w') : wpOp P ops Q i (fun a' w' => (S1 w' ∧ ((listed.setIfInBounds i true).getD js true = false → S2 w')) ∧ wpAnyK P md ops Q S1 S2 js fuel (listed.setIfInBounds i true) a' w') a w := by
  unfold wpOp
  simp only [hi, hw, if_true]
  refine .inl ?_
  unfold Oper.wp
  rw [h]
  exact ⟨⟨hS.1, fun _ => hS.2⟩, hR⟩
theorem anyK_val1 {i : Nat} {oi : Oper} {v : Value} {w' : World} (hr : Region.ready md ops listed = [i]) (hi : ops[i]? = some oi) (hw : Region.wanted oi (yielded ops a.tmps) = true) (h : (execOp a.eval oi).run P w = .ok (.value v) w') (hS : S1 w' ∧ S2 w')
    (hR : wpAnyK P md ops Q S1 S2 js fuel (listed.setIfInBounds i true) (a.put oi.dst v) w') : wpAnyK P md ops Q S1 S2 js (fuel + 1) listed a w := by
  refine wpAnyK_all hr (by simp) fun k hk => ?_
  obtain rfl : k = i := by simpa using hk
  exact anyK_val hi hw h hS hR
theorem put_comm (a : Act) {s t : Tmp} (h : s ≠ t) (u v : Value) : (a.put (some s) u).put (some t) v = (a.put (some t) v).put (some s) u := by
  simp only [Act.put]
  rw [Array.setIfInBounds_comm _ _ h]
/-- a row of the call's own, built in a region that draws: from nothing (j0), from a row (j1), and by one element more, which lies in a row of its own by then (j2), appended (j3) -/
theorem anyK_app2 {j0 j1 j2 j3 : Nat} {o0 o1 o2 o3 : Oper} {T e : TypeId} {size bytes : Nat} {d0 d1 d2 d3 : Tmp} {s : Operand} {cs : Array Value} (E : Elt P T e size bytes) (B : Nat)
    (hr0 : Region.ready md ops listed = [j0, j2] ∨ Region.ready md ops listed = [j2, j0])
    (hr1 : Region.ready md ops (listed.setIfInBounds j0 true) = [j1, j2] ∨ Region.ready md ops (listed.setIfInBounds j0 true) = [j2, j1])
    (hr2 : Region.ready md ops (listed.setIfInBounds j2 true) = [j0])
    (hr01 : Region.ready md ops ((listed.setIfInBounds j0 true).setIfInBounds j1 true) = [j2])
    (hr02 : Region.ready md ops ((listed.setIfInBounds j0 true).setIfInBounds j2 true) = [j1])
    (hr3 : Region.ready md ops (((listed.setIfInBounds j0 true).setIfInBounds j1 true).setIfInBounds j2 true) = [j3])
    (hne : j0 ≠ j1 ∧ j0 ≠ j2 ∧ j1 ≠ j2)
    (h0 : ops[j0]? = some o0) (h1 : ops[j1]? = some o1) (h2 : ops[j2]? = some o2) (h3 : ops[j3]? = some o3)
    (hd : o0.dst = some d0 ∧ o1.dst = some d1 ∧ o2.dst = some d2 ∧ o3.dst = some d3) (hdn : d0 ≠ d1 ∧ d0 ≠ d2 ∧ d1 ≠ d2)
    (hg : o0.guard = none ∧ o1.guard = none ∧ o2.guard = none ∧ o3.guard = none)
    (x1 : o1.op = .call { callee := .builtin .append, args := #[.tmp d0, s], argTypes := #[T, T] }) (x3 : o3.op = .call { callee := .builtin .append, args := #[.tmp d1, .tmp d2], argTypes := #[T, T] })
    (hsz : d0 < a.tmps.size ∧ d1 < a.tmps.size ∧ d2 < a.tmps.size)
    (he0 : ∀ (a' : Act) W, (execOp a'.eval o0).run P W = .ok (.value (.slice (some ⟨W.heap.size, 0, none⟩) 0 0)) (W.alloc (.cells #[] e)))
    (vs : Value) (m : Nat) (news : List Value) (hs : ∀ u0 u2, ((a.put (some d0) u0).eval s = vs ∧ ((a.put (some d2) u2).put (some d0) u0).eval s = vs))
    (hrd : RdG w size vs m news)
    (he2 : ∀ u0 u1 W, ((execOp a.eval o2).run P W = .ok (.value (.slice (some ⟨W.heap.size, 0, none⟩) 1 1)) (W.alloc (.cells cs e))) ∧ ((execOp (a.put (some d0) u0).eval o2).run P W = .ok (.value (.slice (some ⟨W.heap.size, 0, none⟩) 1 1)) (W.alloc (.cells cs e))) ∧ ((execOp ((a.put (some d0) u0).put (some d1) u1).eval o2).run P W = .ok (.value (.slice (some ⟨W.heap.size, 0, none⟩) 1 1)) (W.alloc (.cells cs e))))
    (hcs : cs.size = size) (hone : ∀ u ∈ cs.toList, u.oneCell' = true) (hlen : m + 1 ≤ maxLen) (hby : (m + 1) * bytes ≤ 140737488355328) (hB : B ≤ w.heap.size)
    (hS : ∀ W, Below B w W → S1 W ∧ S2 W)
    (h : ∀ u0 u1 u2 v W, W.ownsRow B e size v (m + 1) (news ++ cs.toList) → Below B w W → wpAnyK P md ops Q S1 S2 js fuel ((((listed.setIfInBounds j0 true).setIfInBounds j1 true).setIfInBounds j2 true).setIfInBounds j3 true) ((((a.put (some d0) u0).put (some d1) u1).put (some d2) u2).put (some d3) v) W) :
    wpAnyK P md ops Q S1 S2 js (fuel + 4) listed a w := by
  obtain ⟨hd0, hd1, hd2, hd3⟩ := hd
  obtain ⟨hg0, hg1, hg2, hg3⟩ := hg
  have wanted : ∀ {o : Oper} {y : Nat → Option Bool}, o.guard = none → Region.wanted o y = true := fun hg => by simp only [Region.wanted, hg]
  have len0 : ∀ W : World, ∀ o, (W.alloc o).heap.size = W.heap.size + 1 := fun W o => by simp
  -- what the last append comes to, from any world where both rows stand
  have last : ∀ u0 u1 u2 W, W.ownsRow B e size u1 m news → RdG W size u2 1 cs.toList → Below B w W →
      wpAnyK P md ops Q S1 S2 js (fuel + 1) (((listed.setIfInBounds j0 true).setIfInBounds j1 true).setIfInBounds j2 true) (((a.put (some d0) u0).put (some d1) u1).put (some d2) u2) W := by
    intro u0 u1 u2 W ho hr hb
    obtain ⟨v', W', hrun, hown, _, hbel⟩ := run_app (P := P) E o3.type B u1 m news ho u2 1 cs.toList hr hlen hby (Nat.le_trans hB hb.size)
    refine anyK_val1 hr3 h3 (wanted hg3) (v := v') (w' := W') (exec_app x3 ?_ ?_ hrun) (hS _ (Below.trans hb hbel)) ?_
    · have : d2 ≠ d1 := fun h => hdn.2.2 h.symm
      simp [Act.put, Act.eval, Array.getElem?_setIfInBounds, this, hsz]
    · simp [Act.put, Act.eval, Array.getElem?_setIfInBounds, hsz]
    · rw [hd3]; exact h u0 u1 u2 v' W' hown (Below.trans hb hbel)
  have rd2 : ∀ W : World, RdG (W.alloc (.cells cs e)) size (.slice (some ⟨W.heap.size, 0, none⟩) 1 1) 1 cs.toList := fun W =>
    ⟨⟨_, 1, rfl, (fun h => by cases h), (fun a ha j u hj => by
        cases ha
        have hadd : (⟨W.heap.size, 0, none⟩ : Addr).add j = ⟨W.heap.size, j, none⟩ := by unfold Addr.add; split <;> simp_all
        rw [hadd]
        refine cell_of_block (World.alloc_heap_new W _) ?_
        simpa using hj), (fun a ha _ => by cases ha; simp)⟩, by simp [hcs], hone⟩
  have al : ∀ W : World, ∀ o, Below B w W → Below B w (W.alloc o) := fun W o hb => Below.trans hb (Below.mono (below_alloc (Below.refl _ W) o) (Nat.le_trans hB hb.size))
  have base0 : ∀ W, Below B w W → B ≤ W.heap.size := fun W hb => Nat.le_trans hB hb.size
  -- the first append, from any world where the empty row stands
  have mid : ∀ W : World, ∀ o, Below B w W → RdG W size vs m news → ∃ v' W', (Builtin.append_ #[T, T] o #[.slice (some ⟨W.heap.size, 0, none⟩) 0 0, vs]).run P (W.alloc (.cells #[] e)) = .ok v' W' ∧ W'.ownsRow B e size v' m news ∧ Below B w W' := fun W o hb hr => by
    obtain ⟨v', W', hrun, hown, _, hbel⟩ := run_app (P := P) E o B _ 0 [] (own_made W e (size := size) (base0 W hb)) vs m news (hr.mono (below_alloc (Below.refl _ W) _)) (by omega) (by rw [Nat.add_mul] at hby; rw [Nat.zero_add]; omega) (base0 _ (al W _ hb))
    rw [Nat.zero_add, List.nil_append] at hown
    exact ⟨v', W', hrun, hown, Below.trans (al W _ hb) hbel⟩
  have bel0 : Below B w w := Below.refl _ _
  have split2 : ∀ {i j : Nat} {l : Array Bool} {f : Nat} {a' : Act} {W : World}, (Region.ready md ops l = [i, j] ∨ Region.ready md ops l = [j, i]) →
      wpOp P ops Q i (fun a' w' => (S1 w' ∧ ((l.setIfInBounds i true).getD js true = false → S2 w')) ∧ wpAnyK P md ops Q S1 S2 js f (l.setIfInBounds i true) a' w') a' W → wpOp P ops Q j (fun a' w' => (S1 w' ∧ ((l.setIfInBounds j true).getD js true = false → S2 w')) ∧ wpAnyK P md ops Q S1 S2 js f (l.setIfInBounds j true) a' w') a' W → wpAnyK P md ops Q S1 S2 js (f + 1) l a' W := by
    intro i j l f a' W hr hi hj
    rcases hr with hr | hr
    · refine wpAnyK_all hr (by simp) fun k hk => ?_
      rcases List.mem_cons.1 hk with rfl | hk
      · exact hi
      · rcases List.mem_cons.1 hk with rfl | hk
        · exact hj
        · cases hk
    · refine wpAnyK_all hr (by simp) fun k hk => ?_
      rcases List.mem_cons.1 hk with rfl | hk
      · exact hj
      · rcases List.mem_cons.1 hk with rfl | hk
        · exact hi
        · cases hk
  have comm02 : (listed.setIfInBounds j2 true).setIfInBounds j0 true = (listed.setIfInBounds j0 true).setIfInBounds j2 true := Array.setIfInBounds_comm _ _ (fun h => hne.2.1 h.symm)
  have comm12 : ((listed.setIfInBounds j0 true).setIfInBounds j2 true).setIfInBounds j1 true = ((listed.setIfInBounds j0 true).setIfInBounds j1 true).setIfInBounds j2 true := Array.setIfInBounds_comm _ _ (fun h => hne.2.2 h.symm)
  refine split2 hr0 ?_ ?_
  · -- j0 first
    refine anyK_val h0 (wanted hg0) (he0 a w) (hS _ (al w _ bel0)) ?_
    rw [hd0]
    refine split2 hr1 ?_ ?_
    · -- then j1
      obtain ⟨v1, W1, hrun, hown, hb1⟩ := mid w o1.type bel0 hrd
      refine anyK_val h1 (wanted hg1) (v := v1) (w' := W1) (exec_app x1 (by simp [Act.put, Act.eval, Array.getElem?_setIfInBounds, hsz]) (hs _ undef).1 hrun) (hS _ hb1) ?_
      rw [hd1]
      refine anyK_val1 hr01 h2 (wanted hg2) (he2 _ _ W1).2.2 (hS _ (al W1 _ hb1)) ?_
      rw [hd2]
      exact last _ _ _ _ (own_below hown (below_alloc (Below.refl _ W1) _)) (rd2 W1) (al W1 _ hb1)
    · -- then j2
      refine anyK_val h2 (wanted hg2) (he2 _ undef _).2.1 (hS _ (al _ _ (al w _ bel0))) ?_
      rw [hd2]
      have hr' := (hrd.mono (below_alloc (Below.refl _ w) (.cells #[] e))).mono (below_alloc (Below.refl _ (w.alloc (.cells #[] e))) (.cells cs e))
      have hrow := own_below (own_made w e (size := size) hB) (below_alloc (Below.refl _ (w.alloc (.cells #[] e))) (.cells cs e))
      obtain ⟨v1, W1, hrun, hown, hgr, hbel⟩ := run_app (P := P) E o1.type B _ 0 [] hrow vs m news hr' (by omega) (by rw [Nat.add_mul] at hby; rw [Nat.zero_add]; omega) (base0 _ (al _ _ (al w _ bel0)))
      rw [Nat.zero_add, List.nil_append] at hown
      have hb1 : Below B w W1 := Below.trans (al _ _ (al w _ bel0)) hbel
      refine anyK_val1 hr02 h1 (wanted hg1) (v := v1) (w' := W1) (exec_app x1 ?_ ?_ hrun) (hS _ hb1) ?_
      · have : d2 ≠ d0 := fun h => hdn.2.1 h.symm
        simp [Act.put, Act.eval, Array.getElem?_setIfInBounds, this, hsz]
      · rw [put_comm a hdn.2.1]; exact (hs _ _).2
      · rw [hd1, comm12, put_comm _ (fun h => hdn.2.2 h.symm)]
        refine last _ _ _ _ hown ?_ hb1
        have hk : W1.heap[(w.alloc (.cells #[] e)).heap.size]? = ((w.alloc (.cells #[] e)).alloc (.cells cs e)).heap[(w.alloc (.cells #[] e)).heap.size]? := hgr.block _ (by simp) (by
          intro h; have h' : (w.alloc (.cells #[] e)).heap.size = w.heap.size := Option.some.inj h; simp at h')
        obtain ⟨q1, q2, q3⟩ := rd2 (w.alloc (.cells #[] e))
        obtain ⟨ad, c, q4, q5, q6, q7⟩ := q1
        refine ⟨⟨ad, c, q4, q5, fun a ha j u hj => ?_, fun a ha hm => Nat.lt_of_lt_of_le (q7 a ha hm) hgr.size⟩, q2, q3⟩
        have := q6 a ha j u hj
        cases q4
        cases ha
        have hadd : (⟨(w.alloc (.cells #[] e)).heap.size, 0, none⟩ : Addr).add j = ⟨(w.alloc (.cells #[] e)).heap.size, j, none⟩ := by unfold Addr.add; split <;> simp_all
        rw [hadd] at this ⊢
        unfold World.cell? at this ⊢
        simp only [hk]
        exact this
  · -- j2 first
    refine anyK_val h2 (wanted hg2) (he2 undef undef w).1 (hS _ (al w _ bel0)) ?_
    rw [hd2]
    refine anyK_val1 hr2 h0 (wanted hg0) (he0 _ _) (hS _ (al _ _ (al w _ bel0))) ?_
    rw [hd0, comm02, put_comm a (fun h => hdn.2.1 h.symm)]
    have hr' := hrd.mono (below_alloc (Below.refl _ w) (.cells cs e))
    have hr'' := hr'.mono (below_alloc (Below.refl _ (w.alloc (.cells cs e))) (.cells #[] e))
    have hb2 := al w (.cells cs e) bel0
    obtain ⟨v1, W1, hrun, hown, hgr, hbel⟩ := run_app (P := P) E o1.type B _ 0 [] (own_made (w.alloc (.cells cs e)) e (size := size) (base0 _ hb2)) vs m news hr'' (by omega) (by rw [Nat.add_mul] at hby; rw [Nat.zero_add]; omega) (base0 _ (al _ _ hb2))
    rw [Nat.zero_add, List.nil_append] at hown
    have hb1 : Below B w W1 := Below.trans (al _ _ hb2) hbel
    refine anyK_val1 hr02 h1 (wanted hg1) (v := v1) (w' := W1) (exec_app x1 ?_ ?_ hrun) (hS _ hb1) ?_
    · have : d2 ≠ d0 := fun h => hdn.2.1 h.symm
      simp [Act.put, Act.eval, Array.getElem?_setIfInBounds, this, hsz]
    · rw [put_comm a hdn.2.1]; exact (hs _ _).2
    · rw [hd1, comm12, put_comm _ (fun h => hdn.2.2 h.symm)]
      refine last _ _ _ _ hown ?_ hb1
      have hk : W1.heap[w.heap.size]? = ((w.alloc (.cells cs e)).alloc (.cells #[] e)).heap[w.heap.size]? := hgr.block _ (by simp; omega) (by
        intro h; have h' : w.heap.size = (w.alloc (.cells cs e)).heap.size := Option.some.inj h; simp at h')
      have hq := (rd2 w).mono (below_alloc (Below.refl _ (w.alloc (.cells cs e))) (.cells #[] e))
      obtain ⟨q1, q2, q3⟩ := hq
      obtain ⟨ad, c, q4, q5, q6, q7⟩ := q1
      refine ⟨⟨ad, c, q4, q5, fun a ha j u hj => ?_, fun a ha hm => Nat.lt_of_lt_of_le (q7 a ha hm) hgr.size⟩, q2, q3⟩
      have := q6 a ha j u hj
      cases q4
      cases ha
      have hadd : (⟨w.heap.size, 0, none⟩ : Addr).add j = ⟨w.heap.size, j, none⟩ := by unfold Addr.add; split <;> simp_all
      rw [hadd] at this ⊢
      unfold World.cell? at this ⊢
      simp only [hk]
      exact this
end
end Ap
end Go.Proofs.YtdfkfcpkejjlnaaDoor
