/- Laws that belong together: A struct or an array of any number of cells, stored and loaded whole: the world behind a store is any world in which that block alone was written. No condition but the type's size, by computation.; A whole struct or array loaded in a region told by relations. No condition but the type's size, by computation.; A region that draws its order where calls and stores wait for one another: each of them carried out where it alone may come up (beside wpAnyH_take of the kit). No condition.; A region that draws its order: calls, blocks that are laid and stores that wait for one another, each carried out where it, or one of two, may come up; a store of a whole struct; the results of a struct beside two plain values. No condition.; Operations of a plain region behind a guard that says yes. No condition.; A region's operations behind a guard that is not decided: the way with them and the way without them meet again. No condition. -/
import Derived.Test.YtdfkfcpkejjlnaaDoorMaa
import Derived.Deep.MidRow
import Derived.Laws.StructEq
import Derived.OrdersHeld
import Derived.BigFrame
namespace Go.Proofs.YtdfkfcpkejjlnaaDoor
set_option linter.unusedVariables false
open Go Go.RowKit
/-- the cells, from one place on, made anew -/
def setAll : Array Value → Nat → List Value → Array Value
  | cs, _, [] => cs
  | cs, o, v :: l => setAll (cs.setIfInBounds o v) (o + 1) l
theorem setAll_get : ∀ (l : List Value) (cs : Array Value) (o i : Nat), (setAll cs o l)[i]? = if o ≤ i ∧ i < o + l.length ∧ i < cs.size then l[i - o]? else cs[i]?
  | [], cs, o, i => by simp [setAll]; omega
  | v :: l, cs, o, i => by
    rw [setAll, setAll_get l]
    by_cases h1 : o + 1 ≤ i ∧ i < o + 1 + l.length ∧ i < cs.size
    · rw [if_pos (by simpa using h1), if_pos (by simp; omega), show i - o = (i - (o + 1)) + 1 by omega, List.getElem?_cons_succ]
    · rw [if_neg (by simpa using h1)]
      by_cases h2 : o = i
      · subst h2
        by_cases h3 : o < cs.size
        · rw [if_pos (by simp; omega)]
          simp [h3]
        · rw [if_neg (by omega)]
          simp [h3]
      · rw [if_neg (by simp; omega), Array.getElem?_setIfInBounds_ne h2]
theorem setAll_full {l : List Value} {cs : Array Value} (h : l.length = cs.size) : setAll cs 0 l = l.toArray := by
  apply Array.ext_getElem?
  intro i
  rw [setAll_get]
  by_cases hi : i < cs.size
  · rw [if_pos ⟨Nat.zero_le _, by omega, hi⟩]; simp
  · rw [if_neg (by omega), Array.getElem?_eq_none (by omega), Array.getElem?_eq_none (by simp; omega)]
theorem WroteTo.sets {b : Nat} {T : TypeId} : ∀ (l : List Value) (o : Nat) {w0 w : World} {cs : Array Value}, WroteTo b T cs w0 w → WroteTo b T (setAll cs o l) w0 (w.setCells b o l)
  | [], _, _, _, _, h => h
  | v :: l, o, _, _, _, h => WroteTo.sets l (o + 1) (h.set o v)
theorem wrote_all {w : World} {b : Nat} {T : TypeId} {cs : Array Value} {l : List Value} (h : w.heap[b]? = some (.cells cs T (0, 0))) (hl : l.length = cs.size) : WroteTo b T l.toArray w (w.setCells b 0 l) := by
  have := WroteTo.sets l 0 (wrote_refl h)
  rwa [setAll_full hl] at this
theorem range_of_block {w : World} {b : Nat} {T : TypeId} {l : List Value} (h : w.heap[b]? = some (.cells l.toArray T (0, 0))) : w.rangeAt b 0 l := fun j v hv => by
  rw [Nat.zero_add]
  exact cell_of_block h (by simpa using hv)
theorem there_of_block {w : World} {b n : Nat} {T : TypeId} {cs : Array Value} (h : w.heap[b]? = some (.cells cs T (0, 0))) (hn : n ≤ cs.size) : w.there b 0 n := fun j hj => by
  rw [Nat.zero_add]
  exact ⟨by rw [cell_of_block h (Array.getElem?_eq_getElem (by omega))]; rfl, free_of_block j h⟩
theorem WroteTo.below {w0 w w' : World} {b n : Nat} {T : TypeId} {c : Array Value} (h : WroteTo b T c w w') (hb : Below n w0 w) (hn : n ≤ b) : Below n w0 w' :=
  ⟨h.os.trans hb.os, h.tape.trans hb.tape, h.output.trans hb.output, by rw [h.size]; exact hb.size, fun k hk => (h.rest k (by omega)).trans (hb.block k hk)⟩
section
variable {P : Program} {ops : Array Oper} {rest : List Oper} {o : Oper} {a : Act} {w : World} {Q : Exit → Act → World → Prop}
/-- an operation of a plain region that yields a value -/
theorem wpList_yield {w' : World} {v : Value} (hgd : o.guard = none) (h : (execOp a.eval o).run P w = .ok (.value v) w') (hr : wpList P ops Q rest (a.put o.dst v) w') : wpList P ops Q (o :: rest) a w :=
  wpList_plain hgd fun K hK => by
    unfold Oper.wp
    rw [h]
    exact hK _ _ hr
/-- a call in a plain region -/
theorem wpList_enter {f : FuncId} {args : Array Value} {R : Ending → World → Prop} (hgd : o.guard = none) (h : (execOp a.eval o).run P w = .ok (.enter f args) w) (hc : Calls P f args w R) (hr : ∀ e w', R e w' → ∃ v, e = .returned v ∧ wpList P ops Q rest (a.put o.dst v) w') : wpList P ops Q (o :: rest) a w :=
  wpList_plain hgd fun K hK => by
    unfold Oper.wp
    rw [h]
    exact hc.mono fun e w' hR => by
      obtain ⟨v, rfl, h⟩ := hr e w' hR
      exact hK _ _ h
theorem wpList_store_all (hgd : o.guard = none) (ty : TypeId) (x y : Operand) (ho : o.op = .store ty x y) (b : Nat) {T : TypeId} {cs : Array Value} (l : List Value) (hx : a.eval x = .pointer (some ⟨b, 0, none⟩)) (hy : a.eval y = .agg l.toArray)
    (hb : w.heap[b]? = some (.cells cs T (0, 0))) (hl : l.length = cs.size) (hi : (P.info? ty).map (·.size) = some l.length) (h1 : l.all (·.oneCell') = true)
    (h : ∀ w', WroteTo b T l.toArray w w' → wpList P ops Q rest (a.put o.dst undef) w') : wpList P ops Q (o :: rest) a w :=
  wpList_store_mid hgd ty x y ho b 0 l.toArray hx hy (there_of_block hb (by simp; omega)) (by simpa using hi) (by simpa using h1) (h _ (wrote_all hb hl))
theorem wpList_load_all (hgd : o.guard = none) (ty : TypeId) (x : Operand) (ho : o.op = .load ty x) (b : Nat) {T : TypeId} (l : List Value) (d : TypeDesc) (hx : a.eval x = .pointer (some ⟨b, 0, none⟩))
    (hb : w.heap[b]? = some (.cells l.toArray T (0, 0))) (hu : P.underlying ty = some d) (hd : d.isRow = true) (hi : (P.info? ty).map (·.size) = some l.length)
    (h : wpList P ops Q rest (a.put o.dst (.agg l.toArray)) w) : wpList P ops Q (o :: rest) a w :=
  wpList_load_mid hgd ty x ho b 0 hx l d (range_of_block hb) hu hd hi h
/-- a struct and a plain value -/
theorem results_all2 {fn : Func} {p q : Tmp} {ty T : TypeId} {tmps : Array Value} {b : Nat} (l : List Value) (d : TypeDesc) (h : fn.results = #[.cell p ty, .tmp q]) (hp : tmps.getD p undef = .pointer (some ⟨b, 0, none⟩)) (hb : w.heap[b]? = some (.cells l.toArray T (0, 0)))
    (hu : P.underlying ty = some d) (hd : d.isRow = true) (hi : (P.info? ty).map (·.size) = some l.length) : (results fn tmps).run P w = .ok (.tuple #[.agg l.toArray, tmps.getD q undef]) w := by
  have hp' : tmps[p]?.getD undef = .pointer (some ⟨b, 0, none⟩) := by simpa using hp
  simp [results, h, hp', asAddr, run_loadVar_mid w b 0 ty l d (range_of_block hb) hu hd hi]
theorem results_all {fn : Func} {p : Tmp} {ty T : TypeId} {tmps : Array Value} {b : Nat} (l : List Value) (d : TypeDesc) (h : fn.results = #[.cell p ty]) (hp : tmps.getD p undef = .pointer (some ⟨b, 0, none⟩)) (hb : w.heap[b]? = some (.cells l.toArray T (0, 0)))
    (hu : P.underlying ty = some d) (hd : d.isRow = true) (hi : (P.info? ty).map (·.size) = some l.length) : (results fn tmps).run P w = .ok (.agg l.toArray) w := by
  have hp' : tmps[p]?.getD undef = .pointer (some ⟨b, 0, none⟩) := by simpa using hp
  simp [results, h, hp', asAddr, run_loadVar_mid w b 0 ty l d (range_of_block hb) hu hd hi]
end
end Go.Proofs.YtdfkfcpkejjlnaaDoor
namespace Go.Proofs.YtdfkfcpkejjlnaaDoor
set_option linter.unusedVariables false
open Go Go.RowKit
namespace Rl
theorem comesToR_load {P : Program} {o : Oper} {a : Act} {W : World} {S : Rel} (ty : TypeId) (x : Operand) (ho : o.op = .load ty x) (b : Nat) {T : TypeId} (hx : a.eval x = .pointer (some ⟨b, 0, none⟩)) (l : List Value) (d : TypeDesc)
    (hb : W.heap[b]? = some (.cells l.toArray T (0, 0))) (hu : P.underlying ty = some d) (hd : d.isRow = true) (hi : (P.info? ty).map (·.size) = some l.length) (h : S (.agg l.toArray) W) : comesToR P S ((execOp a.eval o).run P W) := by
  unfold execOp
  simp only [ho, hx, Instr.loadAt, Instr.sureAddr, Sem.run_bind, Sem.run_pure, Result.andThen_ok, run_loadVar_mid W b 0 ty l d (range_of_block hb) hu hd hi]
  exact h
theorem comesToR_ok {P : Program} {o : Oper} {a : Act} {W : World} {S : Rel} {v : Value} (h : (execOp a.eval o).run P W = .ok (.value v) W) (hS : S v W) : comesToR P S ((execOp a.eval o).run P W) := by rw [h]; exact hS
/-- two structs or arrays held against each other -/
theorem comesToR_eql {P : Program} {o : Oper} {a : Act} {W : World} {S : Rel} (ty ty2 : TypeId) (x y : Operand) (ho : o.op = .binOp .eql ty x y ty2) (xs ys : Array Value) (hx : a.eval x = .agg xs) (hy : a.eval y = .agg ys) (hm : P.eqGuardType P.depth ty = false) {b : Bool}
    (he : (Op.equalIn 10000 ty (.agg xs) (.agg ys)).run P W = .ok b W) (hS : S (.bool b) W) : comesToR P S ((execOp a.eval o).run P W) := by
  refine comesToR_ok ?_ hS
  unfold execOp
  simp only [ho, hx, hy, Sem.run_bind, run_eqGuard_agg W .eql ty x y xs ys hm, Result.andThen_ok, run_eql_struct, he]
  rfl
theorem comesToR_neq {P : Program} {o : Oper} {a : Act} {W : World} {S : Rel} (ty ty2 : TypeId) (x y : Operand) (ho : o.op = .binOp .neq ty x y ty2) (xs ys : Array Value) (hx : a.eval x = .agg xs) (hy : a.eval y = .agg ys) (hm : P.eqGuardType P.depth ty = false) {b : Bool}
    (he : (Op.equalIn 10000 ty (.agg xs) (.agg ys)).run P W = .ok b W) (hS : S (.bool (!b)) W) : comesToR P S ((execOp a.eval o).run P W) := by
  refine comesToR_ok ?_ hS
  unfold execOp
  simp only [ho, hx, hy, Sem.run_bind, run_eqGuard_agg W .neq ty x y xs ys hm, Result.andThen_ok, run_neq_struct, he]
  rfl
end Rl
end Go.Proofs.YtdfkfcpkejjlnaaDoor
namespace Go.Proofs.YtdfkfcpkejjlnaaDoor
set_option linter.unusedVariables false
open Go Go.RowKit
section
variable {P : Program} {ops : Array Oper} {Q : Exit → Act → World → Prop} {md : Region.Mode} {S : World → Prop} {fuel : Nat} {listed : Array Bool} {a : Act} {w : World}
theorem anyH_call {i : Nat} {oi : Oper} {f : FuncId} {args : Array Value} {R : Ending → World → Prop} (hr : Region.ready md ops listed = [i]) (hi : ops[i]? = some oi) (hw : Region.wanted oi (yielded ops a.tmps) = true)
    (h : (execOp a.eval oi).run P w = .ok (.enter f args) w) (hc : Calls P f args w R) (hR : ∀ e w', R e w' → ∃ v, e = .returned v ∧ S w' ∧ wpAnyH P md ops Q S fuel (listed.setIfInBounds i true) (a.put oi.dst v) w') :
    wpAnyH P md ops Q S (fuel + 1) listed a w := by
  refine wpAnyH_all hr (by simp) fun k hk => ?_
  obtain rfl : k = i := by simpa using hk
  unfold wpOp
  simp only [hi, hw, if_true]
  refine .inl ?_
  unfold Oper.wp
  rw [h]
  exact hc.mono fun e w' hRe => by
    obtain ⟨v, rfl, h⟩ := hR e w' hRe
    exact h
theorem anyH_store {i : Nat} {oi : Oper} {w' : World} (hr : Region.ready md ops listed = [i]) (hi : ops[i]? = some oi) (hw : Region.wanted oi (yielded ops a.tmps) = true)
    (h : (execOp a.eval oi).run P w = .ok .skip w') (hS : S w') (hR : wpAnyH P md ops Q S fuel (listed.setIfInBounds i true) (a.put oi.dst undef) w') :
    wpAnyH P md ops Q S (fuel + 1) listed a w := by
  refine wpAnyH_all hr (by simp) fun k hk => ?_
  obtain rfl : k = i := by simpa using hk
  unfold wpOp
  simp only [hi, hw, if_true]
  refine .inl ?_
  unfold Oper.wp
  rw [h]
  exact ⟨hS, hR⟩
end
end Go.Proofs.YtdfkfcpkejjlnaaDoor
namespace Go.Proofs.YtdfkfcpkejjlnaaDoor
set_option linter.unusedVariables false
open Go Go.RowKit
section
variable {P : Program} {ops : Array Oper} {Q : Exit → Act → World → Prop} {md : Region.Mode} {S : World → Prop} {fuel : Nat} {listed : Array Bool} {a : Act} {w : World}
theorem opH_call {i : Nat} {oi : Oper} {f : FuncId} {args : Array Value} {R : Ending → World → Prop} (hi : ops[i]? = some oi) (hw : Region.wanted oi (yielded ops a.tmps) = true)
    (h : (execOp a.eval oi).run P w = .ok (.enter f args) w) (hc : Calls P f args w R) (hR : ∀ e w', R e w' → ∃ v, e = .returned v ∧ S w' ∧ wpAnyH P md ops Q S fuel (listed.setIfInBounds i true) (a.put oi.dst v) w') :
    wpOp P ops Q i (fun a' w' => S w' ∧ wpAnyH P md ops Q S fuel (listed.setIfInBounds i true) a' w') a w := by
  unfold wpOp
  simp only [hi, hw, if_true]
  refine .inl ?_
  unfold Oper.wp
  rw [h]
  exact hc.mono fun e w' hRe => by
    obtain ⟨v, rfl, h⟩ := hR e w' hRe
    exact h
theorem opH_val {i : Nat} {oi : Oper} {v : Value} {w' : World} (hi : ops[i]? = some oi) (hw : Region.wanted oi (yielded ops a.tmps) = true)
    (h : (execOp a.eval oi).run P w = .ok (.value v) w') (hR : S w' ∧ wpAnyH P md ops Q S fuel (listed.setIfInBounds i true) (a.put oi.dst v) w') :
    wpOp P ops Q i (fun a' w' => S w' ∧ wpAnyH P md ops Q S fuel (listed.setIfInBounds i true) a' w') a w := by
  unfold wpOp
  simp only [hi, hw, if_true]
  refine .inl ?_
  unfold Oper.wp
  rw [h]
  exact hR
theorem anyH_one {i : Nat} (hr : Region.ready md ops listed = [i]) (h : wpOp P ops Q i (fun a' w' => S w' ∧ wpAnyH P md ops Q S fuel (listed.setIfInBounds i true) a' w') a w) : wpAnyH P md ops Q S (fuel + 1) listed a w :=
  wpAnyH_all hr (by simp) fun k hk => by
    obtain rfl : k = i := by simpa using hk
    exact h
theorem anyH_two {i j : Nat} (hr : Region.ready md ops listed = [i, j]) (h : wpOp P ops Q i (fun a' w' => S w' ∧ wpAnyH P md ops Q S fuel (listed.setIfInBounds i true) a' w') a w)
    (h' : wpOp P ops Q j (fun a' w' => S w' ∧ wpAnyH P md ops Q S fuel (listed.setIfInBounds j true) a' w') a w) : wpAnyH P md ops Q S (fuel + 1) listed a w :=
  wpAnyH_all hr (by simp) fun k hk => by
    rcases (by simpa using hk : k = i ∨ k = j) with rfl | rfl
    · exact h
    · exact h'
end
theorem exec_store_allH {P : Program} {op : Oper} {ρ : Operand → Value} {w : World} (ty : TypeId) (x y : Operand) (ho : op.op = .store ty x y) (b : Nat) {T : TypeId} {cs : Array Value} (l : List Value) (hx : ρ x = .pointer (some ⟨b, 0, none⟩)) (hy : ρ y = .agg l.toArray)
    (hb : w.heap[b]? = some (.cells cs T (0, 0))) (hl : l.length = cs.size) (hi : (P.info? ty).map (·.size) = some l.length) (h1 : l.all (·.oneCell') = true) : (execOp ρ op).run P w = .ok .skip (w.setCells b 0 l) := by
  unfold execOp
  simp only [ho, hx, hy, Instr.storeAt, Instr.sureAddr, Sem.run_bind, Sem.run_pure, Result.andThen_ok, run_storeVar_mid w b 0 ty l.toArray (there_of_block hb (by simp; omega)) (by simpa using hi) (by simpa using h1)]
theorem results_allH3 {P : Program} {w : World} {fn : Func} {p q r : Tmp} {ty T : TypeId} {tmps : Array Value} {b : Nat} (l : List Value) (d : TypeDesc) (h : fn.results = #[.cell p ty, .tmp q, .tmp r]) (hp : tmps.getD p undef = .pointer (some ⟨b, 0, none⟩)) (hb : w.heap[b]? = some (.cells l.toArray T (0, 0)))
    (hu : P.underlying ty = some d) (hd : d.isRow = true) (hi : (P.info? ty).map (·.size) = some l.length) : (results fn tmps).run P w = .ok (.tuple #[.agg l.toArray, tmps.getD q undef, tmps.getD r undef]) w := by
  have hp' : tmps[p]?.getD undef = .pointer (some ⟨b, 0, none⟩) := by simpa using hp
  simp [results, h, hp', asAddr, run_loadVar_mid w b 0 ty l d (range_of_block hb) hu hd hi]
end Go.Proofs.YtdfkfcpkejjlnaaDoor
namespace Go.Proofs.YtdfkfcpkejjlnaaDoor
set_option linter.unusedVariables false
open Go Go.RowKit
section
variable {P : Program} {ops : Array Oper} {rest : List Oper} {o : Oper} {a : Act} {w : World} {Q : Exit → Act → World → Prop}
theorem wpList_yield_w {w' : World} {v : Value} (hw : Region.wanted o (yielded ops a.tmps) = true) (h : (execOp a.eval o).run P w = .ok (.value v) w') (hr : wpList P ops Q rest (a.put o.dst v) w') : wpList P ops Q (o :: rest) a w :=
  BigFrame.wpList_want hw fun K hK => by
    unfold Oper.wp
    rw [h]
    exact hK _ _ hr
theorem wpList_enter_w {f : FuncId} {args : Array Value} {R : Ending → World → Prop} (hw : Region.wanted o (yielded ops a.tmps) = true) (h : (execOp a.eval o).run P w = .ok (.enter f args) w) (hc : Calls P f args w R) (hr : ∀ e w', R e w' → ∃ v, e = .returned v ∧ wpList P ops Q rest (a.put o.dst v) w') : wpList P ops Q (o :: rest) a w :=
  BigFrame.wpList_want hw fun K hK => by
    unfold Oper.wp
    rw [h]
    exact hc.mono fun e w' hR => by
      obtain ⟨v, rfl, h⟩ := hr e w' hR
      exact hK _ _ h
theorem wpList_load_all_w (hw : Region.wanted o (yielded ops a.tmps) = true) (ty : TypeId) (x : Operand) (ho : o.op = .load ty x) (b : Nat) {T : TypeId} (l : List Value) (d : TypeDesc) (hx : a.eval x = .pointer (some ⟨b, 0, none⟩))
    (hb : w.heap[b]? = some (.cells l.toArray T (0, 0))) (hu : P.underlying ty = some d) (hd : d.isRow = true) (hi : (P.info? ty).map (·.size) = some l.length)
    (h : wpList P ops Q rest (a.put o.dst (.agg l.toArray)) w) : wpList P ops Q (o :: rest) a w :=
  BigFrame.wpList_want hw fun _ hK => wp_load_mid ty x ho b 0 hx l d (range_of_block hb) hu hd hi (hK _ _ h)
end
end Go.Proofs.YtdfkfcpkejjlnaaDoor
namespace Go.Proofs.YtdfkfcpkejjlnaaDoor
set_option linter.unusedVariables false
open Go Go.RowKit
def forkPuts (a : Act) : List (Option Tmp) → List Value → Act
  | d :: ds, v :: vs => forkPuts (a.put d v) ds vs
  | _, _ => a
theorem yielded_put {ops : Array Oper} {a : Act} {d : Option Tmp} {v : Value} {j : Nat} (h : d ≠ (ops[j]?).bind (·.dst)) : yielded ops (a.put d v).tmps j = yielded ops a.tmps j := by
  unfold yielded
  cases d with
  | none => rfl
  | some d =>
    cases h2 : (ops[j]?).bind (·.dst) with
    | none => rfl
    | some e =>
      rw [h2] at h
      have hne : d ≠ e := fun hh => h (by rw [hh])
      simp only [Act.put, Option.bind_some]
      rw [Array.getElem?_setIfInBounds_ne hne]
section
variable {P : Program} {ops : Array Oper} {Q : Exit → Act → World → Prop}
theorem wpList_over (j : Nat) (g : Bool) (rest : List Oper) (w : World) : ∀ (body : List Oper) (a : Act), yielded ops a.tmps j = some (!g) → body.all (fun o => o.guard == some (j, g)) = true → body.all (fun o => o.dst != (ops[j]?).bind (·.dst)) = true →
    wpList P ops Q rest (forkPuts a (body.map (·.dst)) (body.map fun _ => undef)) w → wpList P ops Q (body ++ rest) a w
  | [], a, _, _, _, h => h
  | o :: body, a, hy, hg, hd, h => by
    simp only [List.all_cons, Bool.and_eq_true, beq_iff_eq, bne_iff_ne, ne_eq] at hg hd
    refine wpList_skip (by simp only [Region.wanted, hg.1, hy]; cases g <;> rfl) ?_
    exact wpList_over j g rest w body _ (by rw [yielded_put hd.1]; exact hy) hg.2 hd.2 h
theorem wpList_fork (j : Nat) (g b : Bool) (body rest : List Oper) (a : Act) (w : World) (R : List Value → Prop) (hy : yielded ops a.tmps j = some b) (hg : body.all (fun o => o.guard == some (j, g)) = true) (hd : body.all (fun o => o.dst != (ops[j]?).bind (·.dst)) = true)
    (hrun : b = g → (∀ us : List Value, us.length = body.length → R us → wpList P ops Q rest (forkPuts a (body.map (·.dst)) us) w) → wpList P ops Q (body ++ rest) a w)
    (hrest : ∀ us : List Value, us.length = body.length → (b = g → R us) → wpList P ops Q rest (forkPuts a (body.map (·.dst)) us) w) : wpList P ops Q (body ++ rest) a w := by
  by_cases hb : b = g
  · exact hrun hb fun us hl hR => hrest us hl fun _ => hR
  · exact wpList_over j g rest w body a (by rw [hy]; revert hb; cases b <;> cases g <;> simp) hg hd (hrest _ (by simp) fun h => absurd h hb)
/-- the same as wpList, behind a name that elaboration does not unfold (each 'refine' reduces its goal: under guards that costs twice as much an operation) -/
structure WL (P : Program) (ops : Array Oper) (Q : Exit → Act → World → Prop) (l : List Oper) (a : Act) (w : World) : Prop where
  out : wpList P ops Q l a w
theorem WL.nil {a : Act} {w : World} (h : Q .normal a w) : WL P ops Q [] a w := ⟨wpList_nil h⟩
theorem WL.yield {rest : List Oper} {o : Oper} {a : Act} {w : World} {w' : World} {v : Value} (hgd : o.guard = none) (h : (execOp a.eval o).run P w = .ok (.value v) w') (hr : WL P ops Q rest (a.put o.dst v) w') : WL P ops Q (o :: rest) a w := ⟨wpList_yield hgd h hr.out⟩
theorem WL.yield_w {rest : List Oper} {o : Oper} {a : Act} {w : World} {w' : World} {v : Value} (hw : Region.wanted o (yielded ops a.tmps) = true) (h : (execOp a.eval o).run P w = .ok (.value v) w') (hr : WL P ops Q rest (a.put o.dst v) w') : WL P ops Q (o :: rest) a w := ⟨wpList_yield_w hw h hr.out⟩
theorem WL.skip {rest : List Oper} {o : Oper} {a : Act} {w : World} (hw : Region.wanted o (yielded ops a.tmps) = false) (hr : WL P ops Q rest (a.put o.dst undef) w) : WL P ops Q (o :: rest) a w := ⟨wpList_skip hw hr.out⟩
theorem WL.callq {rest : List Oper} {o : Oper} {a : Act} {w : World} {f : FuncId} {args : Array Value} {v : Value} (hgd : o.guard = none) (h : (execOp a.eval o).run P w = .ok (.enter f args) w) (hc : Calls P f args w fun e w' => e = .returned v ∧ w = w') (hr : WL P ops Q rest (a.put o.dst v) w) : WL P ops Q (o :: rest) a w :=
  ⟨wpList_enter hgd h hc fun e w' ⟨he, hh⟩ => ⟨v, he, hh ▸ hr.out⟩⟩
theorem WL.callq_w {rest : List Oper} {o : Oper} {a : Act} {w : World} {f : FuncId} {args : Array Value} {v : Value} (hw : Region.wanted o (yielded ops a.tmps) = true) (h : (execOp a.eval o).run P w = .ok (.enter f args) w) (hc : Calls P f args w fun e w' => e = .returned v ∧ w = w') (hr : WL P ops Q rest (a.put o.dst v) w) : WL P ops Q (o :: rest) a w :=
  ⟨wpList_enter_w hw h hc fun e w' ⟨he, hh⟩ => ⟨v, he, hh ▸ hr.out⟩⟩
theorem WL.enter {rest : List Oper} {o : Oper} {a : Act} {w : World} {f : FuncId} {args : Array Value} {R : Ending → World → Prop} (hgd : o.guard = none) (h : (execOp a.eval o).run P w = .ok (.enter f args) w) (hc : Calls P f args w R) (hr : ∀ e w', R e w' → ∃ v, e = .returned v ∧ WL P ops Q rest (a.put o.dst v) w') : WL P ops Q (o :: rest) a w :=
  ⟨wpList_enter hgd h hc fun e w' hR => let ⟨v, he, h⟩ := hr e w' hR; ⟨v, he, h.out⟩⟩
theorem WL.enter_w {rest : List Oper} {o : Oper} {a : Act} {w : World} {f : FuncId} {args : Array Value} {R : Ending → World → Prop} (hw : Region.wanted o (yielded ops a.tmps) = true) (h : (execOp a.eval o).run P w = .ok (.enter f args) w) (hc : Calls P f args w R) (hr : ∀ e w', R e w' → ∃ v, e = .returned v ∧ WL P ops Q rest (a.put o.dst v) w') : WL P ops Q (o :: rest) a w :=
  ⟨wpList_enter_w hw h hc fun e w' hR => let ⟨v, he, h⟩ := hr e w' hR; ⟨v, he, h.out⟩⟩
theorem WL.fork (j : Nat) (g b : Bool) (body rest : List Oper) (a : Act) (w : World) (R : List Value → Prop) (hy : yielded ops a.tmps j = some b) (hg : body.all (fun o => o.guard == some (j, g)) = true) (hd : body.all (fun o => o.dst != (ops[j]?).bind (·.dst)) = true)
    (hrun : b = g → (∀ us : List Value, us.length = body.length → R us → WL P ops Q rest (forkPuts a (body.map (·.dst)) us) w) → WL P ops Q (body ++ rest) a w)
    (hrest : ∀ us : List Value, us.length = body.length → (b = g → R us) → WL P ops Q rest (forkPuts a (body.map (·.dst)) us) w) : WL P ops Q (body ++ rest) a w :=
  ⟨wpList_fork j g b body rest a w R hy hg hd (fun hb H => (hrun hb fun us hl hR => ⟨H us hl hR⟩).out) fun us hl h => (hrest us hl h).out⟩
/-- 1 operations behind an undecided guard, the last of which yields a Bool -/
theorem WL.link1 {o1 : Oper} {rest : List Oper} {a : Act} {w : World} (j : Nat) (g b c : Bool) (hy : yielded ops a.tmps j = some b) (hg : [o1].all (fun o => o.guard == some (j, g)) = true) (hd : [o1].all (fun o => o.dst != (ops[j]?).bind (·.dst)) = true)
    (hrun : b = g → (WL P ops Q rest (a.put o1.dst (.bool c)) w) → WL P ops Q (o1 :: rest) a w)
    (hrest : ∀ z, (b = g → z = .bool c) → WL P ops Q rest (a.put o1.dst z) w) : WL P ops Q (o1 :: rest) a w :=
  WL.fork j g b [o1] rest a w (fun us => us[0]? = some (.bool c)) hy hg hd
    (fun hb H => hrun hb (H [.bool c] rfl rfl))
    (fun us hl hR => by
      match us, hl with
      | [z], _ => exact hrest z fun h => by simpa using hR h)
/-- 2 operations behind an undecided guard, the last of which yields a Bool -/
theorem WL.link2 {o1 o2 : Oper} {rest : List Oper} {a : Act} {w : World} (j : Nat) (g b c : Bool) (hy : yielded ops a.tmps j = some b) (hg : [o1, o2].all (fun o => o.guard == some (j, g)) = true) (hd : [o1, o2].all (fun o => o.dst != (ops[j]?).bind (·.dst)) = true)
    (hrun : b = g → (∀ x1, WL P ops Q rest ((a.put o1.dst x1).put o2.dst (.bool c)) w) → WL P ops Q (o1 :: o2 :: rest) a w)
    (hrest : ∀ x1 z, (b = g → z = .bool c) → WL P ops Q rest ((a.put o1.dst x1).put o2.dst z) w) : WL P ops Q (o1 :: o2 :: rest) a w :=
  WL.fork j g b [o1, o2] rest a w (fun us => us[1]? = some (.bool c)) hy hg hd
    (fun hb H => hrun hb fun x1 => H [x1, .bool c] rfl rfl)
    (fun us hl hR => by
      match us, hl with
      | [x1, z], _ => exact hrest x1 z fun h => by simpa using hR h)
/-- 3 operations behind an undecided guard, the last of which yields a Bool -/
theorem WL.link3 {o1 o2 o3 : Oper} {rest : List Oper} {a : Act} {w : World} (j : Nat) (g b c : Bool) (hy : yielded ops a.tmps j = some b) (hg : [o1, o2, o3].all (fun o => o.guard == some (j, g)) = true) (hd : [o1, o2, o3].all (fun o => o.dst != (ops[j]?).bind (·.dst)) = true)
    (hrun : b = g → (∀ x1 x2, WL P ops Q rest (((a.put o1.dst x1).put o2.dst x2).put o3.dst (.bool c)) w) → WL P ops Q (o1 :: o2 :: o3 :: rest) a w)
    (hrest : ∀ x1 x2 z, (b = g → z = .bool c) → WL P ops Q rest (((a.put o1.dst x1).put o2.dst x2).put o3.dst z) w) : WL P ops Q (o1 :: o2 :: o3 :: rest) a w :=
  WL.fork j g b [o1, o2, o3] rest a w (fun us => us[2]? = some (.bool c)) hy hg hd
    (fun hb H => hrun hb fun x1 x2 => H [x1, x2, .bool c] rfl rfl)
    (fun us hl hR => by
      match us, hl with
      | [x1, x2, z], _ => exact hrest x1 x2 z fun h => by simpa using hR h)
/-- 4 operations behind an undecided guard, the last of which yields a Bool -/
theorem WL.link4 {o1 o2 o3 o4 : Oper} {rest : List Oper} {a : Act} {w : World} (j : Nat) (g b c : Bool) (hy : yielded ops a.tmps j = some b) (hg : [o1, o2, o3, o4].all (fun o => o.guard == some (j, g)) = true) (hd : [o1, o2, o3, o4].all (fun o => o.dst != (ops[j]?).bind (·.dst)) = true)
    (hrun : b = g → (∀ x1 x2 x3, WL P ops Q rest ((((a.put o1.dst x1).put o2.dst x2).put o3.dst x3).put o4.dst (.bool c)) w) → WL P ops Q (o1 :: o2 :: o3 :: o4 :: rest) a w)
    (hrest : ∀ x1 x2 x3 z, (b = g → z = .bool c) → WL P ops Q rest ((((a.put o1.dst x1).put o2.dst x2).put o3.dst x3).put o4.dst z) w) : WL P ops Q (o1 :: o2 :: o3 :: o4 :: rest) a w :=
  WL.fork j g b [o1, o2, o3, o4] rest a w (fun us => us[3]? = some (.bool c)) hy hg hd
    (fun hb H => hrun hb fun x1 x2 x3 => H [x1, x2, x3, .bool c] rfl rfl)
    (fun us hl hR => by
      match us, hl with
      | [x1, x2, x3, z], _ => exact hrest x1 x2 x3 z fun h => by simpa using hR h)
/-- 5 operations behind an undecided guard, the last of which yields a Bool -/
theorem WL.link5 {o1 o2 o3 o4 o5 : Oper} {rest : List Oper} {a : Act} {w : World} (j : Nat) (g b c : Bool) (hy : yielded ops a.tmps j = some b) (hg : [o1, o2, o3, o4, o5].all (fun o => o.guard == some (j, g)) = true) (hd : [o1, o2, o3, o4, o5].all (fun o => o.dst != (ops[j]?).bind (·.dst)) = true)
    (hrun : b = g → (∀ x1 x2 x3 x4, WL P ops Q rest (((((a.put o1.dst x1).put o2.dst x2).put o3.dst x3).put o4.dst x4).put o5.dst (.bool c)) w) → WL P ops Q (o1 :: o2 :: o3 :: o4 :: o5 :: rest) a w)
    (hrest : ∀ x1 x2 x3 x4 z, (b = g → z = .bool c) → WL P ops Q rest (((((a.put o1.dst x1).put o2.dst x2).put o3.dst x3).put o4.dst x4).put o5.dst z) w) : WL P ops Q (o1 :: o2 :: o3 :: o4 :: o5 :: rest) a w :=
  WL.fork j g b [o1, o2, o3, o4, o5] rest a w (fun us => us[4]? = some (.bool c)) hy hg hd
    (fun hb H => hrun hb fun x1 x2 x3 x4 => H [x1, x2, x3, x4, .bool c] rfl rfl)
    (fun us hl hR => by
      match us, hl with
      | [x1, x2, x3, x4, z], _ => exact hrest x1 x2 x3 x4 z fun h => by simpa using hR h)
/-- 6 operations behind an undecided guard, the last of which yields a Bool -/
theorem WL.link6 {o1 o2 o3 o4 o5 o6 : Oper} {rest : List Oper} {a : Act} {w : World} (j : Nat) (g b c : Bool) (hy : yielded ops a.tmps j = some b) (hg : [o1, o2, o3, o4, o5, o6].all (fun o => o.guard == some (j, g)) = true) (hd : [o1, o2, o3, o4, o5, o6].all (fun o => o.dst != (ops[j]?).bind (·.dst)) = true)
    (hrun : b = g → (∀ x1 x2 x3 x4 x5, WL P ops Q rest ((((((a.put o1.dst x1).put o2.dst x2).put o3.dst x3).put o4.dst x4).put o5.dst x5).put o6.dst (.bool c)) w) → WL P ops Q (o1 :: o2 :: o3 :: o4 :: o5 :: o6 :: rest) a w)
    (hrest : ∀ x1 x2 x3 x4 x5 z, (b = g → z = .bool c) → WL P ops Q rest ((((((a.put o1.dst x1).put o2.dst x2).put o3.dst x3).put o4.dst x4).put o5.dst x5).put o6.dst z) w) : WL P ops Q (o1 :: o2 :: o3 :: o4 :: o5 :: o6 :: rest) a w :=
  WL.fork j g b [o1, o2, o3, o4, o5, o6] rest a w (fun us => us[5]? = some (.bool c)) hy hg hd
    (fun hb H => hrun hb fun x1 x2 x3 x4 x5 => H [x1, x2, x3, x4, x5, .bool c] rfl rfl)
    (fun us hl hR => by
      match us, hl with
      | [x1, x2, x3, x4, x5, z], _ => exact hrest x1 x2 x3 x4 x5 z fun h => by simpa using hR h)
/-- 7 operations behind an undecided guard, the last of which yields a Bool -/
theorem WL.link7 {o1 o2 o3 o4 o5 o6 o7 : Oper} {rest : List Oper} {a : Act} {w : World} (j : Nat) (g b c : Bool) (hy : yielded ops a.tmps j = some b) (hg : [o1, o2, o3, o4, o5, o6, o7].all (fun o => o.guard == some (j, g)) = true) (hd : [o1, o2, o3, o4, o5, o6, o7].all (fun o => o.dst != (ops[j]?).bind (·.dst)) = true)
    (hrun : b = g → (∀ x1 x2 x3 x4 x5 x6, WL P ops Q rest (((((((a.put o1.dst x1).put o2.dst x2).put o3.dst x3).put o4.dst x4).put o5.dst x5).put o6.dst x6).put o7.dst (.bool c)) w) → WL P ops Q (o1 :: o2 :: o3 :: o4 :: o5 :: o6 :: o7 :: rest) a w)
    (hrest : ∀ x1 x2 x3 x4 x5 x6 z, (b = g → z = .bool c) → WL P ops Q rest (((((((a.put o1.dst x1).put o2.dst x2).put o3.dst x3).put o4.dst x4).put o5.dst x5).put o6.dst x6).put o7.dst z) w) : WL P ops Q (o1 :: o2 :: o3 :: o4 :: o5 :: o6 :: o7 :: rest) a w :=
  WL.fork j g b [o1, o2, o3, o4, o5, o6, o7] rest a w (fun us => us[6]? = some (.bool c)) hy hg hd
    (fun hb H => hrun hb fun x1 x2 x3 x4 x5 x6 => H [x1, x2, x3, x4, x5, x6, .bool c] rfl rfl)
    (fun us hl hR => by
      match us, hl with
      | [x1, x2, x3, x4, x5, x6, z], _ => exact hrest x1 x2 x3 x4 x5 x6 z fun h => by simpa using hR h)
/-- the pick behind such operations: 'a || b' -/
theorem exec_pick_or {ρ : Operand → Value} {o : Oper} {s z : Operand} {b c : Bool} {w : World} (ho : o.op = .pick s (.const (.bool true)) z) (hs : ρ s = .bool b) (ht : ρ (.const (.bool true)) = .bool true) (hz : b = false → ρ z = .bool c) : (execOp ρ o).run P w = .ok (.value (.bool (b || c))) w := by
  unfold execOp
  simp only [ho]
  cases b with
  | true => simp [hs, ht, Sem.run_pure, asBool]
  | false => simp [hs, hz rfl, Sem.run_pure, asBool]
theorem exec_pick_and {ρ : Operand → Value} {o : Oper} {s z : Operand} {b c : Bool} {w : World} (ho : o.op = .pick s z (.const (.bool false))) (hs : ρ s = .bool b) (ht : ρ (.const (.bool false)) = .bool false) (hz : b = true → ρ z = .bool c) : (execOp ρ o).run P w = .ok (.value (.bool (b && c))) w := by
  unfold execOp
  simp only [ho]
  cases b with
  | false => simp [hs, ht, Sem.run_pure, asBool]
  | true => simp [hs, hz rfl, Sem.run_pure, asBool]
end
end Go.Proofs.YtdfkfcpkejjlnaaDoor
