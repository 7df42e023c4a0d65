/- A struct or an array of any number of cells, stored and loaded whole: the world behind a store is any world in which that block alone was written. No condition but the type's size, by computation. -/
import Derived.Test.YtfakejfpicjedaaBoxC
import Derived.Deep.MidRow
namespace Go.Proofs.Ytfakejfpicjedaa
set_option linter.unusedVariables false
open Go Go.RowKit
/-- the cells, from one place on, made anew -/
def setAll : Array Value → Nat → List Value → Array Value
  | cs, _, [] => cs
  | cs, o, v :: l => setAll (cs.setIfInBounds o v) (o + 1) l
theorem setAll_get : ∀ (l : List Value) (cs : Array Value) (o i : Nat), (setAll cs o l)[i]? = if o ≤ i ∧ i < o + l.length ∧ i < cs.size then l[i - o]? else cs[i]?
  | [], cs, o, i => by simp [setAll]; omega
  | v :: l, cs, o, i => by
    rw [setAll, setAll_get l]
    by_cases h1 : o + 1 ≤ i ∧ i < o + 1 + l.length ∧ i < cs.size
    · rw [if_pos (by simpa using h1), if_pos (by simp; omega), show i - o = (i - (o + 1)) + 1 by omega, List.getElem?_cons_succ]
    · rw [if_neg (by simpa using h1)]
      by_cases h2 : o = i
      · subst h2
        by_cases h3 : o < cs.size
        · rw [if_pos (by simp; omega)]
          simp [h3]
        · rw [if_neg (by omega)]
          simp [h3]
      · rw [if_neg (by simp; omega), Array.getElem?_setIfInBounds_ne h2]
theorem setAll_full {l : List Value} {cs : Array Value} (h : l.length = cs.size) : setAll cs 0 l = l.toArray := by
  apply Array.ext_getElem?
  intro i
  rw [setAll_get]
  by_cases hi : i < cs.size
  · rw [if_pos ⟨Nat.zero_le _, by omega, hi⟩]; simp
  · rw [if_neg (by omega), Array.getElem?_eq_none (by omega), Array.getElem?_eq_none (by simp; omega)]
theorem WroteTo.sets {b : Nat} {T : TypeId} : ∀ (l : List Value) (o : Nat) {w0 w : World} {cs : Array Value}, WroteTo b T cs w0 w → WroteTo b T (setAll cs o l) w0 (w.setCells b o l)
  | [], _, _, _, _, h => h
  | v :: l, o, _, _, _, h => WroteTo.sets l (o + 1) (h.set o v)
theorem wrote_all {w : World} {b : Nat} {T : TypeId} {cs : Array Value} {l : List Value} (h : w.heap[b]? = some (.cells cs T (0, 0))) (hl : l.length = cs.size) : WroteTo b T l.toArray w (w.setCells b 0 l) := by
  have := WroteTo.sets l 0 (wrote_refl h)
  rwa [setAll_full hl] at this
theorem range_of_block {w : World} {b : Nat} {T : TypeId} {l : List Value} (h : w.heap[b]? = some (.cells l.toArray T (0, 0))) : w.rangeAt b 0 l := fun j v hv => by
  rw [Nat.zero_add]
  exact cell_of_block h (by simpa using hv)
theorem there_of_block {w : World} {b n : Nat} {T : TypeId} {cs : Array Value} (h : w.heap[b]? = some (.cells cs T (0, 0))) (hn : n ≤ cs.size) : w.there b 0 n := fun j hj => by
  rw [Nat.zero_add]
  exact ⟨by rw [cell_of_block h (Array.getElem?_eq_getElem (by omega))]; rfl, free_of_block j h⟩
theorem WroteTo.below {w0 w w' : World} {b n : Nat} {T : TypeId} {c : Array Value} (h : WroteTo b T c w w') (hb : Below n w0 w) (hn : n ≤ b) : Below n w0 w' :=
  ⟨h.os.trans hb.os, h.tape.trans hb.tape, h.output.trans hb.output, by rw [h.size]; exact hb.size, fun k hk => (h.rest k (by omega)).trans (hb.block k hk)⟩
section
variable {P : Program} {ops : Array Oper} {rest : List Oper} {o : Oper} {a : Act} {w : World} {Q : Exit → Act → World → Prop}
/-- an operation of a plain region that yields a value -/
theorem wpList_yield {w' : World} {v : Value} (hgd : o.guard = none) (h : (execOp a.eval o).run P w = .ok (.value v) w') (hr : wpList P ops Q rest (a.put o.dst v) w') : wpList P ops Q (o :: rest) a w :=
  wpList_plain hgd fun K hK => by
    unfold Oper.wp
    rw [h]
    exact hK _ _ hr
/-- a call in a plain region -/
theorem wpList_enter {f : FuncId} {args : Array Value} {R : Ending → World → Prop} (hgd : o.guard = none) (h : (execOp a.eval o).run P w = .ok (.enter f args) w) (hc : Calls P f args w R) (hr : ∀ e w', R e w' → ∃ v, e = .returned v ∧ wpList P ops Q rest (a.put o.dst v) w') : wpList P ops Q (o :: rest) a w :=
  wpList_plain hgd fun K hK => by
    unfold Oper.wp
    rw [h]
    exact hc.mono fun e w' hR => by
      obtain ⟨v, rfl, h⟩ := hr e w' hR
      exact hK _ _ h
theorem wpList_store_all (hgd : o.guard = none) (ty : TypeId) (x y : Operand) (ho : o.op = .store ty x y) (b : Nat) {T : TypeId} {cs : Array Value} (l : List Value) (hx : a.eval x = .pointer (some ⟨b, 0, none⟩)) (hy : a.eval y = .agg l.toArray)
    (hb : w.heap[b]? = some (.cells cs T (0, 0))) (hl : l.length = cs.size) (hi : (P.info? ty).map (·.size) = some l.length) (h1 : l.all (·.oneCell') = true)
    (h : ∀ w', WroteTo b T l.toArray w w' → wpList P ops Q rest (a.put o.dst undef) w') : wpList P ops Q (o :: rest) a w :=
  wpList_store_mid hgd ty x y ho b 0 l.toArray hx hy (there_of_block hb (by simp; omega)) (by simpa using hi) (by simpa using h1) (h _ (wrote_all hb hl))
theorem wpList_load_all (hgd : o.guard = none) (ty : TypeId) (x : Operand) (ho : o.op = .load ty x) (b : Nat) {T : TypeId} (l : List Value) (d : TypeDesc) (hx : a.eval x = .pointer (some ⟨b, 0, none⟩))
    (hb : w.heap[b]? = some (.cells l.toArray T (0, 0))) (hu : P.underlying ty = some d) (hd : d.isRow = true) (hi : (P.info? ty).map (·.size) = some l.length)
    (h : wpList P ops Q rest (a.put o.dst (.agg l.toArray)) w) : wpList P ops Q (o :: rest) a w :=
  wpList_load_mid hgd ty x ho b 0 hx l d (range_of_block hb) hu hd hi h
/-- a struct and a plain value -/
theorem results_all2 {fn : Func} {p q : Tmp} {ty T : TypeId} {tmps : Array Value} {b : Nat} (l : List Value) (d : TypeDesc) (h : fn.results = #[.cell p ty, .tmp q]) (hp : tmps.getD p undef = .pointer (some ⟨b, 0, none⟩)) (hb : w.heap[b]? = some (.cells l.toArray T (0, 0)))
    (hu : P.underlying ty = some d) (hd : d.isRow = true) (hi : (P.info? ty).map (·.size) = some l.length) : (results fn tmps).run P w = .ok (.tuple #[.agg l.toArray, tmps.getD q undef]) w := by
  have hp' : tmps[p]?.getD undef = .pointer (some ⟨b, 0, none⟩) := by simpa using hp
  simp [results, h, hp', asAddr, run_loadVar_mid w b 0 ty l d (range_of_block hb) hu hd hi]
theorem results_all {fn : Func} {p : Tmp} {ty T : TypeId} {tmps : Array Value} {b : Nat} (l : List Value) (d : TypeDesc) (h : fn.results = #[.cell p ty]) (hp : tmps.getD p undef = .pointer (some ⟨b, 0, none⟩)) (hb : w.heap[b]? = some (.cells l.toArray T (0, 0)))
    (hu : P.underlying ty = some d) (hd : d.isRow = true) (hi : (P.info? ty).map (·.size) = some l.length) : (results fn tmps).run P w = .ok (.agg l.toArray) w := by
  have hp' : tmps[p]?.getD undef = .pointer (some ⟨b, 0, none⟩) := by simpa using hp
  simp [results, h, hp', asAddr, run_loadVar_mid w b 0 ty l d (range_of_block hb) hu hd hi]
end
end Go.Proofs.Ytfakejfpicjedaa
