/- A region that draws its order: calls, blocks that are laid and stores that wait for one another, each carried out where it, or one of two, may come up; a store of a whole struct; the results of a struct beside two plain values. No condition. -/
import Derived.Test.YtfakejfpicjedaaHeld
namespace Go.Proofs.Ytfakejfpicjedaa
set_option linter.unusedVariables false
open Go Go.RowKit
section
variable {P : Program} {ops : Array Oper} {Q : Exit → Act → World → Prop} {md : Region.Mode} {S : World → Prop} {fuel : Nat} {listed : Array Bool} {a : Act} {w : World}
theorem opH_call {i : Nat} {oi : Oper} {f : FuncId} {args : Array Value} {R : Ending → World → Prop} (hi : ops[i]? = some oi) (hw : Region.wanted oi (yielded ops a.tmps) = true)
    (h : (execOp a.eval oi).run P w = .ok (.enter f args) w) (hc : Calls P f args w R) (hR : ∀ e w', R e w' → ∃ v, e = .returned v ∧ S w' ∧ wpAnyH P md ops Q S fuel (listed.setIfInBounds i true) (a.put oi.dst v) w') :
    wpOp P ops Q i (fun a' w' => S w' ∧ wpAnyH P md ops Q S fuel (listed.setIfInBounds i true) a' w') a w := by
  unfold wpOp
  simp only [hi, hw, if_true]
  refine .inl ?_
  unfold Oper.wp
  rw [h]
  exact hc.mono fun e w' hRe => by
    obtain ⟨v, rfl, h⟩ := hR e w' hRe
    exact h
theorem opH_val {i : Nat} {oi : Oper} {v : Value} {w' : World} (hi : ops[i]? = some oi) (hw : Region.wanted oi (yielded ops a.tmps) = true)
    (h : (execOp a.eval oi).run P w = .ok (.value v) w') (hR : S w' ∧ wpAnyH P md ops Q S fuel (listed.setIfInBounds i true) (a.put oi.dst v) w') :
    wpOp P ops Q i (fun a' w' => S w' ∧ wpAnyH P md ops Q S fuel (listed.setIfInBounds i true) a' w') a w := by
  unfold wpOp
  simp only [hi, hw, if_true]
  refine .inl ?_
  unfold Oper.wp
  rw [h]
  exact hR
theorem anyH_one {i : Nat} (hr : Region.ready md ops listed = [i]) (h : wpOp P ops Q i (fun a' w' => S w' ∧ wpAnyH P md ops Q S fuel (listed.setIfInBounds i true) a' w') a w) : wpAnyH P md ops Q S (fuel + 1) listed a w :=
  wpAnyH_all hr (by simp) fun k hk => by
    obtain rfl : k = i := by simpa using hk
    exact h
theorem anyH_two {i j : Nat} (hr : Region.ready md ops listed = [i, j]) (h : wpOp P ops Q i (fun a' w' => S w' ∧ wpAnyH P md ops Q S fuel (listed.setIfInBounds i true) a' w') a w)
    (h' : wpOp P ops Q j (fun a' w' => S w' ∧ wpAnyH P md ops Q S fuel (listed.setIfInBounds j true) a' w') a w) : wpAnyH P md ops Q S (fuel + 1) listed a w :=
  wpAnyH_all hr (by simp) fun k hk => by
    rcases (by simpa using hk : k = i ∨ k = j) with rfl | rfl
    · exact h
    · exact h'
end
theorem exec_store_allH {P : Program} {op : Oper} {ρ : Operand → Value} {w : World} (ty : TypeId) (x y : Operand) (ho : op.op = .store ty x y) (b : Nat) {T : TypeId} {cs : Array Value} (l : List Value) (hx : ρ x = .pointer (some ⟨b, 0, none⟩)) (hy : ρ y = .agg l.toArray)
    (hb : w.heap[b]? = some (.cells cs T (0, 0))) (hl : l.length = cs.size) (hi : (P.info? ty).map (·.size) = some l.length) (h1 : l.all (·.oneCell') = true) : (execOp ρ op).run P w = .ok .skip (w.setCells b 0 l) := by
  unfold execOp
  simp only [ho, hx, hy, Instr.storeAt, Instr.sureAddr, Sem.run_bind, Sem.run_pure, Result.andThen_ok, run_storeVar_mid w b 0 ty l.toArray (there_of_block hb (by simp; omega)) (by simpa using hi) (by simpa using h1)]
theorem results_allH3 {P : Program} {w : World} {fn : Func} {p q r : Tmp} {ty T : TypeId} {tmps : Array Value} {b : Nat} (l : List Value) (d : TypeDesc) (h : fn.results = #[.cell p ty, .tmp q, .tmp r]) (hp : tmps.getD p undef = .pointer (some ⟨b, 0, none⟩)) (hb : w.heap[b]? = some (.cells l.toArray T (0, 0)))
    (hu : P.underlying ty = some d) (hd : d.isRow = true) (hi : (P.info? ty).map (·.size) = some l.length) : (results fn tmps).run P w = .ok (.tuple #[.agg l.toArray, tmps.getD q undef, tmps.getD r undef]) w := by
  have hp' : tmps[p]?.getD undef = .pointer (some ⟨b, 0, none⟩) := by simpa using hp
  simp [results, h, hp', asAddr, run_loadVar_mid w b 0 ty l d (range_of_block hb) hu hd hi]
end Go.Proofs.Ytfakejfpicjedaa
