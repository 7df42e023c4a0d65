/- A whole struct or array loaded in a region told by relations. No condition but the type's size, by computation. -/
import Derived.Test.YtmpknjlfabpipaaRelT
import Derived.Test.YtmpknjlfabpipaaMid
import Derived.Laws.StructEq
namespace Go.Proofs.Ytmpknjlfabpipaa
set_option linter.unusedVariables false
open Go Go.RowKit
namespace Rl
theorem comesToR_load {P : Program} {o : Oper} {a : Act} {W : World} {S : Rel} (ty : TypeId) (x : Operand) (ho : o.op = .load ty x) (b : Nat) {T : TypeId} (hx : a.eval x = .pointer (some ⟨b, 0, none⟩)) (l : List Value) (d : TypeDesc)
    (hb : W.heap[b]? = some (.cells l.toArray T (0, 0))) (hu : P.underlying ty = some d) (hd : d.isRow = true) (hi : (P.info? ty).map (·.size) = some l.length) (h : S (.agg l.toArray) W) : comesToR P S ((execOp a.eval o).run P W) := by
  unfold execOp
  simp only [ho, hx, Instr.loadAt, Instr.sureAddr, Sem.run_bind, Sem.run_pure, Result.andThen_ok, run_loadVar_mid W b 0 ty l d (range_of_block hb) hu hd hi]
  exact h
theorem comesToR_ok {P : Program} {o : Oper} {a : Act} {W : World} {S : Rel} {v : Value} (h : (execOp a.eval o).run P W = .ok (.value v) W) (hS : S v W) : comesToR P S ((execOp a.eval o).run P W) := by rw [h]; exact hS
/-- two structs or arrays held against each other -/
theorem comesToR_eql {P : Program} {o : Oper} {a : Act} {W : World} {S : Rel} (ty ty2 : TypeId) (x y : Operand) (ho : o.op = .binOp .eql ty x y ty2) (xs ys : Array Value) (hx : a.eval x = .agg xs) (hy : a.eval y = .agg ys) (hm : P.eqGuardType P.depth ty = false) {b : Bool}
    (he : (Op.equalIn 10000 ty (.agg xs) (.agg ys)).run P W = .ok b W) (hS : S (.bool b) W) : comesToR P S ((execOp a.eval o).run P W) := by
  refine comesToR_ok ?_ hS
  unfold execOp
  simp only [ho, hx, hy, Sem.run_bind, run_eqGuard_agg W .eql ty x y xs ys hm, Result.andThen_ok, run_eql_struct, he]
  rfl
theorem comesToR_neq {P : Program} {o : Oper} {a : Act} {W : World} {S : Rel} (ty ty2 : TypeId) (x y : Operand) (ho : o.op = .binOp .neq ty x y ty2) (xs ys : Array Value) (hx : a.eval x = .agg xs) (hy : a.eval y = .agg ys) (hm : P.eqGuardType P.depth ty = false) {b : Bool}
    (he : (Op.equalIn 10000 ty (.agg xs) (.agg ys)).run P W = .ok b W) (hS : S (.bool (!b)) W) : comesToR P S ((execOp a.eval o).run P W) := by
  refine comesToR_ok ?_ hS
  unfold execOp
  simp only [ho, hx, hy, Sem.run_bind, run_eqGuard_agg W .neq ty x y xs ys hm, Result.andThen_ok, run_neq_struct, he]
  rfl
end Rl
end Go.Proofs.Ytmpknjlfabpipaa
