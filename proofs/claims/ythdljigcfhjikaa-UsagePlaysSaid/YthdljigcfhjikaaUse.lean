/- Rows of steps that a call has made itself (layer 10). Condition: at most 2^40 of them. -/
import Derived.Test.YthdljigcfhjikaaUsd
import Derived.Laws.OwnMore
import Derived.Laws.MakeOwn
import Derived.Maps.AppendAt
import Derived.OwnWalk
namespace Go.Proofs.Ythdljigcfhjikaa
set_option linter.unusedVariables false
open Go.ChangeShapes Go.WideShapes Go.ChangeAt Go.RowKit

def flatU : List (Int × Int) → List Value
  | [] => []
  | p :: r => .int .i64 p.1 :: .int .i64 p.2 :: flatU r
theorem flatU_length : ∀ l, (flatU l).length = l.length * 2
  | [] => rfl
  | p :: r => by simp [flatU, flatU_length r]; omega
theorem flatU_append : ∀ a b, flatU (a ++ b) = flatU a ++ flatU b
  | [], b => rfl
  | p :: r, b => by simp [flatU, flatU_append r b]
theorem flatU_get : ∀ (l : List (Int × Int)) (k : Nat), k < l.length → (flatU l)[k * 2]? = some (.int .i64 (l.getD k (0, 0)).1) ∧ (flatU l)[k * 2 + 1]? = some (.int .i64 (l.getD k (0, 0)).2)
  | [], k, h => by simp at h
  | p :: r, 0, _ => by simp [flatU]
  | p :: r, k + 1, h => by
    have := flatU_get r k (by simpa using h)
    rw [show (k + 1) * 2 = k * 2 + 1 + 1 by omega]
    simpa [flatU] using this
theorem flatU_one (l : List (Int × Int)) : ∀ u ∈ flatU l, u.oneCell' = true := by
  induction l with
  | nil => intro u hu; simp [flatU] at hu
  | cons p r ih =>
    intro u hu
    simp only [flatU, List.mem_cons] at hu
    rcases hu with rfl | rfl | hu
    · rfl
    · rfl
    · exact ih u hu
theorem info_step : (Try.prog.info? 60).map (fun i => (i.zero, i.size, i.bytes)) = some (some (.agg #[.int .i64 0, .int .i64 0]), 2, 16) := by kernel_rfl
theorem info_parts3 {i? : Option TypeInfo} {z : Value} {s b : Nat} (h : i?.map (fun i => (i.zero, i.size, i.bytes)) = some (some z, s, b)) : ∃ i, i? = some i ∧ i.zero = some z ∧ i.size = s ∧ i.bytes = b := by
  cases i? with
  | none => cases h
  | some i => injection h with h; injection h with h1 h2; injection h2 with h2 h3; exact ⟨i, rfl, h1, h2, h3⟩
/-- a row of steps of the call's own, from block B on -/
def OwnU (w : World) (B : Nat) (v : Value) (l : List (Int × Int)) : Prop := w.ownsRow B 60 2 v l.length (flatU l)
theorem OwnU.blockOf {w w' : World} {B : Nat} {v : Value} {l : List (Int × Int)} (h : OwnU w B v l) (hb : ∀ k, v.ownBlock = some k → w'.heap[k]? = w.heap[k]?) : OwnU w' B v l := by
  refine ⟨h.1, ?_⟩
  rcases h.2 with hn | ⟨g, cap, cur, hv, hB, hg, rest⟩
  · exact .inl hn
  · refine .inr ⟨g, cap, cur, hv, hB, ?_, rest⟩
    rw [hb g (by rw [hv]; rfl)]; exact hg
theorem OwnU.lt {w : World} {B : Nat} {v : Value} {l : List (Int × Int)} (h : OwnU w B v l) {k : Nat} (hk : v.ownBlock = some k) : B ≤ k ∧ k < w.heap.size := by
  rcases h.2 with ⟨rfl, _⟩ | ⟨g, cap, cur, rfl, hB, hg, rest⟩
  · cases hk
  · simp only [Value.ownBlock, Option.some.injEq] at hk
    subst hk
    exact ⟨hB, (Array.getElem?_eq_some_iff.1 hg).1⟩
theorem OwnU.below {w w' : World} {B : Nat} {v : Value} {l : List (Int × Int)} (h : OwnU w B v l) (hb : Below w.heap.size w w') : OwnU w' B v l := h.blockOf fun k hk => hb.block k (h.lt hk).2
theorem OwnU.nil {w : World} {B : Nat} : OwnU w B (.slice none 0 0) [] := ⟨rfl, .inl ⟨rfl, rfl⟩⟩
theorem OwnU.form {w : World} {B : Nat} {v : Value} {l : List (Int × Int)} (h : OwnU w B v l) : ∃ ad c, v = .slice ad l.length c ∧ l.length ≤ c ∧ (0 < l.length → ∃ g, ad = some ⟨g, 0, none⟩ ∧ B ≤ g ∧ g < w.heap.size) := by
  rcases h.2 with ⟨e, h0⟩ | ⟨g, cap, cur, e, hB, hg, hc, _⟩
  · exact ⟨none, 0, by rw [e, h0], by omega, fun h => by omega⟩
  · exact ⟨_, cap, e, hc, fun _ => ⟨g, rfl, hB, (Array.getElem?_eq_some_iff.1 hg).1⟩⟩
theorem OwnU.row {w : World} {B g n c : Nat} {l : List (Int × Int)} (h : OwnU w B (.slice (some ⟨g, 0, none⟩) n c) l) : URow w g l := by
  have hn : n = l.length := by
    rcases h.2 with ⟨e, _⟩ | ⟨g', cap, cur, e, _⟩ <;> cases e <;> rfl
  subst hn
  intro k hk
  have h1 := flatU_get l k hk
  exact ⟨(h.cellAt (k * 2) (by omega)).trans h1.1, (h.cellAt (k * 2 + 1) (by omega)).trans h1.2⟩
section
variable {ops : Array Oper} {rest : List Oper} {o : Oper} {a : Act} {w : World} {Q : Exit → Act → World → Prop}
/-- APPEND of one step -/
theorem wpList_append_step (hgd : o.guard = none) (s x : Operand)
    (ho : o.op = .call { callee := .builtin .append, args := #[s, x], argTypes := #[55, 55] })
    (B : Nat) (v : Value) (l : List (Int × Int)) (hs : a.eval s = v) (hown : OwnU w B v l) (g c : Nat) (p : Int × Int) (hx : a.eval x = .slice (some ⟨g, 0, none⟩) 1 c)
    (c0 : w.cell? ⟨g, 0, none⟩ = some (.int .i64 p.1)) (c1 : w.cell? ⟨g, 1, none⟩ = some (.int .i64 p.2)) (h63 : l.length + 1 ≤ 4398046511104) (hB : B ≤ w.heap.size)
    (h : ∀ (v' : Value) (w' : World), OwnU w' B v' (l ++ [p]) → w.grownBy w' v.ownBlock → (v'.ownBlock = v.ownBlock ∨ v'.ownBlock = some w.heap.size) → wpList Try.prog ops Q rest (a.put o.dst v') w') : wpList Try.prog ops Q (o :: rest) a w := by
  obtain ⟨i0, hi, hz0, hz1, hz2⟩ := info_parts3 info_step
  refine wpList_append_own_at w hgd s x 55 ho B 60 i0 (.agg #[.int .i64 0, .int .i64 0]) 2 16 Try.underlying55 hi hz0 hz1 hz2 rfl (by decide) v l.length (flatU l) hs hown
      ⟨g, 0, none⟩ 1 c (flatU [p]) hx rfl (fun j u hj => ?_) (fun u hu => flatU_one _ u hu) (by unfold maxLen; omega) (by omega) hB (fun v' w' h1 h2 _ h4 => ?_)
  · match j, hj with
    | 0, hj => simp [flatU] at hj; subst hj; simpa [Addr.add] using c0
    | 1, hj => simp [flatU] at hj; subst hj; simpa [Addr.add] using c1
    | j + 2, hj => simp [flatU] at hj
  · exact h v' w' (by unfold OwnU; rw [List.length_append, flatU_append]; exact h1) h2 h4
/-- a row made with spare room -/
theorem wpList_make_step (hgd : o.guard = none) (x y : Operand) (ho : o.op = .makeSlice 55 x y) (c : Nat) (hx : a.eval x = .int .i64 0) (hy : a.eval y = .int .i64 (c : Int)) (hc : c ≤ 1099511627780)
    (h : ∀ cs, OwnU (w.alloc (.cells cs 60)) w.heap.size (.slice (some ⟨w.heap.size, 0, none⟩) 0 c) [] → wpList Try.prog ops Q rest (a.put o.dst (.slice (some ⟨w.heap.size, 0, none⟩) 0 c)) (w.alloc (.cells cs 60))) : wpList Try.prog ops Q (o :: rest) a w := by
  obtain ⟨i0, hi, hz0, hz1, hz2⟩ := info_parts3 info_step
  obtain ⟨w', hr, h1, h2⟩ := run_make_own (P := Try.prog) w w.heap.size 55 60 i0 (.agg #[.int .i64 0, .int .i64 0]) 2 Try.underlying55 hi hz0 hz1 .i64 .i64 c (by rw [hz2]; omega) (by unfold maxLen; omega) (Nat.le_refl _)
  have hr2 := run_make (P := Try.prog) w 55 60 i0 (.agg #[.int .i64 0, .int .i64 0]) Try.underlying55 hi hz0 .i64 .i64 0 (c : Int) (Int.le_refl _) (by omega) (by rw [hz2]; omega) (by omega)
  have he := hr.symm.trans hr2
  injection he with _ he
  subst he
  have h3 : OwnU _ w.heap.size (.slice (some ⟨w.heap.size, 0, none⟩) 0 c) [] := h1
  refine wpList_yield hgd ?_ (h _ h3)
  unfold execOp
  simp only [ho, hx, hy, Sem.run_bind, hr, Result.andThen_ok]
  rfl
end
theorem grown_below {w w' : World} {r : Option Nat} {B : Nat} (h : w.grownBy w' r) (hB : B ≤ w.heap.size) (hr : ∀ k, r = some k → B ≤ k) : Below B w w' := Below.grown (Below.refl _ _) h hB hr
end Go.Proofs.Ythdljigcfhjikaa
