/- The marks that loops over iterators leave among a function's deferred calls, one a loop: kept by what the function does, and taken off at its return. No condition but that each block lies as the loop left it. -/
import Derived.Test.YtbhnjmdlagjfbaaMaj
import Derived.RangeFuncNested
import Derived.RangeFuncBound
import Derived.RangeFuncLeaves
import Derived.Below
import Derived.Scope
namespace Go.Proofs.Ytbhnjmdlagjfbaa
set_option linter.unusedVariables false
open Go Go.RowKit
section
variable {P : Program} {F : Fence} {n : Nat} {b : Frame} {a : Act} {k : List Item} {cs : List Frame} {w : World} {Q : Exit → Act → World → Prop}
theorem stepR_scope {c : Code} : step P (lone (b.atR a (.code (.scope c) :: k)) cs w) = .next (lone (b.atR a (.code c :: .inScope c :: k)) cs w) :=
  step_lone_go (by simp [stepG, stepG.exec, Frame.atR])
theorem stepR_inScope {c : Code} : step P (lone (b.atR a (.inScope c :: k)) cs w) = .next (lone (b.atR a k) cs w) :=
  step_lone_go (by simp [stepG, stepG.exec, Frame.atR])
/-- a scope out of which no goto leads, in a fence -/
theorem wpIn_scope {c : Code} (h : c.wpIn F n P (Exit.noGoto Q) a w) : (Code.scope c).wpIn F n P Q a w := by
  intro b k cs hro hb hr
  have h0 : (lone (b.atR a (.code (.scope c) :: k)) cs w).fenced P F := fenced_calm hb hr rfl
  obtain ⟨e, a₁, w₁, hq, harr⟩ := h b (.inScope c :: k) cs hro hb hr
  cases e with
  | normal => exact ⟨.normal, a₁, w₁, hq, .head h0 stepR_scope (StepsIn.trans harr (.one (fenced_calm hb hr rfl) stepR_inScope))⟩
  | exit id =>
    have hx : exitTo id (.inScope c :: k) = exitTo id k := by simp [exitTo]
    exact ⟨.exit id, a₁, w₁, hq, fun k' hk => .head h0 stepR_scope (harr.1 k' (by rw [hx]; exact hk)),
      fun hr' hk => let ⟨k₁, h1, h2⟩ := harr.2 hr' (by rw [hx]; exact hk); ⟨k₁, h1, .head h0 stepR_scope h2⟩⟩
  | goto l => exact hq.elim
  | ret => exact ⟨_, a₁, w₁, hq, .of_steps (.one h0 stepR_scope) harr⟩
  | panic ch => exact ⟨_, a₁, w₁, hq, .of_steps (.one h0 stepR_scope) harr⟩
  | outgrown => exact ⟨_, a₁, w₁, hq, .of_steps (.one h0 stepR_scope) harr⟩
end
/-- the marks of loops that are over: their blocks lie from n₀ on, ahead of hi -/
def MarksAt (n₀ hi : Nat) (ds : List Deferred) (W : World) : Prop :=
  ∃ Ds : List Nat, ds = Ds.map (fun D => { target := .collected D, args := #[] }) ∧ Ds.Nodup ∧ ∀ D ∈ Ds, n₀ ≤ D ∧ D < hi ∧ W.heap[D]? = some (.deferred (some []))
theorem MarksAt.nil (n₀ hi : Nat) (W : World) : MarksAt n₀ hi [] W := ⟨[], rfl, .nil, fun _ h => by cases h⟩
theorem MarksAt.wide {n₀ hi hi' : Nat} {ds : List Deferred} {W : World} (h : MarksAt n₀ hi ds W) (hh : hi ≤ hi') : MarksAt n₀ hi' ds W := by
  obtain ⟨Ds, h1, h2, h3⟩ := h
  exact ⟨Ds, h1, h2, fun D hD => ⟨(h3 D hD).1, by have := (h3 D hD).2.1; omega, (h3 D hD).2.2⟩⟩
theorem MarksAt.below {n₀ hi : Nat} {ds : List Deferred} {W W' : World} (h : MarksAt n₀ hi ds W) (hb : Below W.heap.size W W') : MarksAt n₀ hi ds W' := by
  obtain ⟨Ds, h1, h2, h3⟩ := h
  exact ⟨Ds, h1, h2, fun D hD => ⟨(h3 D hD).1, (h3 D hD).2.1, (hb.block D (Array.getElem?_eq_some_iff.1 (h3 D hD).2.2).1).trans (h3 D hD).2.2⟩⟩
theorem MarksAt.others {n₀ hi : Nat} {ds : List Deferred} {W W' : World} (h : MarksAt n₀ hi ds W) (hb : KeepsOthers W W') : MarksAt n₀ hi ds W' := by
  obtain ⟨Ds, h1, h2, h3⟩ := h
  exact ⟨Ds, h1, h2, fun D hD => ⟨(h3 D hD).1, (h3 D hD).2.1, hb.same D _ (h3 D hD).2.2 rfl⟩⟩
theorem MarksAt.ownFrom {β : Type} {n₀ hi B : Nat} {ds : List Deferred} (hB : hi ≤ B) : OwnFrom B (fun (_ : β) W => MarksAt n₀ hi ds W) := by
  rintro s W W' row ⟨Ds, h1, h2, h3⟩ hg hr
  refine ⟨Ds, h1, h2, fun D hD => ⟨(h3 D hD).1, (h3 D hD).2.1, ?_⟩⟩
  refine (hg.block D (Array.getElem?_eq_some_iff.1 (h3 D hD).2.2).1 (fun e => ?_)).trans (h3 D hD).2.2
  have := (hr D e.symm).1
  have := (h3 D hD).2.1
  omega
theorem MarksAt.cons {n₀ hi hi' D : Nat} {ds : List Deferred} {W : World} (h : MarksAt n₀ hi ds W) (h0 : n₀ ≤ D) (h1 : hi ≤ D) (h2 : D < hi') (hK : W.heap[D]? = some (.deferred (some []))) :
    MarksAt n₀ hi' ({ target := .collected D, args := #[] } :: ds) W := by
  obtain ⟨Ds, e1, e2, e3⟩ := h
  refine ⟨D :: Ds, by rw [e1]; rfl, List.nodup_cons.2 ⟨fun hm => ?_, e2⟩, fun E hE => ?_⟩
  · have := (e3 D hm).2.1; omega
  · rcases List.mem_cons.1 hE with rfl | hE
    · exact ⟨h0, h2, hK⟩
    · exact ⟨(e3 E hE).1, by have := (e3 E hE).2.1; omega, (e3 E hE).2.2⟩
theorem MarksAt.leaves {F : Fence} {n : Nat} {P : Program} {fn : Func} {tmps : Array Value} {R : Ending → World → Prop} {n₀ hi : Nat} :
    ∀ (ds : List Deferred) (W : World), MarksAt n₀ hi ds W → n₀ ≤ W.heap.size → (∀ W', Below n₀ W W' → LeavesIn F n P fn tmps R [] .returning W') → LeavesInM F n P fn tmps R ds .returning W
  | [], W, _, _, h => h W (Below.refl _ _)
  | d :: ds, W, hM, hn, h => by
    obtain ⟨Ds, e1, e2, e3⟩ := hM
    cases Ds with
    | nil => cases e1
    | cons D Ds =>
      simp only [List.map_cons, List.cons.injEq] at e1
      obtain ⟨rfl, e1⟩ := e1
      obtain ⟨a1, a2, a3⟩ := e3 D (by simp)
      have hb : Below n₀ W (W.putObj D (.deferred none)) := (Below.refl n₀ W).grown (grownBy_putObj' W D _) hn (fun k e => by cases e; exact a1)
      refine ⟨by simp, .inl ⟨_, _, rfl, run_takeDeferred a3, ?_⟩⟩
      refine MarksAt.leaves ds _ ⟨Ds, e1, (List.nodup_cons.1 e2).2, fun E hE => ⟨(e3 E (by simp [hE])).1, (e3 E (by simp [hE])).2.1, ?_⟩⟩ (Nat.le_trans hn hb.size) (fun W' hb' => h W' (hb.trans hb'))
      have hne : E ≠ D := fun e => (List.nodup_cons.1 e2).1 (e ▸ hE)
      exact (World.putObj_heap_other hne).trans (e3 E (by simp [hE])).2.2
end Go.Proofs.Ytbhnjmdlagjfbaa
