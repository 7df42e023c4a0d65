/- Contracts of the functions of layer 8 (health). No condition but that numbers fit their kinds. -/
import Derived.Test.YtdpfbpmdpdfpdaaDoorRows
import Derived.WalkKit
import Derived.ProofKit
import Derived.OpenShut
import Derived.Below
import Derived.Outline
import Derived.WalkLawsBesides
import Derived.Deep.RegionHeld3
import Derived.Deep.DrawnRows
import Derived.Lib.Hide
namespace Go.Proofs.YtdpfbpmdpdfpdaaDoor
set_option linter.unusedVariables false
open Go.ChangeShapes Go.WideShapes Go.ChangeAt Go.RowKit

theorem bcell {W w1 : World} (hb : Below W.heap.size W w1) : (∀ b o, b < W.heap.size → w1.cell? ⟨b, o, none⟩ = W.cell? ⟨b, o, none⟩) ∧ (∀ b o, b < W.heap.size → w1.frozen? ⟨b, o, none⟩ = W.frozen? ⟨b, o, none⟩) :=
  ⟨fun b o h => hb.cell (p := ⟨b, o, none⟩) h, fun b o h => hb.frozen (p := ⟨b, o, none⟩) h⟩
theorem below_alloc {W0 W : World} (h : Below W0.heap.size W0 W) (o : Obj) : Below W0.heap.size W0 (W.alloc o) := h.alloc h.size o
theorem below_next {W0 W w2 : World} (h : Below W0.heap.size W0 W) (hb : Below W.heap.size W w2) : Below W0.heap.size W0 w2 := h.trans (hb.mono h.size)
theorem ret_bool {a b : Bool} (h : a = b) : Ending.returned (.bool a) = .returned (.bool b) := by rw [h]
def rightR (S D P : Int) : Bool := decide (1 ≤ S ∧ S < D ∧ D ≤ 1000 ∧ 1 ≤ P ∧ P ≤ 1000)
def rightN (t m b S D P : Int) : Bool :=
  decide ((t = 0 ∧ 0 ≤ m ∧ m < S ∧ b = 0) ∨ (t = 1 ∧ S ≤ m ∧ m < D ∧ 0 ≤ b ∧ b < P) ∨ ((t = 2 ∨ t = 3) ∧ m = 0 ∧ b = 0) ∨ (t = 4 ∧ m = 0 ∧ 0 ≤ b ∧ b < P))

set_option maxHeartbeats 1000000 in
theorem rightR_any (S D P : Int) (w : World) :
    Calls Tryd.prog 55 #[.agg #[.int .i64 S, .int .i64 D, .int .i64 P]] w fun e w' => e = .returned (.bool (rightR S D P)) ∧ Below w.heap.size w w' := by
  go_enter Tryd.func55, Tryd.ntmps55
  go_wp2
  all_goals go_ret
  all_goals exact ⟨ret_bool (by unfold rightR; rw [Bool.eq_iff_iff]; simp; omega), (by repeat (first | exact Below.refl _ _ | assumption | refine below_drewN ?_ _ | refine Below.drew ?_ | refine below_alloc ?_ _ | refine Below.alloc ?_ (by first | omega | (simp; done) | (simp; omega)) _ | refine Below.setCell ?_ (Below.size (by assumption)) _ | refine Below.setCell ?_ (by first | omega | (simp; done) | (simp; omega)) _ | (refine Below.trans ?_ (Below.mono (by assumption) (by first | omega | (simp; done) | (simp; omega)))) | refine below_next ?_ (by assumption)))⟩
set_option maxHeartbeats 2000000 in
theorem rightN_any (t m b S D P : Int) (w : World) :
    Calls Tryd.prog 94 #[.agg #[.int .i64 t, .int .i64 m, .int .i64 b], .agg #[.int .i64 S, .int .i64 D, .int .i64 P]] w fun e w' => e = .returned (.bool (rightN t m b S D P)) ∧ Below w.heap.size w w' := by
  go_enter Tryd.func94, Tryd.ntmps94
  go_wp2
  all_goals go_ret
  all_goals refine ⟨ret_bool ?_, (by repeat (first | exact Below.refl _ _ | assumption | refine below_drewN ?_ _ | refine Below.drew ?_ | refine below_alloc ?_ _ | refine Below.alloc ?_ (by first | omega | (simp; done) | (simp; omega)) _ | refine Below.setCell ?_ (Below.size (by assumption)) _ | refine Below.setCell ?_ (by first | omega | (simp; done) | (simp; omega)) _ | (refine Below.trans ?_ (Below.mono (by assumption) (by first | omega | (simp; done) | (simp; omega)))) | refine below_next ?_ (by assumption)))⟩
  all_goals (unfold rightN; rw [Bool.eq_iff_iff]; simp only [beq_iff_eq, beq_eq_false_iff_ne, ne_eq, decide_eq_true_eq, Bool.and_eq_true, Bool.false_eq_true, true_iff, false_iff, iff_true, iff_false] at *; omega)

/-- a node behind a beat; behind a miss -/
def beatI (t m b P : Int) : Int × Int × Int := if t = 0 then (0, 0, b) else if t = 1 ∨ t = 4 then (if b + 1 = P then (0, 0, 0) else (t, m, b + 1)) else (t, m, b)
def missI (t m b S D : Int) : Int × Int × Int := if t = 0 then (if m + 1 = S then (1, m + 1, b) else (0, m + 1, b)) else if t = 1 then (if m + 1 = D then (2, 0, 0) else (1, m + 1, 0)) else if t = 4 then (2, 0, 0) else (t, m, b)
def fromI (t m b x y : Int) : Int × Int × Int := if t = x then (y, 0, 0) else (t, m, b)
def aggN (x : Int × Int × Int) : Value := .agg #[.int .i64 x.1, .int .i64 x.2.1, .int .i64 x.2.2]

set_option maxHeartbeats 2000000 in
theorem from_any (t m b x y : Int) (w : World) :
    Calls Tryd.prog 97 #[.agg #[.int .i64 t, .int .i64 m, .int .i64 b], .int .i64 x, .int .i64 y] w fun e w' => e = .returned (aggN (fromI t m b x y)) ∧ Below w.heap.size w w' := by
  by_cases h : t = x
  · have e : fromI t m b x y = (y, 0, 0) := by unfold fromI; rw [if_pos h]
    rw [e]
    have hb : (t != x) = false := by simp [h]
    clear e h
    go_enter Tryd.func97, Tryd.ntmps97
    go_wp2
    exact bodyPost_ret (v := .agg #[.int .i64 y, .int .i64 0, .int .i64 0]) (by simp [results, Tryd.results97, go_sem]) rfl ⟨rfl, (by repeat (first | exact Below.refl _ _ | assumption | refine below_drewN ?_ _ | refine Below.drew ?_ | refine below_alloc ?_ _ | refine Below.alloc ?_ (by first | omega | (simp; done) | (simp; omega)) _ | refine Below.setCell ?_ (Below.size (by assumption)) _ | refine Below.setCell ?_ (by first | omega | (simp; done) | (simp; omega)) _ | (refine Below.trans ?_ (Below.mono (by assumption) (by first | omega | (simp; done) | (simp; omega)))) | refine below_next ?_ (by assumption)))⟩
  · have e : fromI t m b x y = (t, m, b) := by unfold fromI; rw [if_neg h]
    rw [e]
    have hb : (t != x) = true := by simp [h]
    clear e h
    go_enter Tryd.func97, Tryd.ntmps97
    go_wp2
    exact bodyPost_ret (v := .agg #[.int .i64 t, .int .i64 m, .int .i64 b]) (by simp [results, Tryd.results97, go_sem]) rfl ⟨rfl, (by repeat (first | exact Below.refl _ _ | assumption | refine below_drewN ?_ _ | refine Below.drew ?_ | refine below_alloc ?_ _ | refine Below.alloc ?_ (by first | omega | (simp; done) | (simp; omega)) _ | refine Below.setCell ?_ (Below.size (by assumption)) _ | refine Below.setCell ?_ (by first | omega | (simp; done) | (simp; omega)) _ | (refine Below.trans ?_ (Below.mono (by assumption) (by first | omega | (simp; done) | (simp; omega)))) | refine below_next ?_ (by assumption)))⟩
set_option maxHeartbeats 2000000 in
theorem beat_any (t m b S D P : Int) (b0 : 0 ≤ b) (b1 : b ≤ 1000) (w : World) :
    Calls Tryd.prog 95 #[.agg #[.int .i64 t, .int .i64 m, .int .i64 b], .agg #[.int .i64 S, .int .i64 D, .int .i64 P]] w fun e w' => e = .returned (aggN (beatI t m b P)) ∧ Below w.heap.size w w' := by
  by_cases h0 : t = 0
  · have e : beatI t m b P = (0, 0, b) := by unfold beatI; rw [if_pos h0]
    rw [e]
    clear e
    subst h0
    go_enter Tryd.func95, Tryd.ntmps95
    go_wp2
    exact bodyPost_ret (v := .agg #[.int .i64 0, .int .i64 0, .int .i64 b]) (by simp [results, Tryd.results95, go_sem]) rfl ⟨rfl, (by repeat (first | exact Below.refl _ _ | assumption | refine below_drewN ?_ _ | refine Below.drew ?_ | refine below_alloc ?_ _ | refine Below.alloc ?_ (by first | omega | (simp; done) | (simp; omega)) _ | refine Below.setCell ?_ (Below.size (by assumption)) _ | refine Below.setCell ?_ (by first | omega | (simp; done) | (simp; omega)) _ | (refine Below.trans ?_ (Below.mono (by assumption) (by first | omega | (simp; done) | (simp; omega)))) | refine below_next ?_ (by assumption)))⟩
  by_cases h1 : t = 1 ∨ t = 4
  · by_cases h2 : b + 1 = P
    · have e : beatI t m b P = (0, 0, 0) := by unfold beatI; rw [if_neg h0, if_pos h1, if_pos h2]
      rw [e]
      clear e
      have hb : (b + 1 == P) = true := by simp [h2]
      clear h2 h0
      rcases h1 with rfl | rfl
      all_goals
        go_enter Tryd.func95, Tryd.ntmps95
        go_wp2
        exact bodyPost_ret (v := .agg #[.int .i64 0, .int .i64 0, .int .i64 0]) (by simp [results, Tryd.results95, go_sem]) rfl ⟨rfl, (by repeat (first | exact Below.refl _ _ | assumption | refine below_drewN ?_ _ | refine Below.drew ?_ | refine below_alloc ?_ _ | refine Below.alloc ?_ (by first | omega | (simp; done) | (simp; omega)) _ | refine Below.setCell ?_ (Below.size (by assumption)) _ | refine Below.setCell ?_ (by first | omega | (simp; done) | (simp; omega)) _ | (refine Below.trans ?_ (Below.mono (by assumption) (by first | omega | (simp; done) | (simp; omega)))) | refine below_next ?_ (by assumption)))⟩
    · have e : beatI t m b P = (t, m, b + 1) := by unfold beatI; rw [if_neg h0, if_pos h1, if_neg h2]
      rw [e]
      clear e
      have hb : (b + 1 == P) = false := by simp [h2]
      clear h2 h0
      rcases h1 with rfl | rfl
      · go_enter Tryd.func95, Tryd.ntmps95
        go_wp2
        exact bodyPost_ret (v := .agg #[.int .i64 1, .int .i64 m, .int .i64 (b + 1)]) (by simp [results, Tryd.results95, go_sem]) rfl ⟨rfl, (by repeat (first | exact Below.refl _ _ | assumption | refine below_drewN ?_ _ | refine Below.drew ?_ | refine below_alloc ?_ _ | refine Below.alloc ?_ (by first | omega | (simp; done) | (simp; omega)) _ | refine Below.setCell ?_ (Below.size (by assumption)) _ | refine Below.setCell ?_ (by first | omega | (simp; done) | (simp; omega)) _ | (refine Below.trans ?_ (Below.mono (by assumption) (by first | omega | (simp; done) | (simp; omega)))) | refine below_next ?_ (by assumption)))⟩
      · go_enter Tryd.func95, Tryd.ntmps95
        go_wp2
        exact bodyPost_ret (v := .agg #[.int .i64 4, .int .i64 m, .int .i64 (b + 1)]) (by simp [results, Tryd.results95, go_sem]) rfl ⟨rfl, (by repeat (first | exact Below.refl _ _ | assumption | refine below_drewN ?_ _ | refine Below.drew ?_ | refine below_alloc ?_ _ | refine Below.alloc ?_ (by first | omega | (simp; done) | (simp; omega)) _ | refine Below.setCell ?_ (Below.size (by assumption)) _ | refine Below.setCell ?_ (by first | omega | (simp; done) | (simp; omega)) _ | (refine Below.trans ?_ (Below.mono (by assumption) (by first | omega | (simp; done) | (simp; omega)))) | refine below_next ?_ (by assumption)))⟩
  · have e : beatI t m b P = (t, m, b) := by unfold beatI; rw [if_neg h0, if_neg h1]
    rw [e]
    clear e
    have g0 : (t == 0) = false := by simp [h0]
    have g1 : (t == 1) = false := by simp; omega
    have g4 : (t == 4) = false := by simp; omega
    clear h0 h1
    go_enter Tryd.func95, Tryd.ntmps95
    go_wp2
    exact bodyPost_ret (v := .agg #[.int .i64 t, .int .i64 m, .int .i64 b]) (by simp [results, Tryd.results95, go_sem]) rfl ⟨rfl, (by repeat (first | exact Below.refl _ _ | assumption | refine below_drewN ?_ _ | refine Below.drew ?_ | refine below_alloc ?_ _ | refine Below.alloc ?_ (by first | omega | (simp; done) | (simp; omega)) _ | refine Below.setCell ?_ (Below.size (by assumption)) _ | refine Below.setCell ?_ (by first | omega | (simp; done) | (simp; omega)) _ | (refine Below.trans ?_ (Below.mono (by assumption) (by first | omega | (simp; done) | (simp; omega)))) | refine below_next ?_ (by assumption)))⟩
end Go.Proofs.YtdpfbpmdpdfpdaaDoor
