/- Laws that belong together: Contracts of the functions of layer 8 (health). No condition but that numbers fit their kinds.; Contracts of miss and Next. -/
import Derived.Test.YtnofgffkfapodaaDoorRows
import Derived.WalkKit
import Derived.ProofKit
import Derived.OpenShut
import Derived.Below
import Derived.Outline
import Derived.WalkLawsBesides
import Derived.Deep.RegionHeld3
import Derived.Deep.DrawnRows
import Derived.Lib.Hide
namespace Go.Proofs.YtnofgffkfapodaaDoor
set_option linter.unusedVariables false
open Go.ChangeShapes Go.WideShapes Go.ChangeAt Go.RowKit

theorem bcell {W w1 : World} (hb : Below W.heap.size W w1) : (∀ b o, b < W.heap.size → w1.cell? ⟨b, o, none⟩ = W.cell? ⟨b, o, none⟩) ∧ (∀ b o, b < W.heap.size → w1.frozen? ⟨b, o, none⟩ = W.frozen? ⟨b, o, none⟩) :=
  ⟨fun b o h => hb.cell (p := ⟨b, o, none⟩) h, fun b o h => hb.frozen (p := ⟨b, o, none⟩) h⟩
theorem below_alloc {W0 W : World} (h : Below W0.heap.size W0 W) (o : Obj) : Below W0.heap.size W0 (W.alloc o) := h.alloc h.size o
theorem below_next {W0 W w2 : World} (h : Below W0.heap.size W0 W) (hb : Below W.heap.size W w2) : Below W0.heap.size W0 w2 := h.trans (hb.mono h.size)
theorem ret_bool {a b : Bool} (h : a = b) : Ending.returned (.bool a) = .returned (.bool b) := by rw [h]
def rightR (S D P : Int) : Bool := decide (1 ≤ S ∧ S < D ∧ D ≤ 1000 ∧ 1 ≤ P ∧ P ≤ 1000)
def rightN (t m b S D P : Int) : Bool :=
  decide ((t = 0 ∧ 0 ≤ m ∧ m < S ∧ b = 0) ∨ (t = 1 ∧ S ≤ m ∧ m < D ∧ 0 ≤ b ∧ b < P) ∨ ((t = 2 ∨ t = 3) ∧ m = 0 ∧ b = 0) ∨ (t = 4 ∧ m = 0 ∧ 0 ≤ b ∧ b < P))

set_option maxHeartbeats 1000000 in
theorem rightR_any (S D P : Int) (w : World) :
    Calls Tryd.prog 31 #[.agg #[.int .i64 S, .int .i64 D, .int .i64 P]] w fun e w' => e = .returned (.bool (rightR S D P)) ∧ Below w.heap.size w w' := by
  go_enter Tryd.func31, Tryd.ntmps31
  go_wp2
  all_goals go_ret
  all_goals exact ⟨ret_bool (by unfold rightR; rw [Bool.eq_iff_iff]; simp; omega), (by repeat (first | exact Below.refl _ _ | assumption | refine below_drewN ?_ _ | refine Below.drew ?_ | refine below_alloc ?_ _ | refine Below.alloc ?_ (by first | omega | (simp; done) | (simp; omega)) _ | refine Below.setCell ?_ (Below.size (by assumption)) _ | refine Below.setCell ?_ (by first | omega | (simp; done) | (simp; omega)) _ | (refine Below.trans ?_ (Below.mono (by assumption) (by first | omega | (simp; done) | (simp; omega)))) | refine below_next ?_ (by assumption)))⟩
set_option maxHeartbeats 2000000 in
theorem rightN_any (t m b S D P : Int) (w : World) :
    Calls Tryd.prog 59 #[.agg #[.int .i64 t, .int .i64 m, .int .i64 b], .agg #[.int .i64 S, .int .i64 D, .int .i64 P]] w fun e w' => e = .returned (.bool (rightN t m b S D P)) ∧ Below w.heap.size w w' := by
  go_enter Tryd.func59, Tryd.ntmps59
  go_wp2
  all_goals go_ret
  all_goals refine ⟨ret_bool ?_, (by repeat (first | exact Below.refl _ _ | assumption | refine below_drewN ?_ _ | refine Below.drew ?_ | refine below_alloc ?_ _ | refine Below.alloc ?_ (by first | omega | (simp; done) | (simp; omega)) _ | refine Below.setCell ?_ (Below.size (by assumption)) _ | refine Below.setCell ?_ (by first | omega | (simp; done) | (simp; omega)) _ | (refine Below.trans ?_ (Below.mono (by assumption) (by first | omega | (simp; done) | (simp; omega)))) | refine below_next ?_ (by assumption)))⟩
  all_goals (unfold rightN; rw [Bool.eq_iff_iff]; simp only [beq_iff_eq, beq_eq_false_iff_ne, ne_eq, decide_eq_true_eq, Bool.and_eq_true, Bool.false_eq_true, true_iff, false_iff, iff_true, iff_false] at *; omega)

/-- a node behind a beat; behind a miss -/
def beatI (t m b P : Int) : Int × Int × Int := if t = 0 then (0, 0, b) else if t = 1 ∨ t = 4 then (if b + 1 = P then (0, 0, 0) else (t, m, b + 1)) else (t, m, b)
def missI (t m b S D : Int) : Int × Int × Int := if t = 0 then (if m + 1 = S then (1, m + 1, b) else (0, m + 1, b)) else if t = 1 then (if m + 1 = D then (2, 0, 0) else (1, m + 1, 0)) else if t = 4 then (2, 0, 0) else (t, m, b)
def fromI (t m b x y : Int) : Int × Int × Int := if t = x then (y, 0, 0) else (t, m, b)
def aggN (x : Int × Int × Int) : Value := .agg #[.int .i64 x.1, .int .i64 x.2.1, .int .i64 x.2.2]

set_option maxHeartbeats 2000000 in
theorem from_any (t m b x y : Int) (w : World) :
    Calls Tryd.prog 62 #[.agg #[.int .i64 t, .int .i64 m, .int .i64 b], .int .i64 x, .int .i64 y] w fun e w' => e = .returned (aggN (fromI t m b x y)) ∧ Below w.heap.size w w' := by
  by_cases h : t = x
  · have e : fromI t m b x y = (y, 0, 0) := by unfold fromI; rw [if_pos h]
    rw [e]
    have hb : (t != x) = false := by simp [h]
    clear e h
    go_enter Tryd.func62, Tryd.ntmps62
    go_wp2
    exact bodyPost_ret (v := .agg #[.int .i64 y, .int .i64 0, .int .i64 0]) (by simp [results, Tryd.results62, go_sem]) rfl ⟨rfl, (by repeat (first | exact Below.refl _ _ | assumption | refine below_drewN ?_ _ | refine Below.drew ?_ | refine below_alloc ?_ _ | refine Below.alloc ?_ (by first | omega | (simp; done) | (simp; omega)) _ | refine Below.setCell ?_ (Below.size (by assumption)) _ | refine Below.setCell ?_ (by first | omega | (simp; done) | (simp; omega)) _ | (refine Below.trans ?_ (Below.mono (by assumption) (by first | omega | (simp; done) | (simp; omega)))) | refine below_next ?_ (by assumption)))⟩
  · have e : fromI t m b x y = (t, m, b) := by unfold fromI; rw [if_neg h]
    rw [e]
    have hb : (t != x) = true := by simp [h]
    clear e h
    go_enter Tryd.func62, Tryd.ntmps62
    go_wp2
    exact bodyPost_ret (v := .agg #[.int .i64 t, .int .i64 m, .int .i64 b]) (by simp [results, Tryd.results62, go_sem]) rfl ⟨rfl, (by repeat (first | exact Below.refl _ _ | assumption | refine below_drewN ?_ _ | refine Below.drew ?_ | refine below_alloc ?_ _ | refine Below.alloc ?_ (by first | omega | (simp; done) | (simp; omega)) _ | refine Below.setCell ?_ (Below.size (by assumption)) _ | refine Below.setCell ?_ (by first | omega | (simp; done) | (simp; omega)) _ | (refine Below.trans ?_ (Below.mono (by assumption) (by first | omega | (simp; done) | (simp; omega)))) | refine below_next ?_ (by assumption)))⟩
set_option maxHeartbeats 2000000 in
theorem beat_any (t m b S D P : Int) (b0 : 0 ≤ b) (b1 : b ≤ 1000) (w : World) :
    Calls Tryd.prog 60 #[.agg #[.int .i64 t, .int .i64 m, .int .i64 b], .agg #[.int .i64 S, .int .i64 D, .int .i64 P]] w fun e w' => e = .returned (aggN (beatI t m b P)) ∧ Below w.heap.size w w' := by
  by_cases h0 : t = 0
  · have e : beatI t m b P = (0, 0, b) := by unfold beatI; rw [if_pos h0]
    rw [e]
    clear e
    subst h0
    go_enter Tryd.func60, Tryd.ntmps60
    go_wp2
    exact bodyPost_ret (v := .agg #[.int .i64 0, .int .i64 0, .int .i64 b]) (by simp [results, Tryd.results60, go_sem]) rfl ⟨rfl, (by repeat (first | exact Below.refl _ _ | assumption | refine below_drewN ?_ _ | refine Below.drew ?_ | refine below_alloc ?_ _ | refine Below.alloc ?_ (by first | omega | (simp; done) | (simp; omega)) _ | refine Below.setCell ?_ (Below.size (by assumption)) _ | refine Below.setCell ?_ (by first | omega | (simp; done) | (simp; omega)) _ | (refine Below.trans ?_ (Below.mono (by assumption) (by first | omega | (simp; done) | (simp; omega)))) | refine below_next ?_ (by assumption)))⟩
  by_cases h1 : t = 1 ∨ t = 4
  · by_cases h2 : b + 1 = P
    · have e : beatI t m b P = (0, 0, 0) := by unfold beatI; rw [if_neg h0, if_pos h1, if_pos h2]
      rw [e]
      clear e
      have hb : (b + 1 == P) = true := by simp [h2]
      clear h2 h0
      rcases h1 with rfl | rfl
      all_goals
        go_enter Tryd.func60, Tryd.ntmps60
        go_wp2
        exact bodyPost_ret (v := .agg #[.int .i64 0, .int .i64 0, .int .i64 0]) (by simp [results, Tryd.results60, go_sem]) rfl ⟨rfl, (by repeat (first | exact Below.refl _ _ | assumption | refine below_drewN ?_ _ | refine Below.drew ?_ | refine below_alloc ?_ _ | refine Below.alloc ?_ (by first | omega | (simp; done) | (simp; omega)) _ | refine Below.setCell ?_ (Below.size (by assumption)) _ | refine Below.setCell ?_ (by first | omega | (simp; done) | (simp; omega)) _ | (refine Below.trans ?_ (Below.mono (by assumption) (by first | omega | (simp; done) | (simp; omega)))) | refine below_next ?_ (by assumption)))⟩
    · have e : beatI t m b P = (t, m, b + 1) := by unfold beatI; rw [if_neg h0, if_pos h1, if_neg h2]
      rw [e]
      clear e
      have hb : (b + 1 == P) = false := by simp [h2]
      clear h2 h0
      rcases h1 with rfl | rfl
      · go_enter Tryd.func60, Tryd.ntmps60
        go_wp2
        exact bodyPost_ret (v := .agg #[.int .i64 1, .int .i64 m, .int .i64 (b + 1)]) (by simp [results, Tryd.results60, go_sem]) rfl ⟨rfl, (by repeat (first | exact Below.refl _ _ | assumption | refine below_drewN ?_ _ | refine Below.drew ?_ | refine below_alloc ?_ _ | refine Below.alloc ?_ (by first | omega | (simp; done) | (simp; omega)) _ | refine Below.setCell ?_ (Below.size (by assumption)) _ | refine Below.setCell ?_ (by first | omega | (simp; done) | (simp; omega)) _ | (refine Below.trans ?_ (Below.mono (by assumption) (by first | omega | (simp; done) | (simp; omega)))) | refine below_next ?_ (by assumption)))⟩
      · go_enter Tryd.func60, Tryd.ntmps60
        go_wp2
        exact bodyPost_ret (v := .agg #[.int .i64 4, .int .i64 m, .int .i64 (b + 1)]) (by simp [results, Tryd.results60, go_sem]) rfl ⟨rfl, (by repeat (first | exact Below.refl _ _ | assumption | refine below_drewN ?_ _ | refine Below.drew ?_ | refine below_alloc ?_ _ | refine Below.alloc ?_ (by first | omega | (simp; done) | (simp; omega)) _ | refine Below.setCell ?_ (Below.size (by assumption)) _ | refine Below.setCell ?_ (by first | omega | (simp; done) | (simp; omega)) _ | (refine Below.trans ?_ (Below.mono (by assumption) (by first | omega | (simp; done) | (simp; omega)))) | refine below_next ?_ (by assumption)))⟩
  · have e : beatI t m b P = (t, m, b) := by unfold beatI; rw [if_neg h0, if_neg h1]
    rw [e]
    clear e
    have g0 : (t == 0) = false := by simp [h0]
    have g1 : (t == 1) = false := by simp; omega
    have g4 : (t == 4) = false := by simp; omega
    clear h0 h1
    go_enter Tryd.func60, Tryd.ntmps60
    go_wp2
    exact bodyPost_ret (v := .agg #[.int .i64 t, .int .i64 m, .int .i64 b]) (by simp [results, Tryd.results60, go_sem]) rfl ⟨rfl, (by repeat (first | exact Below.refl _ _ | assumption | refine below_drewN ?_ _ | refine Below.drew ?_ | refine below_alloc ?_ _ | refine Below.alloc ?_ (by first | omega | (simp; done) | (simp; omega)) _ | refine Below.setCell ?_ (Below.size (by assumption)) _ | refine Below.setCell ?_ (by first | omega | (simp; done) | (simp; omega)) _ | (refine Below.trans ?_ (Below.mono (by assumption) (by first | omega | (simp; done) | (simp; omega)))) | refine below_next ?_ (by assumption)))⟩
end Go.Proofs.YtnofgffkfapodaaDoor
namespace Go.Proofs.YtnofgffkfapodaaDoor
set_option linter.unusedVariables false
open Go.ChangeShapes Go.WideShapes Go.ChangeAt Go.RowKit

set_option maxHeartbeats 2000000 in
theorem miss_any (t m b S D P : Int) (m0 : 0 ≤ m) (m1 : m ≤ 1000) (w : World) :
    Calls Tryd.prog 61 #[.agg #[.int .i64 t, .int .i64 m, .int .i64 b], .agg #[.int .i64 S, .int .i64 D, .int .i64 P]] w fun e w' => e = .returned (aggN (missI t m b S D)) ∧ Below w.heap.size w w' := by
  by_cases h0 : t = 0
  · by_cases h2 : m + 1 = S
    · have e : missI t m b S D = (1, m + 1, b) := by unfold missI; rw [if_pos h0, if_pos h2]
      rw [e]
      clear e
      have hb : (m + 1 == S) = true := by simp [h2]
      clear h2
      subst h0
      go_enter Tryd.func61, Tryd.ntmps61
      go_wp2
      exact bodyPost_ret (v := .agg #[.int .i64 1, .int .i64 (m + 1), .int .i64 b]) (by simp [results, Tryd.results61, go_sem]) rfl ⟨rfl, (by repeat (first | exact Below.refl _ _ | assumption | refine below_drewN ?_ _ | refine Below.drew ?_ | refine below_alloc ?_ _ | refine Below.alloc ?_ (by first | omega | (simp; done) | (simp; omega)) _ | refine Below.setCell ?_ (Below.size (by assumption)) _ | refine Below.setCell ?_ (by first | omega | (simp; done) | (simp; omega)) _ | (refine Below.trans ?_ (Below.mono (by assumption) (by first | omega | (simp; done) | (simp; omega)))) | refine below_next ?_ (by assumption)))⟩
    · have e : missI t m b S D = (0, m + 1, b) := by unfold missI; rw [if_pos h0, if_neg h2]
      rw [e]
      clear e
      have hb : (m + 1 == S) = false := by simp [h2]
      clear h2
      subst h0
      go_enter Tryd.func61, Tryd.ntmps61
      go_wp2
      exact bodyPost_ret (v := .agg #[.int .i64 0, .int .i64 (m + 1), .int .i64 b]) (by simp [results, Tryd.results61, go_sem]) rfl ⟨rfl, (by repeat (first | exact Below.refl _ _ | assumption | refine below_drewN ?_ _ | refine Below.drew ?_ | refine below_alloc ?_ _ | refine Below.alloc ?_ (by first | omega | (simp; done) | (simp; omega)) _ | refine Below.setCell ?_ (Below.size (by assumption)) _ | refine Below.setCell ?_ (by first | omega | (simp; done) | (simp; omega)) _ | (refine Below.trans ?_ (Below.mono (by assumption) (by first | omega | (simp; done) | (simp; omega)))) | refine below_next ?_ (by assumption)))⟩
  by_cases h1 : t = 1
  · by_cases h2 : m + 1 = D
    · have e : missI t m b S D = (2, 0, 0) := by unfold missI; rw [if_neg h0, if_pos h1, if_pos h2]
      rw [e]
      clear e
      have hb : (m + 1 == D) = true := by simp [h2]
      clear h2 h0
      subst h1
      go_enter Tryd.func61, Tryd.ntmps61
      go_wp2
      exact bodyPost_ret (v := .agg #[.int .i64 2, .int .i64 0, .int .i64 0]) (by simp [results, Tryd.results61, go_sem]) rfl ⟨rfl, (by repeat (first | exact Below.refl _ _ | assumption | refine below_drewN ?_ _ | refine Below.drew ?_ | refine below_alloc ?_ _ | refine Below.alloc ?_ (by first | omega | (simp; done) | (simp; omega)) _ | refine Below.setCell ?_ (Below.size (by assumption)) _ | refine Below.setCell ?_ (by first | omega | (simp; done) | (simp; omega)) _ | (refine Below.trans ?_ (Below.mono (by assumption) (by first | omega | (simp; done) | (simp; omega)))) | refine below_next ?_ (by assumption)))⟩
    · have e : missI t m b S D = (1, m + 1, 0) := by unfold missI; rw [if_neg h0, if_pos h1, if_neg h2]
      rw [e]
      clear e
      have hb : (m + 1 == D) = false := by simp [h2]
      clear h2 h0
      subst h1
      go_enter Tryd.func61, Tryd.ntmps61
      go_wp2
      exact bodyPost_ret (v := .agg #[.int .i64 1, .int .i64 (m + 1), .int .i64 0]) (by simp [results, Tryd.results61, go_sem]) rfl ⟨rfl, (by repeat (first | exact Below.refl _ _ | assumption | refine below_drewN ?_ _ | refine Below.drew ?_ | refine below_alloc ?_ _ | refine Below.alloc ?_ (by first | omega | (simp; done) | (simp; omega)) _ | refine Below.setCell ?_ (Below.size (by assumption)) _ | refine Below.setCell ?_ (by first | omega | (simp; done) | (simp; omega)) _ | (refine Below.trans ?_ (Below.mono (by assumption) (by first | omega | (simp; done) | (simp; omega)))) | refine below_next ?_ (by assumption)))⟩
  by_cases h4 : t = 4
  · have e : missI t m b S D = (2, 0, 0) := by unfold missI; rw [if_neg h0, if_neg h1, if_pos h4]
    rw [e]
    clear e
    clear h0 h1
    subst h4
    go_enter Tryd.func61, Tryd.ntmps61
    go_wp2
    exact bodyPost_ret (v := .agg #[.int .i64 2, .int .i64 0, .int .i64 0]) (by simp [results, Tryd.results61, go_sem]) rfl ⟨rfl, (by repeat (first | exact Below.refl _ _ | assumption | refine below_drewN ?_ _ | refine Below.drew ?_ | refine below_alloc ?_ _ | refine Below.alloc ?_ (by first | omega | (simp; done) | (simp; omega)) _ | refine Below.setCell ?_ (Below.size (by assumption)) _ | refine Below.setCell ?_ (by first | omega | (simp; done) | (simp; omega)) _ | (refine Below.trans ?_ (Below.mono (by assumption) (by first | omega | (simp; done) | (simp; omega)))) | refine below_next ?_ (by assumption)))⟩
  · have e : missI t m b S D = (t, m, b) := by unfold missI; rw [if_neg h0, if_neg h1, if_neg h4]
    rw [e]
    clear e
    have g0 : (t == 0) = false := by simp [h0]
    have g1 : (t == 1) = false := by simp [h1]
    have g4 : (t == 4) = false := by simp [h4]
    clear h0 h1 h4
    go_enter Tryd.func61, Tryd.ntmps61
    go_wp2
    exact bodyPost_ret (v := .agg #[.int .i64 t, .int .i64 m, .int .i64 b]) (by simp [results, Tryd.results61, go_sem]) rfl ⟨rfl, (by repeat (first | exact Below.refl _ _ | assumption | refine below_drewN ?_ _ | refine Below.drew ?_ | refine below_alloc ?_ _ | refine Below.alloc ?_ (by first | omega | (simp; done) | (simp; omega)) _ | refine Below.setCell ?_ (Below.size (by assumption)) _ | refine Below.setCell ?_ (by first | omega | (simp; done) | (simp; omega)) _ | (refine Below.trans ?_ (Below.mono (by assumption) (by first | omega | (simp; done) | (simp; omega)))) | refine below_next ?_ (by assumption)))⟩

def nextI (t m b S D P k : Int) : Int × Int × Int :=
  if rightR S D P = true ∧ rightN t m b S D P = true then
    (if k = 0 then beatI t m b P else if k = 1 then missI t m b S D else if k = 2 then fromI t m b 2 4 else if k = 3 then fromI t m b 0 3 else if k = 4 then fromI t m b 3 4 else (t, m, b))
  else (t, m, b)
theorem right_bd {t m b S D P : Int} (h1 : rightR S D P = true) (h2 : rightN t m b S D P = true) : 0 ≤ m ∧ m ≤ 1000 ∧ 0 ≤ b ∧ b ≤ 1000 := by
  unfold rightR at h1; unfold rightN at h2
  simp only [decide_eq_true_eq] at h1 h2
  omega
set_option maxHeartbeats 2000000 in
theorem next_not (t m b S D P k : Int) (h : ¬ (rightR S D P = true ∧ rightN t m b S D P = true)) (w : World) :
    Calls Tryd.prog 38 #[.agg #[.int .i64 t, .int .i64 m, .int .i64 b], .agg #[.int .i64 S, .int .i64 D, .int .i64 P], .int .i64 k] w fun e w' => e = .returned (.agg #[.int .i64 t, .int .i64 m, .int .i64 b]) ∧ Below w.heap.size w w' := by
  cases h1 : rightR S D P with
  | false =>
    have HR := Lib.hid (fun W => rightR_any S D P W)
    rw [h1] at HR
    clear h h1
    go_enter Tryd.func38, Tryd.ntmps38
    go_wp2_with fail
    refine (HR.out _).mono ?_
    rintro e w1 ⟨rfl, hb⟩
    obtain ⟨hc, hf⟩ := bcell hb
    have hz := hb.size
    simp at hz
    have hB : Below w.heap.size w w1 := by exact (by repeat (first | exact Below.refl _ _ | assumption | refine below_drewN ?_ _ | refine Below.drew ?_ | refine below_alloc ?_ _ | refine Below.alloc ?_ (by first | omega | (simp; done) | (simp; omega)) _ | refine Below.setCell ?_ (Below.size (by assumption)) _ | refine Below.setCell ?_ (by first | omega | (simp; done) | (simp; omega)) _ | (refine Below.trans ?_ (Below.mono (by assumption) (by first | omega | (simp; done) | (simp; omega)))) | refine below_next ?_ (by assumption)))
    have z0 : w.heap.size < w1.heap.size := by omega
    clear hb
    go_wp2_with fail
    exact bodyPost_ret (v := .agg #[.int .i64 t, .int .i64 m, .int .i64 b]) (by simp [results, Tryd.results38, go_sem, hc]) rfl ⟨rfl, (by repeat (first | exact Below.refl _ _ | assumption | refine below_drewN ?_ _ | refine Below.drew ?_ | refine below_alloc ?_ _ | refine Below.alloc ?_ (by first | omega | (simp; done) | (simp; omega)) _ | refine Below.setCell ?_ (Below.size (by assumption)) _ | refine Below.setCell ?_ (by first | omega | (simp; done) | (simp; omega)) _ | (refine Below.trans ?_ (Below.mono (by assumption) (by first | omega | (simp; done) | (simp; omega)))) | refine below_next ?_ (by assumption)))⟩
  | true =>
    have h2 : rightN t m b S D P = false := by cases h2 : rightN t m b S D P <;> simp_all
    have HR := Lib.hid (fun W => rightR_any S D P W)
    have HN := Lib.hid (fun W => rightN_any t m b S D P W)
    rw [h1] at HR
    rw [h2] at HN
    clear h h1 h2
    go_enter Tryd.func38, Tryd.ntmps38
    go_wp2_with fail
    refine (HR.out _).mono ?_
    rintro e w1 ⟨rfl, hb⟩
    obtain ⟨hc, hf⟩ := bcell hb
    have hz := hb.size
    simp at hz
    have hB : Below w.heap.size w w1 := by exact (by repeat (first | exact Below.refl _ _ | assumption | refine below_drewN ?_ _ | refine Below.drew ?_ | refine below_alloc ?_ _ | refine Below.alloc ?_ (by first | omega | (simp; done) | (simp; omega)) _ | refine Below.setCell ?_ (Below.size (by assumption)) _ | refine Below.setCell ?_ (by first | omega | (simp; done) | (simp; omega)) _ | (refine Below.trans ?_ (Below.mono (by assumption) (by first | omega | (simp; done) | (simp; omega)))) | refine below_next ?_ (by assumption)))
    have z0 : w.heap.size < w1.heap.size := by omega
    have z1 : w.heap.size + 1 < w1.heap.size := by omega
    have z2 : w.heap.size + 1 + 1 < w1.heap.size := by omega
    clear hb
    go_wp2_with fail
    refine (HN.out _).mono ?_
    rintro e w2 ⟨rfl, hb⟩
    have hB2 : Below w.heap.size w w2 := by exact (by repeat (first | exact Below.refl _ _ | assumption | refine below_drewN ?_ _ | refine Below.drew ?_ | refine below_alloc ?_ _ | refine Below.alloc ?_ (by first | omega | (simp; done) | (simp; omega)) _ | refine Below.setCell ?_ (Below.size (by assumption)) _ | refine Below.setCell ?_ (by first | omega | (simp; done) | (simp; omega)) _ | (refine Below.trans ?_ (Below.mono (by assumption) (by first | omega | (simp; done) | (simp; omega)))) | refine below_next ?_ (by assumption)))
    obtain ⟨hc', hf'⟩ := bcell hb
    have a0 := (hc' w.heap.size 0 z0).trans (hc w.heap.size 0 (by simp; omega))
    have a1 := (hc' w.heap.size 1 z0).trans (hc w.heap.size 1 (by simp; omega))
    have a2 := (hc' w.heap.size 2 z0).trans (hc w.heap.size 2 (by simp; omega))
    have b0 := (hc' (w.heap.size + 1) 0 z1).trans (hc (w.heap.size + 1) 0 (by simp))
    have b1 := (hc' (w.heap.size + 1) 1 z1).trans (hc (w.heap.size + 1) 1 (by simp))
    have b2 := (hc' (w.heap.size + 1) 2 z1).trans (hc (w.heap.size + 1) 2 (by simp))
    have c0 := (hc' (w.heap.size + 1 + 1) 0 z2).trans (hc (w.heap.size + 1 + 1) 0 (by simp))
    have c1 := (hc' (w.heap.size + 1 + 1) 1 z2).trans (hc (w.heap.size + 1 + 1) 1 (by simp))
    have c2 := (hc' (w.heap.size + 1 + 1) 2 z2).trans (hc (w.heap.size + 1 + 1) 2 (by simp))
    have f0 := (hf' (w.heap.size + 1 + 1) 0 z2).trans (hf (w.heap.size + 1 + 1) 0 (by simp))
    have f1 := (hf' (w.heap.size + 1 + 1) 1 z2).trans (hf (w.heap.size + 1 + 1) 1 (by simp))
    have f2 := (hf' (w.heap.size + 1 + 1) 2 z2).trans (hf (w.heap.size + 1 + 1) 2 (by simp))
    have y0 : w.heap.size < w2.heap.size := Nat.lt_of_lt_of_le z0 hb.size
    have y1 : w.heap.size + 1 < w2.heap.size := Nat.lt_of_lt_of_le z1 hb.size
    have y2 : w.heap.size + 1 + 1 < w2.heap.size := Nat.lt_of_lt_of_le z2 hb.size
    clear hb hc hf hc' hf' hB z0 z1 z2 hz
    simp [go_sem] at a0 a1 a2 b0 b1 b2 c0 c1 c2 f0 f1 f2
    go_wp2_with fail
    exact bodyPost_ret (v := .agg #[.int .i64 t, .int .i64 m, .int .i64 b]) (by simp [results, Tryd.results38, go_sem, *]) rfl ⟨rfl, (by repeat (first | exact Below.refl _ _ | assumption | refine below_drewN ?_ _ | refine Below.drew ?_ | refine below_alloc ?_ _ | refine Below.alloc ?_ (by first | omega | (simp; done) | (simp; omega)) _ | refine Below.setCell ?_ (Below.size (by assumption)) _ | refine Below.setCell ?_ (by first | omega | (simp; done) | (simp; omega)) _ | (refine Below.trans ?_ (Below.mono (by assumption) (by first | omega | (simp; done) | (simp; omega)))) | refine below_next ?_ (by assumption)))⟩

set_option maxHeartbeats 2000000 in
theorem next_other (t m b S D P k : Int) (h1 : rightR S D P = true) (h2 : rightN t m b S D P = true) (hk : k < 0 ∨ 4 < k) (w : World) :
    Calls Tryd.prog 38 #[.agg #[.int .i64 t, .int .i64 m, .int .i64 b], .agg #[.int .i64 S, .int .i64 D, .int .i64 P], .int .i64 k] w fun e w' => e = .returned (.agg #[.int .i64 t, .int .i64 m, .int .i64 b]) ∧ Below w.heap.size w w' := by
  have HR := Lib.hid (fun W => rightR_any S D P W)
  have HN := Lib.hid (fun W => rightN_any t m b S D P W)
  rw [h1] at HR
  rw [h2] at HN
  clear h1 h2
  have k0 : (k == 0) = false := by rw [beq_eq_false_iff_ne]; omega
  have k1 : (k == 1) = false := by rw [beq_eq_false_iff_ne]; omega
  have k2 : (k == 2) = false := by rw [beq_eq_false_iff_ne]; omega
  have k3 : (k == 3) = false := by rw [beq_eq_false_iff_ne]; omega
  have k4 : (k == 4) = false := by rw [beq_eq_false_iff_ne]; omega
  clear hk
  go_enter Tryd.func38, Tryd.ntmps38
  go_wp2_with fail
  refine (HR.out _).mono ?_
  rintro e w1 ⟨rfl, hb⟩
  obtain ⟨hc, hf⟩ := bcell hb
  have hz := hb.size
  simp at hz
  have hB : Below w.heap.size w w1 := by exact (by repeat (first | exact Below.refl _ _ | assumption | refine below_drewN ?_ _ | refine Below.drew ?_ | refine below_alloc ?_ _ | refine Below.alloc ?_ (by first | omega | (simp; done) | (simp; omega)) _ | refine Below.setCell ?_ (Below.size (by assumption)) _ | refine Below.setCell ?_ (by first | omega | (simp; done) | (simp; omega)) _ | (refine Below.trans ?_ (Below.mono (by assumption) (by first | omega | (simp; done) | (simp; omega)))) | refine below_next ?_ (by assumption)))
  have z0 : w.heap.size < w1.heap.size := by omega
  have z1 : w.heap.size + 1 < w1.heap.size := by omega
  have z2 : w.heap.size + 1 + 1 < w1.heap.size := by omega
  clear hb
  go_wp2_with fail
  refine (HN.out _).mono ?_
  rintro e w2 ⟨rfl, hb⟩
  have hB2 : Below w.heap.size w w2 := by exact (by repeat (first | exact Below.refl _ _ | assumption | refine below_drewN ?_ _ | refine Below.drew ?_ | refine below_alloc ?_ _ | refine Below.alloc ?_ (by first | omega | (simp; done) | (simp; omega)) _ | refine Below.setCell ?_ (Below.size (by assumption)) _ | refine Below.setCell ?_ (by first | omega | (simp; done) | (simp; omega)) _ | (refine Below.trans ?_ (Below.mono (by assumption) (by first | omega | (simp; done) | (simp; omega)))) | refine below_next ?_ (by assumption)))
  obtain ⟨hc', hf'⟩ := bcell hb
  have a0 := (hc' w.heap.size 0 z0).trans (hc w.heap.size 0 (by simp; omega))
  have a1 := (hc' w.heap.size 1 z0).trans (hc w.heap.size 1 (by simp; omega))
  have a2 := (hc' w.heap.size 2 z0).trans (hc w.heap.size 2 (by simp; omega))
  have b0 := (hc' (w.heap.size + 1) 0 z1).trans (hc (w.heap.size + 1) 0 (by simp))
  have b1 := (hc' (w.heap.size + 1) 1 z1).trans (hc (w.heap.size + 1) 1 (by simp))
  have b2 := (hc' (w.heap.size + 1) 2 z1).trans (hc (w.heap.size + 1) 2 (by simp))
  have c0 := (hc' (w.heap.size + 1 + 1) 0 z2).trans (hc (w.heap.size + 1 + 1) 0 (by simp))
  have c1 := (hc' (w.heap.size + 1 + 1) 1 z2).trans (hc (w.heap.size + 1 + 1) 1 (by simp))
  have c2 := (hc' (w.heap.size + 1 + 1) 2 z2).trans (hc (w.heap.size + 1 + 1) 2 (by simp))
  have f0 := (hf' (w.heap.size + 1 + 1) 0 z2).trans (hf (w.heap.size + 1 + 1) 0 (by simp))
  have f1 := (hf' (w.heap.size + 1 + 1) 1 z2).trans (hf (w.heap.size + 1 + 1) 1 (by simp))
  have f2 := (hf' (w.heap.size + 1 + 1) 2 z2).trans (hf (w.heap.size + 1 + 1) 2 (by simp))
  have y0 : w.heap.size < w2.heap.size := Nat.lt_of_lt_of_le z0 hb.size
  have y1 : w.heap.size + 1 < w2.heap.size := Nat.lt_of_lt_of_le z1 hb.size
  have y2 : w.heap.size + 1 + 1 < w2.heap.size := Nat.lt_of_lt_of_le z2 hb.size
  clear hb hc hf hc' hf' hB z0 z1 z2 hz
  simp [go_sem] at a0 a1 a2 b0 b1 b2 c0 c1 c2 f0 f1 f2
  go_wp2_with fail
  exact bodyPost_ret (v := .agg #[.int .i64 t, .int .i64 m, .int .i64 b]) (by simp [results, Tryd.results38, go_sem, *]) rfl ⟨rfl, (by repeat (first | exact Below.refl _ _ | assumption | refine below_drewN ?_ _ | refine Below.drew ?_ | refine below_alloc ?_ _ | refine Below.alloc ?_ (by first | omega | (simp; done) | (simp; omega)) _ | refine Below.setCell ?_ (Below.size (by assumption)) _ | refine Below.setCell ?_ (by first | omega | (simp; done) | (simp; omega)) _ | (refine Below.trans ?_ (Below.mono (by assumption) (by first | omega | (simp; done) | (simp; omega)))) | refine below_next ?_ (by assumption)))⟩

set_option maxHeartbeats 2000000 in
theorem next_0 (t m b S D P : Int) (h1 : rightR S D P = true) (h2 : rightN t m b S D P = true) (w : World) :
    Calls Tryd.prog 38 #[.agg #[.int .i64 t, .int .i64 m, .int .i64 b], .agg #[.int .i64 S, .int .i64 D, .int .i64 P], .int .i64 0] w fun e w' => e = .returned (aggN (beatI t m b P)) ∧ Below w.heap.size w w' := by
  obtain ⟨m0, m1, b0, b1⟩ := right_bd h1 h2
  have HK := Lib.hid (fun W => beat_any t m b S D P b0 b1 W)
  have HR := Lib.hid (fun W => rightR_any S D P W)
  have HN := Lib.hid (fun W => rightN_any t m b S D P W)
  rw [h1] at HR
  rw [h2] at HN
  clear h1 h2 m0 m1 b0 b1
  generalize beatI t m b P = x at *
  obtain ⟨x0, x1, x2⟩ := x
  unfold aggN at HK ⊢
  go_enter Tryd.func38, Tryd.ntmps38
  go_wp2_with fail
  refine (HR.out _).mono ?_
  rintro e w1 ⟨rfl, hb⟩
  obtain ⟨hc, hf⟩ := bcell hb
  have hz := hb.size
  simp at hz
  have hB : Below w.heap.size w w1 := by exact (by repeat (first | exact Below.refl _ _ | assumption | refine below_drewN ?_ _ | refine Below.drew ?_ | refine below_alloc ?_ _ | refine Below.alloc ?_ (by first | omega | (simp; done) | (simp; omega)) _ | refine Below.setCell ?_ (Below.size (by assumption)) _ | refine Below.setCell ?_ (by first | omega | (simp; done) | (simp; omega)) _ | (refine Below.trans ?_ (Below.mono (by assumption) (by first | omega | (simp; done) | (simp; omega)))) | refine below_next ?_ (by assumption)))
  have z0 : w.heap.size < w1.heap.size := by omega
  have z1 : w.heap.size + 1 < w1.heap.size := by omega
  have z2 : w.heap.size + 1 + 1 < w1.heap.size := by omega
  clear hb
  go_wp2_with fail
  refine (HN.out _).mono ?_
  rintro e w2 ⟨rfl, hb⟩
  have hB2 : Below w.heap.size w w2 := by exact (by repeat (first | exact Below.refl _ _ | assumption | refine below_drewN ?_ _ | refine Below.drew ?_ | refine below_alloc ?_ _ | refine Below.alloc ?_ (by first | omega | (simp; done) | (simp; omega)) _ | refine Below.setCell ?_ (Below.size (by assumption)) _ | refine Below.setCell ?_ (by first | omega | (simp; done) | (simp; omega)) _ | (refine Below.trans ?_ (Below.mono (by assumption) (by first | omega | (simp; done) | (simp; omega)))) | refine below_next ?_ (by assumption)))
  obtain ⟨hc', hf'⟩ := bcell hb
  have a0 := (hc' w.heap.size 0 z0).trans (hc w.heap.size 0 (by simp; omega))
  have a1 := (hc' w.heap.size 1 z0).trans (hc w.heap.size 1 (by simp; omega))
  have a2 := (hc' w.heap.size 2 z0).trans (hc w.heap.size 2 (by simp; omega))
  have b0 := (hc' (w.heap.size + 1) 0 z1).trans (hc (w.heap.size + 1) 0 (by simp))
  have b1 := (hc' (w.heap.size + 1) 1 z1).trans (hc (w.heap.size + 1) 1 (by simp))
  have b2 := (hc' (w.heap.size + 1) 2 z1).trans (hc (w.heap.size + 1) 2 (by simp))
  have c0 := (hc' (w.heap.size + 1 + 1) 0 z2).trans (hc (w.heap.size + 1 + 1) 0 (by simp))
  have c1 := (hc' (w.heap.size + 1 + 1) 1 z2).trans (hc (w.heap.size + 1 + 1) 1 (by simp))
  have c2 := (hc' (w.heap.size + 1 + 1) 2 z2).trans (hc (w.heap.size + 1 + 1) 2 (by simp))
  have f0 := (hf' (w.heap.size + 1 + 1) 0 z2).trans (hf (w.heap.size + 1 + 1) 0 (by simp))
  have f1 := (hf' (w.heap.size + 1 + 1) 1 z2).trans (hf (w.heap.size + 1 + 1) 1 (by simp))
  have f2 := (hf' (w.heap.size + 1 + 1) 2 z2).trans (hf (w.heap.size + 1 + 1) 2 (by simp))
  have y0 : w.heap.size < w2.heap.size := Nat.lt_of_lt_of_le z0 hb.size
  have y1 : w.heap.size + 1 < w2.heap.size := Nat.lt_of_lt_of_le z1 hb.size
  have y2 : w.heap.size + 1 + 1 < w2.heap.size := Nat.lt_of_lt_of_le z2 hb.size
  clear hb hc hf hc' hf' hB z0 z1 z2 hz
  simp [go_sem] at a0 a1 a2 b0 b1 b2 c0 c1 c2 f0 f1 f2
  go_wp2_with fail
  refine (HK.out _).mono ?_
  rintro e w3 ⟨rfl, hb⟩
  obtain ⟨hc, hf⟩ := bcell hb
  have hB3 : Below w.heap.size w w3 := hB2.trans (hb.mono hB2.size)
  have d0 := (hc (w.heap.size + 1 + 1) 0 y2).trans c0
  have d1 := (hc (w.heap.size + 1 + 1) 1 y2).trans c1
  have d2 := (hc (w.heap.size + 1 + 1) 2 y2).trans c2
  have g0 := (hf (w.heap.size + 1 + 1) 0 y2).trans f0
  have g1 := (hf (w.heap.size + 1 + 1) 1 y2).trans f1
  have g2 := (hf (w.heap.size + 1 + 1) 2 y2).trans f2
  clear hb hc hf hB2 c0 c1 c2 f0 f1 f2 a0 a1 a2 b0 b1 b2 y0 y1 y2
  go_wp2_with fail
  exact bodyPost_ret (v := .agg #[.int .i64 x0, .int .i64 x1, .int .i64 x2]) (by simp [results, Tryd.results38, go_sem, *]) rfl ⟨rfl, (by repeat (first | exact Below.refl _ _ | assumption | refine below_drewN ?_ _ | refine Below.drew ?_ | refine below_alloc ?_ _ | refine Below.alloc ?_ (by first | omega | (simp; done) | (simp; omega)) _ | refine Below.setCell ?_ (Below.size (by assumption)) _ | refine Below.setCell ?_ (by first | omega | (simp; done) | (simp; omega)) _ | (refine Below.trans ?_ (Below.mono (by assumption) (by first | omega | (simp; done) | (simp; omega)))) | refine below_next ?_ (by assumption)))⟩

set_option maxHeartbeats 2000000 in
theorem next_1 (t m b S D P : Int) (h1 : rightR S D P = true) (h2 : rightN t m b S D P = true) (w : World) :
    Calls Tryd.prog 38 #[.agg #[.int .i64 t, .int .i64 m, .int .i64 b], .agg #[.int .i64 S, .int .i64 D, .int .i64 P], .int .i64 1] w fun e w' => e = .returned (aggN (missI t m b S D)) ∧ Below w.heap.size w w' := by
  obtain ⟨m0, m1, b0, b1⟩ := right_bd h1 h2
  have HK := Lib.hid (fun W => miss_any t m b S D P m0 m1 W)
  have HR := Lib.hid (fun W => rightR_any S D P W)
  have HN := Lib.hid (fun W => rightN_any t m b S D P W)
  rw [h1] at HR
  rw [h2] at HN
  clear h1 h2 m0 m1 b0 b1
  generalize missI t m b S D = x at *
  obtain ⟨x0, x1, x2⟩ := x
  unfold aggN at HK ⊢
  go_enter Tryd.func38, Tryd.ntmps38
  go_wp2_with fail
  refine (HR.out _).mono ?_
  rintro e w1 ⟨rfl, hb⟩
  obtain ⟨hc, hf⟩ := bcell hb
  have hz := hb.size
  simp at hz
  have hB : Below w.heap.size w w1 := by exact (by repeat (first | exact Below.refl _ _ | assumption | refine below_drewN ?_ _ | refine Below.drew ?_ | refine below_alloc ?_ _ | refine Below.alloc ?_ (by first | omega | (simp; done) | (simp; omega)) _ | refine Below.setCell ?_ (Below.size (by assumption)) _ | refine Below.setCell ?_ (by first | omega | (simp; done) | (simp; omega)) _ | (refine Below.trans ?_ (Below.mono (by assumption) (by first | omega | (simp; done) | (simp; omega)))) | refine below_next ?_ (by assumption)))
  have z0 : w.heap.size < w1.heap.size := by omega
  have z1 : w.heap.size + 1 < w1.heap.size := by omega
  have z2 : w.heap.size + 1 + 1 < w1.heap.size := by omega
  clear hb
  go_wp2_with fail
  refine (HN.out _).mono ?_
  rintro e w2 ⟨rfl, hb⟩
  have hB2 : Below w.heap.size w w2 := by exact (by repeat (first | exact Below.refl _ _ | assumption | refine below_drewN ?_ _ | refine Below.drew ?_ | refine below_alloc ?_ _ | refine Below.alloc ?_ (by first | omega | (simp; done) | (simp; omega)) _ | refine Below.setCell ?_ (Below.size (by assumption)) _ | refine Below.setCell ?_ (by first | omega | (simp; done) | (simp; omega)) _ | (refine Below.trans ?_ (Below.mono (by assumption) (by first | omega | (simp; done) | (simp; omega)))) | refine below_next ?_ (by assumption)))
  obtain ⟨hc', hf'⟩ := bcell hb
  have a0 := (hc' w.heap.size 0 z0).trans (hc w.heap.size 0 (by simp; omega))
  have a1 := (hc' w.heap.size 1 z0).trans (hc w.heap.size 1 (by simp; omega))
  have a2 := (hc' w.heap.size 2 z0).trans (hc w.heap.size 2 (by simp; omega))
  have b0 := (hc' (w.heap.size + 1) 0 z1).trans (hc (w.heap.size + 1) 0 (by simp))
  have b1 := (hc' (w.heap.size + 1) 1 z1).trans (hc (w.heap.size + 1) 1 (by simp))
  have b2 := (hc' (w.heap.size + 1) 2 z1).trans (hc (w.heap.size + 1) 2 (by simp))
  have c0 := (hc' (w.heap.size + 1 + 1) 0 z2).trans (hc (w.heap.size + 1 + 1) 0 (by simp))
  have c1 := (hc' (w.heap.size + 1 + 1) 1 z2).trans (hc (w.heap.size + 1 + 1) 1 (by simp))
  have c2 := (hc' (w.heap.size + 1 + 1) 2 z2).trans (hc (w.heap.size + 1 + 1) 2 (by simp))
  have f0 := (hf' (w.heap.size + 1 + 1) 0 z2).trans (hf (w.heap.size + 1 + 1) 0 (by simp))
  have f1 := (hf' (w.heap.size + 1 + 1) 1 z2).trans (hf (w.heap.size + 1 + 1) 1 (by simp))
  have f2 := (hf' (w.heap.size + 1 + 1) 2 z2).trans (hf (w.heap.size + 1 + 1) 2 (by simp))
  have y0 : w.heap.size < w2.heap.size := Nat.lt_of_lt_of_le z0 hb.size
  have y1 : w.heap.size + 1 < w2.heap.size := Nat.lt_of_lt_of_le z1 hb.size
  have y2 : w.heap.size + 1 + 1 < w2.heap.size := Nat.lt_of_lt_of_le z2 hb.size
  clear hb hc hf hc' hf' hB z0 z1 z2 hz
  simp [go_sem] at a0 a1 a2 b0 b1 b2 c0 c1 c2 f0 f1 f2
  go_wp2_with fail
  refine (HK.out _).mono ?_
  rintro e w3 ⟨rfl, hb⟩
  obtain ⟨hc, hf⟩ := bcell hb
  have hB3 : Below w.heap.size w w3 := hB2.trans (hb.mono hB2.size)
  have d0 := (hc (w.heap.size + 1 + 1) 0 y2).trans c0
  have d1 := (hc (w.heap.size + 1 + 1) 1 y2).trans c1
  have d2 := (hc (w.heap.size + 1 + 1) 2 y2).trans c2
  have g0 := (hf (w.heap.size + 1 + 1) 0 y2).trans f0
  have g1 := (hf (w.heap.size + 1 + 1) 1 y2).trans f1
  have g2 := (hf (w.heap.size + 1 + 1) 2 y2).trans f2
  clear hb hc hf hB2 c0 c1 c2 f0 f1 f2 a0 a1 a2 b0 b1 b2 y0 y1 y2
  go_wp2_with fail
  exact bodyPost_ret (v := .agg #[.int .i64 x0, .int .i64 x1, .int .i64 x2]) (by simp [results, Tryd.results38, go_sem, *]) rfl ⟨rfl, (by repeat (first | exact Below.refl _ _ | assumption | refine below_drewN ?_ _ | refine Below.drew ?_ | refine below_alloc ?_ _ | refine Below.alloc ?_ (by first | omega | (simp; done) | (simp; omega)) _ | refine Below.setCell ?_ (Below.size (by assumption)) _ | refine Below.setCell ?_ (by first | omega | (simp; done) | (simp; omega)) _ | (refine Below.trans ?_ (Below.mono (by assumption) (by first | omega | (simp; done) | (simp; omega)))) | refine below_next ?_ (by assumption)))⟩

set_option maxHeartbeats 2000000 in
theorem next_2 (t m b S D P : Int) (h1 : rightR S D P = true) (h2 : rightN t m b S D P = true) (w : World) :
    Calls Tryd.prog 38 #[.agg #[.int .i64 t, .int .i64 m, .int .i64 b], .agg #[.int .i64 S, .int .i64 D, .int .i64 P], .int .i64 2] w fun e w' => e = .returned (aggN (fromI t m b 2 4)) ∧ Below w.heap.size w w' := by
  obtain ⟨m0, m1, b0, b1⟩ := right_bd h1 h2
  have HK := Lib.hid (fun W => from_any t m b 2 4 W)
  have HR := Lib.hid (fun W => rightR_any S D P W)
  have HN := Lib.hid (fun W => rightN_any t m b S D P W)
  rw [h1] at HR
  rw [h2] at HN
  clear h1 h2 m0 m1 b0 b1
  generalize fromI t m b 2 4 = x at *
  obtain ⟨x0, x1, x2⟩ := x
  unfold aggN at HK ⊢
  go_enter Tryd.func38, Tryd.ntmps38
  go_wp2_with fail
  refine (HR.out _).mono ?_
  rintro e w1 ⟨rfl, hb⟩
  obtain ⟨hc, hf⟩ := bcell hb
  have hz := hb.size
  simp at hz
  have hB : Below w.heap.size w w1 := by exact (by repeat (first | exact Below.refl _ _ | assumption | refine below_drewN ?_ _ | refine Below.drew ?_ | refine below_alloc ?_ _ | refine Below.alloc ?_ (by first | omega | (simp; done) | (simp; omega)) _ | refine Below.setCell ?_ (Below.size (by assumption)) _ | refine Below.setCell ?_ (by first | omega | (simp; done) | (simp; omega)) _ | (refine Below.trans ?_ (Below.mono (by assumption) (by first | omega | (simp; done) | (simp; omega)))) | refine below_next ?_ (by assumption)))
  have z0 : w.heap.size < w1.heap.size := by omega
  have z1 : w.heap.size + 1 < w1.heap.size := by omega
  have z2 : w.heap.size + 1 + 1 < w1.heap.size := by omega
  clear hb
  go_wp2_with fail
  refine (HN.out _).mono ?_
  rintro e w2 ⟨rfl, hb⟩
  have hB2 : Below w.heap.size w w2 := by exact (by repeat (first | exact Below.refl _ _ | assumption | refine below_drewN ?_ _ | refine Below.drew ?_ | refine below_alloc ?_ _ | refine Below.alloc ?_ (by first | omega | (simp; done) | (simp; omega)) _ | refine Below.setCell ?_ (Below.size (by assumption)) _ | refine Below.setCell ?_ (by first | omega | (simp; done) | (simp; omega)) _ | (refine Below.trans ?_ (Below.mono (by assumption) (by first | omega | (simp; done) | (simp; omega)))) | refine below_next ?_ (by assumption)))
  obtain ⟨hc', hf'⟩ := bcell hb
  have a0 := (hc' w.heap.size 0 z0).trans (hc w.heap.size 0 (by simp; omega))
  have a1 := (hc' w.heap.size 1 z0).trans (hc w.heap.size 1 (by simp; omega))
  have a2 := (hc' w.heap.size 2 z0).trans (hc w.heap.size 2 (by simp; omega))
  have b0 := (hc' (w.heap.size + 1) 0 z1).trans (hc (w.heap.size + 1) 0 (by simp))
  have b1 := (hc' (w.heap.size + 1) 1 z1).trans (hc (w.heap.size + 1) 1 (by simp))
  have b2 := (hc' (w.heap.size + 1) 2 z1).trans (hc (w.heap.size + 1) 2 (by simp))
  have c0 := (hc' (w.heap.size + 1 + 1) 0 z2).trans (hc (w.heap.size + 1 + 1) 0 (by simp))
  have c1 := (hc' (w.heap.size + 1 + 1) 1 z2).trans (hc (w.heap.size + 1 + 1) 1 (by simp))
  have c2 := (hc' (w.heap.size + 1 + 1) 2 z2).trans (hc (w.heap.size + 1 + 1) 2 (by simp))
  have f0 := (hf' (w.heap.size + 1 + 1) 0 z2).trans (hf (w.heap.size + 1 + 1) 0 (by simp))
  have f1 := (hf' (w.heap.size + 1 + 1) 1 z2).trans (hf (w.heap.size + 1 + 1) 1 (by simp))
  have f2 := (hf' (w.heap.size + 1 + 1) 2 z2).trans (hf (w.heap.size + 1 + 1) 2 (by simp))
  have y0 : w.heap.size < w2.heap.size := Nat.lt_of_lt_of_le z0 hb.size
  have y1 : w.heap.size + 1 < w2.heap.size := Nat.lt_of_lt_of_le z1 hb.size
  have y2 : w.heap.size + 1 + 1 < w2.heap.size := Nat.lt_of_lt_of_le z2 hb.size
  clear hb hc hf hc' hf' hB z0 z1 z2 hz
  simp [go_sem] at a0 a1 a2 b0 b1 b2 c0 c1 c2 f0 f1 f2
  go_wp2_with fail
  refine (HK.out _).mono ?_
  rintro e w3 ⟨rfl, hb⟩
  obtain ⟨hc, hf⟩ := bcell hb
  have hB3 : Below w.heap.size w w3 := hB2.trans (hb.mono hB2.size)
  have d0 := (hc (w.heap.size + 1 + 1) 0 y2).trans c0
  have d1 := (hc (w.heap.size + 1 + 1) 1 y2).trans c1
  have d2 := (hc (w.heap.size + 1 + 1) 2 y2).trans c2
  have g0 := (hf (w.heap.size + 1 + 1) 0 y2).trans f0
  have g1 := (hf (w.heap.size + 1 + 1) 1 y2).trans f1
  have g2 := (hf (w.heap.size + 1 + 1) 2 y2).trans f2
  clear hb hc hf hB2 c0 c1 c2 f0 f1 f2 a0 a1 a2 b0 b1 b2 y0 y1 y2
  go_wp2_with fail
  exact bodyPost_ret (v := .agg #[.int .i64 x0, .int .i64 x1, .int .i64 x2]) (by simp [results, Tryd.results38, go_sem, *]) rfl ⟨rfl, (by repeat (first | exact Below.refl _ _ | assumption | refine below_drewN ?_ _ | refine Below.drew ?_ | refine below_alloc ?_ _ | refine Below.alloc ?_ (by first | omega | (simp; done) | (simp; omega)) _ | refine Below.setCell ?_ (Below.size (by assumption)) _ | refine Below.setCell ?_ (by first | omega | (simp; done) | (simp; omega)) _ | (refine Below.trans ?_ (Below.mono (by assumption) (by first | omega | (simp; done) | (simp; omega)))) | refine below_next ?_ (by assumption)))⟩

set_option maxHeartbeats 2000000 in
theorem next_3 (t m b S D P : Int) (h1 : rightR S D P = true) (h2 : rightN t m b S D P = true) (w : World) :
    Calls Tryd.prog 38 #[.agg #[.int .i64 t, .int .i64 m, .int .i64 b], .agg #[.int .i64 S, .int .i64 D, .int .i64 P], .int .i64 3] w fun e w' => e = .returned (aggN (fromI t m b 0 3)) ∧ Below w.heap.size w w' := by
  obtain ⟨m0, m1, b0, b1⟩ := right_bd h1 h2
  have HK := Lib.hid (fun W => from_any t m b 0 3 W)
  have HR := Lib.hid (fun W => rightR_any S D P W)
  have HN := Lib.hid (fun W => rightN_any t m b S D P W)
  rw [h1] at HR
  rw [h2] at HN
  clear h1 h2 m0 m1 b0 b1
  generalize fromI t m b 0 3 = x at *
  obtain ⟨x0, x1, x2⟩ := x
  unfold aggN at HK ⊢
  go_enter Tryd.func38, Tryd.ntmps38
  go_wp2_with fail
  refine (HR.out _).mono ?_
  rintro e w1 ⟨rfl, hb⟩
  obtain ⟨hc, hf⟩ := bcell hb
  have hz := hb.size
  simp at hz
  have hB : Below w.heap.size w w1 := by exact (by repeat (first | exact Below.refl _ _ | assumption | refine below_drewN ?_ _ | refine Below.drew ?_ | refine below_alloc ?_ _ | refine Below.alloc ?_ (by first | omega | (simp; done) | (simp; omega)) _ | refine Below.setCell ?_ (Below.size (by assumption)) _ | refine Below.setCell ?_ (by first | omega | (simp; done) | (simp; omega)) _ | (refine Below.trans ?_ (Below.mono (by assumption) (by first | omega | (simp; done) | (simp; omega)))) | refine below_next ?_ (by assumption)))
  have z0 : w.heap.size < w1.heap.size := by omega
  have z1 : w.heap.size + 1 < w1.heap.size := by omega
  have z2 : w.heap.size + 1 + 1 < w1.heap.size := by omega
  clear hb
  go_wp2_with fail
  refine (HN.out _).mono ?_
  rintro e w2 ⟨rfl, hb⟩
  have hB2 : Below w.heap.size w w2 := by exact (by repeat (first | exact Below.refl _ _ | assumption | refine below_drewN ?_ _ | refine Below.drew ?_ | refine below_alloc ?_ _ | refine Below.alloc ?_ (by first | omega | (simp; done) | (simp; omega)) _ | refine Below.setCell ?_ (Below.size (by assumption)) _ | refine Below.setCell ?_ (by first | omega | (simp; done) | (simp; omega)) _ | (refine Below.trans ?_ (Below.mono (by assumption) (by first | omega | (simp; done) | (simp; omega)))) | refine below_next ?_ (by assumption)))
  obtain ⟨hc', hf'⟩ := bcell hb
  have a0 := (hc' w.heap.size 0 z0).trans (hc w.heap.size 0 (by simp; omega))
  have a1 := (hc' w.heap.size 1 z0).trans (hc w.heap.size 1 (by simp; omega))
  have a2 := (hc' w.heap.size 2 z0).trans (hc w.heap.size 2 (by simp; omega))
  have b0 := (hc' (w.heap.size + 1) 0 z1).trans (hc (w.heap.size + 1) 0 (by simp))
  have b1 := (hc' (w.heap.size + 1) 1 z1).trans (hc (w.heap.size + 1) 1 (by simp))
  have b2 := (hc' (w.heap.size + 1) 2 z1).trans (hc (w.heap.size + 1) 2 (by simp))
  have c0 := (hc' (w.heap.size + 1 + 1) 0 z2).trans (hc (w.heap.size + 1 + 1) 0 (by simp))
  have c1 := (hc' (w.heap.size + 1 + 1) 1 z2).trans (hc (w.heap.size + 1 + 1) 1 (by simp))
  have c2 := (hc' (w.heap.size + 1 + 1) 2 z2).trans (hc (w.heap.size + 1 + 1) 2 (by simp))
  have f0 := (hf' (w.heap.size + 1 + 1) 0 z2).trans (hf (w.heap.size + 1 + 1) 0 (by simp))
  have f1 := (hf' (w.heap.size + 1 + 1) 1 z2).trans (hf (w.heap.size + 1 + 1) 1 (by simp))
  have f2 := (hf' (w.heap.size + 1 + 1) 2 z2).trans (hf (w.heap.size + 1 + 1) 2 (by simp))
  have y0 : w.heap.size < w2.heap.size := Nat.lt_of_lt_of_le z0 hb.size
  have y1 : w.heap.size + 1 < w2.heap.size := Nat.lt_of_lt_of_le z1 hb.size
  have y2 : w.heap.size + 1 + 1 < w2.heap.size := Nat.lt_of_lt_of_le z2 hb.size
  clear hb hc hf hc' hf' hB z0 z1 z2 hz
  simp [go_sem] at a0 a1 a2 b0 b1 b2 c0 c1 c2 f0 f1 f2
  go_wp2_with fail
  refine (HK.out _).mono ?_
  rintro e w3 ⟨rfl, hb⟩
  obtain ⟨hc, hf⟩ := bcell hb
  have hB3 : Below w.heap.size w w3 := hB2.trans (hb.mono hB2.size)
  have d0 := (hc (w.heap.size + 1 + 1) 0 y2).trans c0
  have d1 := (hc (w.heap.size + 1 + 1) 1 y2).trans c1
  have d2 := (hc (w.heap.size + 1 + 1) 2 y2).trans c2
  have g0 := (hf (w.heap.size + 1 + 1) 0 y2).trans f0
  have g1 := (hf (w.heap.size + 1 + 1) 1 y2).trans f1
  have g2 := (hf (w.heap.size + 1 + 1) 2 y2).trans f2
  clear hb hc hf hB2 c0 c1 c2 f0 f1 f2 a0 a1 a2 b0 b1 b2 y0 y1 y2
  go_wp2_with fail
  exact bodyPost_ret (v := .agg #[.int .i64 x0, .int .i64 x1, .int .i64 x2]) (by simp [results, Tryd.results38, go_sem, *]) rfl ⟨rfl, (by repeat (first | exact Below.refl _ _ | assumption | refine below_drewN ?_ _ | refine Below.drew ?_ | refine below_alloc ?_ _ | refine Below.alloc ?_ (by first | omega | (simp; done) | (simp; omega)) _ | refine Below.setCell ?_ (Below.size (by assumption)) _ | refine Below.setCell ?_ (by first | omega | (simp; done) | (simp; omega)) _ | (refine Below.trans ?_ (Below.mono (by assumption) (by first | omega | (simp; done) | (simp; omega)))) | refine below_next ?_ (by assumption)))⟩

set_option maxHeartbeats 2000000 in
theorem next_4 (t m b S D P : Int) (h1 : rightR S D P = true) (h2 : rightN t m b S D P = true) (w : World) :
    Calls Tryd.prog 38 #[.agg #[.int .i64 t, .int .i64 m, .int .i64 b], .agg #[.int .i64 S, .int .i64 D, .int .i64 P], .int .i64 4] w fun e w' => e = .returned (aggN (fromI t m b 3 4)) ∧ Below w.heap.size w w' := by
  obtain ⟨m0, m1, b0, b1⟩ := right_bd h1 h2
  have HK := Lib.hid (fun W => from_any t m b 3 4 W)
  have HR := Lib.hid (fun W => rightR_any S D P W)
  have HN := Lib.hid (fun W => rightN_any t m b S D P W)
  rw [h1] at HR
  rw [h2] at HN
  clear h1 h2 m0 m1 b0 b1
  generalize fromI t m b 3 4 = x at *
  obtain ⟨x0, x1, x2⟩ := x
  unfold aggN at HK ⊢
  go_enter Tryd.func38, Tryd.ntmps38
  go_wp2_with fail
  refine (HR.out _).mono ?_
  rintro e w1 ⟨rfl, hb⟩
  obtain ⟨hc, hf⟩ := bcell hb
  have hz := hb.size
  simp at hz
  have hB : Below w.heap.size w w1 := by exact (by repeat (first | exact Below.refl _ _ | assumption | refine below_drewN ?_ _ | refine Below.drew ?_ | refine below_alloc ?_ _ | refine Below.alloc ?_ (by first | omega | (simp; done) | (simp; omega)) _ | refine Below.setCell ?_ (Below.size (by assumption)) _ | refine Below.setCell ?_ (by first | omega | (simp; done) | (simp; omega)) _ | (refine Below.trans ?_ (Below.mono (by assumption) (by first | omega | (simp; done) | (simp; omega)))) | refine below_next ?_ (by assumption)))
  have z0 : w.heap.size < w1.heap.size := by omega
  have z1 : w.heap.size + 1 < w1.heap.size := by omega
  have z2 : w.heap.size + 1 + 1 < w1.heap.size := by omega
  clear hb
  go_wp2_with fail
  refine (HN.out _).mono ?_
  rintro e w2 ⟨rfl, hb⟩
  have hB2 : Below w.heap.size w w2 := by exact (by repeat (first | exact Below.refl _ _ | assumption | refine below_drewN ?_ _ | refine Below.drew ?_ | refine below_alloc ?_ _ | refine Below.alloc ?_ (by first | omega | (simp; done) | (simp; omega)) _ | refine Below.setCell ?_ (Below.size (by assumption)) _ | refine Below.setCell ?_ (by first | omega | (simp; done) | (simp; omega)) _ | (refine Below.trans ?_ (Below.mono (by assumption) (by first | omega | (simp; done) | (simp; omega)))) | refine below_next ?_ (by assumption)))
  obtain ⟨hc', hf'⟩ := bcell hb
  have a0 := (hc' w.heap.size 0 z0).trans (hc w.heap.size 0 (by simp; omega))
  have a1 := (hc' w.heap.size 1 z0).trans (hc w.heap.size 1 (by simp; omega))
  have a2 := (hc' w.heap.size 2 z0).trans (hc w.heap.size 2 (by simp; omega))
  have b0 := (hc' (w.heap.size + 1) 0 z1).trans (hc (w.heap.size + 1) 0 (by simp))
  have b1 := (hc' (w.heap.size + 1) 1 z1).trans (hc (w.heap.size + 1) 1 (by simp))
  have b2 := (hc' (w.heap.size + 1) 2 z1).trans (hc (w.heap.size + 1) 2 (by simp))
  have c0 := (hc' (w.heap.size + 1 + 1) 0 z2).trans (hc (w.heap.size + 1 + 1) 0 (by simp))
  have c1 := (hc' (w.heap.size + 1 + 1) 1 z2).trans (hc (w.heap.size + 1 + 1) 1 (by simp))
  have c2 := (hc' (w.heap.size + 1 + 1) 2 z2).trans (hc (w.heap.size + 1 + 1) 2 (by simp))
  have f0 := (hf' (w.heap.size + 1 + 1) 0 z2).trans (hf (w.heap.size + 1 + 1) 0 (by simp))
  have f1 := (hf' (w.heap.size + 1 + 1) 1 z2).trans (hf (w.heap.size + 1 + 1) 1 (by simp))
  have f2 := (hf' (w.heap.size + 1 + 1) 2 z2).trans (hf (w.heap.size + 1 + 1) 2 (by simp))
  have y0 : w.heap.size < w2.heap.size := Nat.lt_of_lt_of_le z0 hb.size
  have y1 : w.heap.size + 1 < w2.heap.size := Nat.lt_of_lt_of_le z1 hb.size
  have y2 : w.heap.size + 1 + 1 < w2.heap.size := Nat.lt_of_lt_of_le z2 hb.size
  clear hb hc hf hc' hf' hB z0 z1 z2 hz
  simp [go_sem] at a0 a1 a2 b0 b1 b2 c0 c1 c2 f0 f1 f2
  go_wp2_with fail
  refine (HK.out _).mono ?_
  rintro e w3 ⟨rfl, hb⟩
  obtain ⟨hc, hf⟩ := bcell hb
  have hB3 : Below w.heap.size w w3 := hB2.trans (hb.mono hB2.size)
  have d0 := (hc (w.heap.size + 1 + 1) 0 y2).trans c0
  have d1 := (hc (w.heap.size + 1 + 1) 1 y2).trans c1
  have d2 := (hc (w.heap.size + 1 + 1) 2 y2).trans c2
  have g0 := (hf (w.heap.size + 1 + 1) 0 y2).trans f0
  have g1 := (hf (w.heap.size + 1 + 1) 1 y2).trans f1
  have g2 := (hf (w.heap.size + 1 + 1) 2 y2).trans f2
  clear hb hc hf hB2 c0 c1 c2 f0 f1 f2 a0 a1 a2 b0 b1 b2 y0 y1 y2
  go_wp2_with fail
  exact bodyPost_ret (v := .agg #[.int .i64 x0, .int .i64 x1, .int .i64 x2]) (by simp [results, Tryd.results38, go_sem, *]) rfl ⟨rfl, (by repeat (first | exact Below.refl _ _ | assumption | refine below_drewN ?_ _ | refine Below.drew ?_ | refine below_alloc ?_ _ | refine Below.alloc ?_ (by first | omega | (simp; done) | (simp; omega)) _ | refine Below.setCell ?_ (Below.size (by assumption)) _ | refine Below.setCell ?_ (by first | omega | (simp; done) | (simp; omega)) _ | (refine Below.trans ?_ (Below.mono (by assumption) (by first | omega | (simp; done) | (simp; omega)))) | refine below_next ?_ (by assumption)))⟩

theorem next_any (t m b S D P k : Int) (w : World) :
    Calls Tryd.prog 38 #[.agg #[.int .i64 t, .int .i64 m, .int .i64 b], .agg #[.int .i64 S, .int .i64 D, .int .i64 P], .int .i64 k] w fun e w' => e = .returned (aggN (nextI t m b S D P k)) ∧ Below w.heap.size w w' := by
  by_cases h : rightR S D P = true ∧ rightN t m b S D P = true
  · unfold nextI
    rw [if_pos h]
    obtain ⟨h1, h2⟩ := h
    by_cases k0 : k = 0
    · subst k0; exact next_0 t m b S D P h1 h2 w
    by_cases k1 : k = 1
    · subst k1; exact next_1 t m b S D P h1 h2 w
    by_cases k2 : k = 2
    · subst k2; exact next_2 t m b S D P h1 h2 w
    by_cases k3 : k = 3
    · subst k3; exact next_3 t m b S D P h1 h2 w
    by_cases k4 : k = 4
    · subst k4; exact next_4 t m b S D P h1 h2 w
    rw [if_neg k0, if_neg k1, if_neg k2, if_neg k3, if_neg k4]
    exact next_other t m b S D P k h1 h2 (by omega) w
  · unfold nextI
    rw [if_neg h]
    exact next_not t m b S D P k h w
end Go.Proofs.YtnofgffkfapodaaDoor
