/- Contracts of Holds and Right of layer 1 on spans, and of the reference's Holds. No condition. -/
import Derived.Test.YthdljigcfhjikaaSpanB
namespace Go.Proofs.Ythdljigcfhjikaa
set_option linter.unusedVariables false
open Go.ChangeShapes Go.WideShapes Go.ChangeAt Go.RowKit

/-- whether a time is in one -/
def holdsI (a : Int × Int) (x : Int) : Bool := decide (clampI a.1 ≤ clampI x) && decide (clampI x < clampI a.2)
/-- whether one may be -/
def rightI (a : Int × Int) : Bool := decide (a.1 = clampI a.1 ∧ a.2 = clampI a.2) && decide (a.1 ≤ a.2)
theorem rholds_eq (f t x : Int) : (decide ((cleanI (f, t)).1 ≤ clampI x) && decide (clampI x < (cleanI (f, t)).2)) = holdsI (f, t) x := by
  have h1 := clampI_bd x
  have e2 : holdsI (f, t) x = (decide (clampI f ≤ clampI x) && decide (clampI x < clampI t)) := rfl
  by_cases hle : clampI t ≤ clampI f
  · have e : cleanI (f, t) = (0, 0) := by unfold cleanI; exact if_pos hle
    rw [e, e2]
    have a : decide (clampI x < 0) = false := by simp; omega
    simp only [a, Bool.and_false]
    by_cases h : clampI f ≤ clampI x
    · have b : decide (clampI x < clampI t) = false := by simp; omega
      rw [b, Bool.and_false]
    · have b : decide (clampI f ≤ clampI x) = false := by simp; omega
      rw [b, Bool.false_and]
  · have e : cleanI (f, t) = (clampI f, clampI t) := by unfold cleanI; exact if_neg hle
    rw [e, e2]
set_option maxHeartbeats 1000000 in
theorem holds_any (f t x : Int) (w : World) :
    Calls Try.prog 46 #[.agg #[.int .i64 f, .int .i64 t], .int .i64 x] w fun e w' => e = .returned (.bool (holdsI (f, t) x)) ∧ Below w.heap.size w w' := by
  have E := Lib.hid (show holdsI (f, t) x = (decide (clampI f ≤ clampI x) && decide (clampI x < clampI t)) from rfl)
  have hk := fun W => clamp_any x W
  generalize holdsI (f, t) x = B at *
  go_enter Try.func46, Try.ntmps46
  go_wp2_with fail
  refine (clamped_any f t _).mono ?_
  rintro e w1 ⟨rfl, hb1⟩
  have q0 : w1.cell? ⟨w.heap.size, 0, none⟩ = some (.int .i64 f) := (hb1.cell (p := ⟨w.heap.size, 0, none⟩) (by simp)).trans (by go_simp)
  have q1 : w1.cell? ⟨w.heap.size, 1, none⟩ = some (.int .i64 t) := (hb1.cell (p := ⟨w.heap.size, 1, none⟩) (by simp)).trans (by go_simp)
  have q2 : w1.frozen? ⟨w.heap.size, 0, none⟩ = false := (hb1.frozen (p := ⟨w.heap.size, 0, none⟩) (by simp)).trans (by go_simp)
  have q3 : w1.frozen? ⟨w.heap.size, 1, none⟩ = false := (hb1.frozen (p := ⟨w.heap.size, 1, none⟩) (by simp)).trans (by go_simp)
  have hx : Below w.heap.size w w1 := by
    refine Below.trans ?_ (hb1.mono ?_)
    · exact (by repeat (first | exact Below.refl _ _ | assumption | refine below_drewN ?_ _ | refine Below.drew ?_ | refine below_alloc ?_ _ | refine Below.alloc ?_ (by first | omega | (simp; done) | (simp; omega)) _ | refine Below.setCell ?_ (Below.size (by assumption)) _ | refine Below.setCell ?_ (by first | omega | (simp; done) | (simp; omega)) _ | (refine Below.trans ?_ (Below.mono (by assumption) (by first | omega | (simp; done) | (simp; omega)))) | refine below_next ?_ (by assumption)))
    · simp
  have hz1 : w.heap.size < w1.heap.size := by have := hb1.size; simp at this; omega
  clear hb1
  generalize clampI x = X at *
  generalize clampI f = F at *
  generalize clampI t = T at *
  go_wp2_with (go_at_call 25; refine (hk _).mono ?_; rintro e w' ⟨rfl, rfl⟩)
  all_goals go_ret
  all_goals refine ⟨?_, (hx.setCell (Nat.le_refl _) _).setCell (Nat.le_refl _) _⟩
  all_goals rw [E.out]
  all_goals first | (simp [*]; done) | (simp; omega)
set_option maxHeartbeats 1000000 in
theorem rholds_any (f t x : Int) (w : World) :
    Calls Try.prog 57 #[.agg #[.int .i64 f, .int .i64 t], .int .i64 x] w fun e w' => e = .returned (.bool (holdsI (f, t) x)) ∧ Below w.heap.size w w' := by
  have E := Lib.hid (rholds_eq f t x).symm
  have hk := fun W => rclamp_any x W
  generalize holdsI (f, t) x = B at *
  go_enter Try.func57, Try.ntmps57
  go_wp2_with fail
  refine (rclean_any f t _).mono ?_
  rintro e w1 ⟨rfl, hb1⟩
  have q0 : w1.cell? ⟨w.heap.size, 0, none⟩ = some (.int .i64 f) := (hb1.cell (p := ⟨w.heap.size, 0, none⟩) (by simp)).trans (by go_simp)
  have q1 : w1.cell? ⟨w.heap.size, 1, none⟩ = some (.int .i64 t) := (hb1.cell (p := ⟨w.heap.size, 1, none⟩) (by simp)).trans (by go_simp)
  have q2 : w1.frozen? ⟨w.heap.size, 0, none⟩ = false := (hb1.frozen (p := ⟨w.heap.size, 0, none⟩) (by simp)).trans (by go_simp)
  have q3 : w1.frozen? ⟨w.heap.size, 1, none⟩ = false := (hb1.frozen (p := ⟨w.heap.size, 1, none⟩) (by simp)).trans (by go_simp)
  have hx : Below w.heap.size w w1 := by
    refine Below.trans ?_ (hb1.mono ?_)
    · exact (by repeat (first | exact Below.refl _ _ | assumption | refine below_drewN ?_ _ | refine Below.drew ?_ | refine below_alloc ?_ _ | refine Below.alloc ?_ (by first | omega | (simp; done) | (simp; omega)) _ | refine Below.setCell ?_ (Below.size (by assumption)) _ | refine Below.setCell ?_ (by first | omega | (simp; done) | (simp; omega)) _ | (refine Below.trans ?_ (Below.mono (by assumption) (by first | omega | (simp; done) | (simp; omega)))) | refine below_next ?_ (by assumption)))
    · simp
  have hz1 : w.heap.size < w1.heap.size := by have := hb1.size; simp at this; omega
  clear hb1
  generalize (cleanI (f, t)).1 = F at *
  generalize (cleanI (f, t)).2 = T at *
  generalize clampI x = X at *
  go_wp2_with (go_at_call 42; refine (hk _).mono ?_; rintro e w' ⟨rfl, rfl⟩)
  all_goals go_ret
  all_goals refine ⟨?_, (hx.setCell (Nat.le_refl _) _).setCell (Nat.le_refl _) _⟩
  all_goals rw [E.out]
  all_goals first | (simp [*]; done) | (simp; omega)
theorem keepR {W0 W : World} {b : Nat} {v0 v1 : Value} (c0 : W0.cell? ⟨b, 0, none⟩ = some v0) (c1 : W0.cell? ⟨b, 1, none⟩ = some v1) (h : Below W0.heap.size W0 W) :
    W.cell? ⟨b, 0, none⟩ = some v0 ∧ W.cell? ⟨b, 1, none⟩ = some v1 ∧ Below W0.heap.size W0 W :=
  ⟨(h.cell (World.block_lt_of_cell? W0 _ c0)).trans c0, (h.cell (World.block_lt_of_cell? W0 _ c1)).trans c1, h⟩
set_option maxHeartbeats 1000000 in
theorem right_same (f t F T : Int) (h1 : f = F) (h2 : t = T) (w : World) (hC : ∀ W : World, Calls Try.prog 79 #[.agg #[.int .i64 f, .int .i64 t]] W fun e w' => e = .returned (.agg #[.int .i64 F, .int .i64 T]) ∧ Below W.heap.size W w') :
    Calls Try.prog 47 #[.agg #[.int .i64 f, .int .i64 t]] w fun e w' => e = .returned (.bool (decide (f ≤ t))) ∧ Below w.heap.size w w' := by
  subst h1 h2
  go_enter Try.func47, Try.ntmps47
  go_wp2_with fail
  have d0 : (w.alloc (.cells #[.int .i64 f, .int .i64 t] 25)).cell? ⟨w.heap.size, 0, none⟩ = some (.int .i64 f) := by go_simp
  have d1 : (w.alloc (.cells #[.int .i64 f, .int .i64 t] 25)).cell? ⟨w.heap.size, 1, none⟩ = some (.int .i64 t) := by go_simp
  have hx : Below w.heap.size w (w.alloc (.cells #[.int .i64 f, .int .i64 t] 25)) := (Below.refl _ w).alloc (Nat.le_refl _) _
  have HX := Lib.hid hx
  clear hx
  generalize w.alloc (.cells #[.int .i64 f, .int .i64 t] 25) = W0 at *
  generalize hgs : w.heap.size = gs at *
  go_region_held3 (fun w' => w'.cell? ⟨gs, 0, none⟩ = some (.int .i64 f) ∧ w'.cell? ⟨gs, 1, none⟩ = some (.int .i64 t) ∧ Below W0.heap.size W0 w') (exact keepR d0 d1 (by repeat (first | exact Below.refl _ _ | assumption | refine below_drewN ?_ _ | refine Below.drew ?_ | refine below_alloc ?_ _ | refine Below.alloc ?_ (by first | omega | (simp; done) | (simp; omega)) _ | refine Below.setCell ?_ (Below.size (by assumption)) _ | refine Below.setCell ?_ (by first | omega | (simp; done) | (simp; omega)) _ | (refine Below.trans ?_ (Below.mono (by assumption) (by first | omega | (simp; done) | (simp; omega)))) | refine below_next ?_ (by assumption))))
    (first
      | (go_at_call 79; refine (hC _).mono ?_; rintro e w4 ⟨rfl, hb4⟩; have hb' := below_next (W0 := W0) (by repeat (first | exact Below.refl _ _ | assumption | refine below_drewN ?_ _ | refine Below.drew ?_ | refine below_alloc ?_ _ | refine Below.alloc ?_ (by first | omega | (simp; done) | (simp; omega)) _ | refine Below.setCell ?_ (Below.size (by assumption)) _ | refine Below.setCell ?_ (by first | omega | (simp; done) | (simp; omega)) _ | (refine Below.trans ?_ (Below.mono (by assumption) (by first | omega | (simp; done) | (simp; omega)))) | refine below_next ?_ (by assumption))) hb4; clear hb4))
  all_goals go_wp2_with fail
  all_goals go_ret
  all_goals exact ⟨by simp [*], by rw [hgs]; exact HX.out.trans (Below.mono (w := W0) (B := W0.heap.size) (by assumption) (by rw [← hgs]; exact HX.out.size))⟩
end Go.Proofs.Ythdljigcfhjikaa
