/- Right of layer 1 on spans that are not in bounds ; and whatever they are. No condition but what is said. -/
import Derived.Test.YtnmhdodcfbjalaaSpanC
namespace Go.Proofs.Ytnmhdodcfbjalaa
set_option linter.unusedVariables false
open Go.ChangeShapes Go.WideShapes Go.ChangeAt Go.RowKit
set_option maxRecDepth 100000
attribute [local go_sem ↓] Go.wp_at_zero Go.wp_at_succ comesTo_value_eq comesTo_skip_eq comesTo_enter_eq
set_option maxRecDepth 100000 in
set_option maxHeartbeats 1000000 in
theorem right_from (f t F T : Int) (h1 : ¬ f = F) (w : World) (hC : ∀ W : World, Calls Try.prog 53 #[.agg #[.int .i64 f, .int .i64 t]] W fun e w' => e = .returned (.agg #[.int .i64 F, .int .i64 T]) ∧ Below W.heap.size W w') :
    Calls Try.prog 17 #[.agg #[.int .i64 f, .int .i64 t]] w fun e w' => e = .returned (.bool false) ∧ Below w.heap.size w w' := by
  go_enter Try.func17, Try.ntmps17
  go_wp2_with fail
  have d0 : (w.alloc (.cells #[.int .i64 f, .int .i64 t] 24)).cell? ⟨w.heap.size, 0, none⟩ = some (.int .i64 f) := by go_simp
  have d1 : (w.alloc (.cells #[.int .i64 f, .int .i64 t] 24)).cell? ⟨w.heap.size, 1, none⟩ = some (.int .i64 t) := by go_simp
  have hx : Below w.heap.size w (w.alloc (.cells #[.int .i64 f, .int .i64 t] 24)) := (Below.refl _ w).alloc (Nat.le_refl _) _
  have HX := Lib.hid hx
  clear hx
  generalize w.alloc (.cells #[.int .i64 f, .int .i64 t] 24) = W0 at *
  generalize hgs : w.heap.size = gs at *
  refine wp_region_grow (Below W0.heap.size W0) (by kernel_rfl) (by kernel_rfl) (Below.refl _ _).drew ?_
  have hlt := World.block_lt_of_cell? W0 _ d0
  (refine textS_run ?_ ?_ (fun W hS => ?_) ?_; rotate_left; (focus go_simp); (focus (obtain ⟨hc, hf⟩ := bcell hS; go_simp; first | rfl | exact ⟨rfl, hS⟩ | exact hS)); (try go_simp))
  (refine textS_run ?_ ?_ (fun W hS => ?_) ?_; rotate_left; (focus go_simp); (focus (obtain ⟨hc, hf⟩ := bcell hS; go_simp; first | rfl | exact ⟨rfl, hS⟩ | exact hS)); (try go_simp))
  (refine textS_run ?_ ?_ (fun W hS => ?_) ?_; rotate_left; (focus go_simp); (focus (obtain ⟨hc, hf⟩ := bcell hS; go_simp; refine (hC _).mono ?_; rintro e w1 ⟨rfl, hb⟩; refine ⟨?_, hS.trans (hb.mono hS.size)⟩; rfl)); (try go_simp))
  (refine textS_run ?_ ?_ (fun W hS => ?_) ?_; rotate_left; (focus go_simp); (focus (obtain ⟨hc, hf⟩ := bcell hS; go_simp; first | rfl | exact ⟨rfl, hS⟩ | exact hS)); (try go_simp))
  (refine textS_run ?_ ?_ (fun W hS => ?_) ?_; rotate_left; (focus go_simp); (focus (obtain ⟨hc, hf⟩ := bcell hS; go_simp; first | rfl | exact ⟨rfl, hS⟩ | exact hS)); (try go_simp))
  (refine textS_skip ?_ ?_; (focus go_simp))
  (refine textS_skip ?_ ?_; (focus go_simp))
  (refine textS_skip ?_ ?_; (focus go_simp))
  (refine textS_skip ?_ ?_; (focus go_simp))
  (refine textS_skip ?_ ?_; (focus go_simp))
  (refine textS_run ?_ ?_ (fun W hS => ?_) ?_; rotate_left; (focus go_simp); (focus (obtain ⟨hc, hf⟩ := bcell hS; go_simp; first | rfl | exact ⟨rfl, hS⟩ | exact hS)); (try go_simp))
  (refine textS_run ?_ ?_ (fun W hS => ?_) ?_; rotate_left; (focus go_simp); (focus (obtain ⟨hc, hf⟩ := bcell hS; go_simp; first | rfl | exact ⟨rfl, hS⟩ | exact hS)); (try go_simp))
  refine textS_nil ?_
  intro W1 hS
  go_wp2_with fail
  go_ret
  exact ⟨rfl, HX.out.trans (hS.mono (by rw [← hgs]; exact HX.out.size))⟩
set_option maxRecDepth 100000 in
set_option maxHeartbeats 1000000 in
theorem right_to (f t F T : Int) (h1 : f = F) (h2 : ¬ t = T) (w : World) (hC : ∀ W : World, Calls Try.prog 53 #[.agg #[.int .i64 f, .int .i64 t]] W fun e w' => e = .returned (.agg #[.int .i64 F, .int .i64 T]) ∧ Below W.heap.size W w') :
    Calls Try.prog 17 #[.agg #[.int .i64 f, .int .i64 t]] w fun e w' => e = .returned (.bool false) ∧ Below w.heap.size w w' := by
  subst h1
  go_enter Try.func17, Try.ntmps17
  go_wp2_with fail
  have d0 : (w.alloc (.cells #[.int .i64 f, .int .i64 t] 24)).cell? ⟨w.heap.size, 0, none⟩ = some (.int .i64 f) := by go_simp
  have d1 : (w.alloc (.cells #[.int .i64 f, .int .i64 t] 24)).cell? ⟨w.heap.size, 1, none⟩ = some (.int .i64 t) := by go_simp
  have hx : Below w.heap.size w (w.alloc (.cells #[.int .i64 f, .int .i64 t] 24)) := (Below.refl _ w).alloc (Nat.le_refl _) _
  have HX := Lib.hid hx
  clear hx
  generalize w.alloc (.cells #[.int .i64 f, .int .i64 t] 24) = W0 at *
  generalize hgs : w.heap.size = gs at *
  refine wp_region_grow (Below W0.heap.size W0) (by kernel_rfl) (by kernel_rfl) (Below.refl _ _).drew ?_
  have hlt := World.block_lt_of_cell? W0 _ d0
  (refine textS_run ?_ ?_ (fun W hS => ?_) ?_; rotate_left; (focus go_simp); (focus (obtain ⟨hc, hf⟩ := bcell hS; go_simp; first | rfl | exact ⟨rfl, hS⟩ | exact hS)); (try go_simp))
  (refine textS_run ?_ ?_ (fun W hS => ?_) ?_; rotate_left; (focus go_simp); (focus (obtain ⟨hc, hf⟩ := bcell hS; go_simp; first | rfl | exact ⟨rfl, hS⟩ | exact hS)); (try go_simp))
  (refine textS_run ?_ ?_ (fun W hS => ?_) ?_; rotate_left; (focus go_simp); (focus (obtain ⟨hc, hf⟩ := bcell hS; go_simp; refine (hC _).mono ?_; rintro e w1 ⟨rfl, hb⟩; refine ⟨?_, hS.trans (hb.mono hS.size)⟩; rfl)); (try go_simp))
  (refine textS_run ?_ ?_ (fun W hS => ?_) ?_; rotate_left; (focus go_simp); (focus (obtain ⟨hc, hf⟩ := bcell hS; go_simp; first | rfl | exact ⟨rfl, hS⟩ | exact hS)); (try go_simp))
  (refine textS_run ?_ ?_ (fun W hS => ?_) ?_; rotate_left; (focus go_simp); (focus (obtain ⟨hc, hf⟩ := bcell hS; go_simp; first | rfl | exact ⟨rfl, hS⟩ | exact hS)); (try go_simp))
  (refine textS_skip ?_ ?_; (focus go_simp))
  (refine textS_skip ?_ ?_; (focus go_simp))
  (refine textS_skip ?_ ?_; (focus go_simp))
  (refine textS_skip ?_ ?_; (focus go_simp))
  (refine textS_skip ?_ ?_; (focus go_simp))
  (refine textS_run ?_ ?_ (fun W hS => ?_) ?_; rotate_left; (focus go_simp); (focus (obtain ⟨hc, hf⟩ := bcell hS; go_simp; first | rfl | exact ⟨rfl, hS⟩ | exact hS)); (try go_simp))
  (refine textS_run ?_ ?_ (fun W hS => ?_) ?_; rotate_left; (focus go_simp); (focus (obtain ⟨hc, hf⟩ := bcell hS; go_simp; first | rfl | exact ⟨rfl, hS⟩ | exact hS)); (try go_simp))
  refine textS_nil ?_
  intro W1 hS
  go_wp2_with fail
  go_ret
  exact ⟨rfl, HX.out.trans (hS.mono (by rw [← hgs]; exact HX.out.size))⟩
theorem right_any (f t : Int) (w : World) :
    Calls Try.prog 17 #[.agg #[.int .i64 f, .int .i64 t]] w fun e w' => e = .returned (.bool (rightI (f, t))) ∧ Below w.heap.size w w' := by
  have hC := fun W => clamped_any f t W
  have E : rightI (f, t) = (decide (f = clampI f ∧ t = clampI t) && decide (f ≤ t)) := rfl
  by_cases h1 : f = clampI f
  · by_cases h2 : t = clampI t
    · rw [E, show decide (f = clampI f ∧ t = clampI t) = true by simp [← h1, ← h2], Bool.true_and]
      exact right_same f t _ _ h1 h2 w hC
    · rw [E, show decide (f = clampI f ∧ t = clampI t) = false by simp [h2], Bool.false_and]
      exact right_to f t _ _ h1 h2 w hC
  · rw [E, show decide (f = clampI f ∧ t = clampI t) = false by simp [h1], Bool.false_and]
    exact right_from f t _ _ h1 w hC
end Go.Proofs.Ytnmhdodcfbjalaa
