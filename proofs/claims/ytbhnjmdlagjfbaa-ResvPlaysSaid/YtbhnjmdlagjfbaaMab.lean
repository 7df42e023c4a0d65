/- Laws that belong together: Contracts of Own, clamped and Empty of layer 1 (tick). No condition.; Contracts of the other functions of layer 1 (tick) on spans, and of the reference's. No condition.; Contracts of Holds and Right of layer 1 on spans, and of the reference's Holds. No condition.; Right of layer 1 on spans that are not in bounds ; and whatever they are. No condition but what is said.; The contract of the reference's Cut of layer 1 (out of tick's texts, for seats without its Len). No condition. -/
import Derived.Test.YtbhnjmdlagjfbaaMaa
import Derived.Test.YtbhnjmdlagjfbaaTxt
import Derived.Deep.RegionHeld3
import Derived.Deep.QuietTactic
import Derived.BigQuiet
import Derived.Deep.DrawnRows
import Derived.StillTailTactics
import Derived.Lib.Hide
import Derived.Test.YtbhnjmdlagjfbaaMac
namespace Go.Proofs.Ytbhnjmdlagjfbaa
set_option linter.unusedVariables false
open Go.ChangeShapes Go.WideShapes Go.ChangeAt Go.RowKit
attribute [local go_sem ↓] Go.wp_at_zero Go.wp_at_succ

theorem bsize {W w1 : World} (hb : Below W.heap.size W w1) : W.heap.size ≤ w1.heap.size := hb.size

/-- the times of both -/
def bothF (a b : Int × Int) : Int := max (clampI a.1) (clampI b.1)
def bothT (a b : Int × Int) : Int := min (clampI a.2) (clampI b.2)
def cutI (a b : Int × Int) : Int × Int := if bothT a b ≤ bothF a b then (0, 0) else (bothF a b, bothT a b)
def cleanI (a : Int × Int) : Int × Int := if clampI a.2 ≤ clampI a.1 then (0, 0) else (clampI a.1, clampI a.2)

theorem own_any (f t : Int) (w : World) :
    Calls Try.prog 14 #[.agg #[.int .i64 f, .int .i64 t]] w fun e w' => e = .returned (.agg #[.int .i64 f, .int .i64 t]) ∧ Below w.heap.size w w' := by
  go_enter Try.func14, Try.ntmps14
  go_wp2
  exact bodyPost_ret (v := .agg #[.int .i64 f, .int .i64 t]) (by simp [results, Try.results14, go_sem]) rfl ⟨rfl, (by repeat (first | exact Below.refl _ _ | assumption | refine below_drewN ?_ _ | refine Below.drew ?_ | refine below_alloc ?_ _ | refine Below.alloc ?_ (by first | omega | (simp; done) | (simp; omega)) _ | refine Below.setCell ?_ (Below.size (by assumption)) _ | refine Below.setCell ?_ (by first | omega | (simp; done) | (simp; omega)) _ | (refine Below.trans ?_ (Below.mono (by assumption) (by first | omega | (simp; done) | (simp; omega)))) | refine below_next ?_ (by assumption)))⟩

set_option maxHeartbeats 1000000 in
theorem clamped_any (f t : Int) (w : World) :
    Calls Try.prog 151 #[.agg #[.int .i64 f, .int .i64 t]] w fun e w' => e = .returned (.agg #[.int .i64 (clampI f), .int .i64 (clampI t)]) ∧ Below w.heap.size w w' := by
  go_enter Try.func151, Try.ntmps151
  go_wp2
  go_region_held3 (fun w' => w'.cell? ⟨w.heap.size, 0, none⟩ = some (.int .i64 f) ∧ w'.cell? ⟨w.heap.size, 1, none⟩ = some (.int .i64 t)) (go_keep)
    (first | (go_at_call 105; refine (clamp_any _ _).mono ?_; rintro e w' ⟨rfl, rfl⟩))
  go_wp2
  exact bodyPost_ret (v := .agg #[.int .i64 (clampI f), .int .i64 (clampI t)]) (by simp [results, Try.results151, go_sem]) rfl ⟨rfl, (by repeat (first | exact Below.refl _ _ | assumption | refine below_drewN ?_ _ | refine Below.drew ?_ | refine below_alloc ?_ _ | refine Below.alloc ?_ (by first | omega | (simp; done) | (simp; omega)) _ | refine Below.setCell ?_ (Below.size (by assumption)) _ | refine Below.setCell ?_ (by first | omega | (simp; done) | (simp; omega)) _ | (refine Below.trans ?_ (Below.mono (by assumption) (by first | omega | (simp; done) | (simp; omega)))) | refine below_next ?_ (by assumption)))⟩
set_option maxHeartbeats 1000000 in
theorem empty_any (f t : Int) (w : World) :
    Calls Try.prog 120 #[.agg #[.int .i64 f, .int .i64 t]] w fun e w' => e = .returned (.bool (decide (clampI t ≤ clampI f))) ∧ Below w.heap.size w w' := by
  go_enter Try.func120, Try.ntmps120
  go_wp2
  go_quiet ((go_at_call 105; exact Calls.quiet_of_same ((clamp_any _ _).mono fun _ _ h => ⟨h.1, h.2.symm⟩)))
  go_wp2
  go_ret
  exact ⟨rfl, (by repeat (first | exact Below.refl _ _ | assumption | refine below_drewN ?_ _ | refine Below.drew ?_ | refine below_alloc ?_ _ | refine Below.alloc ?_ (by first | omega | (simp; done) | (simp; omega)) _ | refine Below.setCell ?_ (Below.size (by assumption)) _ | refine Below.setCell ?_ (by first | omega | (simp; done) | (simp; omega)) _ | (refine Below.trans ?_ (Below.mono (by assumption) (by first | omega | (simp; done) | (simp; omega)))) | refine below_next ?_ (by assumption)))⟩
end Go.Proofs.Ytbhnjmdlagjfbaa
namespace Go.Proofs.Ytbhnjmdlagjfbaa
set_option linter.unusedVariables false
open Go.ChangeShapes Go.WideShapes Go.ChangeAt Go.RowKit
set_option maxRecDepth 100000
attribute [local go_sem ↓] Go.wp_at_zero Go.wp_at_succ

theorem both_clamp (a b : Int × Int) : clampI (bothF a b) = bothF a b ∧ clampI (bothT a b) = bothT a b := by
  have h1 := clampI_bd a.1; have h2 := clampI_bd a.2; have h3 := clampI_bd b.1; have h4 := clampI_bd b.2
  unfold bothF bothT
  exact ⟨clampI_id (by omega) (by omega), clampI_id (by omega) (by omega)⟩
attribute [local go_sem ↓] comesTo_value_eq comesTo_skip_eq comesTo_enter_eq
set_option maxHeartbeats 1000000 in
theorem both_any (f t g u : Int) (w : World) :
    Calls Try.prog 122 #[.agg #[.int .i64 f, .int .i64 t], .agg #[.int .i64 g, .int .i64 u]] w fun e w' => e = .returned (.agg #[.int .i64 (bothF (f, t) (g, u)), .int .i64 (bothT (f, t) (g, u))]) ∧ Below w.heap.size w w' := by
  go_enter Try.func122, Try.ntmps122
  go_wp2
  generalize hW : ((w.alloc (.cells #[.int .i64 f, .int .i64 t] 39)).alloc (.cells #[.int .i64 g, .int .i64 u] 39)).alloc (.cells #[.int .i64 0, .int .i64 0] 39) = W0
  have l0 : w.heap.size < W0.heap.size := by rw [← hW]; simp; omega
  have l1 : w.heap.size + 1 < W0.heap.size := by rw [← hW]; simp
  have l2 : w.heap.size + 1 + 1 < W0.heap.size := by rw [← hW]; simp
  have c0 : W0.cell? ⟨w.heap.size, 0, none⟩ = some (.int .i64 f) := by subst hW; go_simp
  have c1 : W0.cell? ⟨w.heap.size, 1, none⟩ = some (.int .i64 t) := by subst hW; go_simp
  have c2 : W0.cell? ⟨w.heap.size + 1, 0, none⟩ = some (.int .i64 g) := by subst hW; go_simp
  have c3 : W0.cell? ⟨w.heap.size + 1, 1, none⟩ = some (.int .i64 u) := by subst hW; go_simp
  have f0 : ∀ o, W0.frozen? ⟨w.heap.size, o, none⟩ = false := by subst hW; intro o; go_simp
  have f1 : ∀ o, W0.frozen? ⟨w.heap.size + 1, o, none⟩ = false := by subst hW; intro o; go_simp
  have f2 : ∀ o, W0.frozen? ⟨w.heap.size + 1 + 1, o, none⟩ = false := by subst hW; intro o; go_simp
  have c4 : W0.cell? ⟨w.heap.size + 1 + 1, 0, none⟩ = some (.int .i64 0) := by subst hW; go_simp
  have c5 : W0.cell? ⟨w.heap.size + 1 + 1, 1, none⟩ = some (.int .i64 0) := by subst hW; go_simp
  have hbel : Below w.heap.size w W0 := by rw [← hW]; exact (by repeat (first | exact Below.refl _ _ | assumption | refine below_drewN ?_ _ | refine Below.drew ?_ | refine below_alloc ?_ _ | refine Below.alloc ?_ (by first | omega | (simp; done) | (simp; omega)) _ | refine Below.setCell ?_ (Below.size (by assumption)) _ | refine Below.setCell ?_ (by first | omega | (simp; done) | (simp; omega)) _ | (refine Below.trans ?_ (Below.mono (by assumption) (by first | omega | (simp; done) | (simp; omega)))) | refine below_next ?_ (by assumption)))
  clear hW
  refine wp_region_grow_tail 4 (Below W0.heap.size W0) (by kernel_rfl) (by kernel_rfl) (Below.refl _ _).drew ?_
  simp only [List.take_succ_cons, List.take_zero, List.drop_succ_cons, List.drop_zero]
  (refine textS_run ?_ ?_ (fun W hS => ?_) ?_; rotate_left; (focus go_simp); (focus (obtain ⟨hc, hf⟩ := bcell hS; go_simp; first | rfl | exact ⟨rfl, hS⟩ | exact hS)); (try go_simp))
  (refine textS_run ?_ ?_ (fun W hS => ?_) ?_; rotate_left; (focus go_simp); (focus (obtain ⟨hc, hf⟩ := bcell hS; go_simp; refine (clamped_any _ _ _).mono ?_; rintro e w1 ⟨rfl, hb⟩; refine ⟨?_, hS.trans (hb.mono hS.size)⟩; rfl)); (try go_simp))
  (refine textS_run ?_ ?_ (fun W hS => ?_) ?_; rotate_left; (focus go_simp); (focus (obtain ⟨hc, hf⟩ := bcell hS; go_simp; first | rfl | exact ⟨rfl, hS⟩ | exact hS)); (try go_simp))
  (refine textS_run ?_ ?_ (fun W hS => ?_) ?_; rotate_left; (focus go_simp); (focus (obtain ⟨hc, hf⟩ := bcell hS; go_simp; refine (clamped_any _ _ _).mono ?_; rintro e w1 ⟨rfl, hb⟩; refine ⟨?_, hS.trans (hb.mono hS.size)⟩; rfl)); (try go_simp))
  refine textS_nil ?_
  intro W1 hS
  obtain ⟨hc, hf⟩ := bcell hS
  have d0 := (hc _ 0 l0).trans c0
  have d1 := (hc _ 1 l0).trans c1
  have d2 := (hc _ 0 l1).trans c2
  have d3 := (hc _ 1 l1).trans c3
  have d4 := (hc _ 0 l2).trans c4
  have d5 := (hc _ 1 l2).trans c5
  have e0 := (hf _ 0 l0).trans (f0 0)
  have e1 := (hf _ 1 l0).trans (f0 1)
  have e2 := (hf _ 0 l1).trans (f1 0)
  have e3 := (hf _ 1 l1).trans (f1 1)
  have e4 := (hf _ 0 l2).trans (f2 0)
  have e5 := (hf _ 1 l2).trans (f2 1)
  have hb1 := hbel.trans (hS.mono hbel.size)
  clear hc hf c0 c1 c2 c3 c4 c5 f0 f1 f2 l0 l1 l2 hbel hS
  clear W0
  go_wp2
  · refine bodyPost_ret (v := .agg #[.int .i64 (clampI g), .int .i64 (clampI u)]) (by simp only [results, Try.results122]; go_simp) rfl ⟨?_, ?_⟩
    · rw [show bothF (f, t) (g, u) = clampI g by show max (clampI f) (clampI g) = _; omega, show bothT (f, t) (g, u) = clampI u by show min (clampI t) (clampI u) = _; omega]
    · repeat (refine Below.setCell ?_ (by first | exact Nat.le_refl _ | exact Nat.le_succ _ | exact Nat.le_add_right _ 2) _)
      first | exact hb1 | exact hb1.drew
  · refine bodyPost_ret (v := .agg #[.int .i64 (clampI g), .int .i64 (clampI t)]) (by simp only [results, Try.results122]; go_simp) rfl ⟨?_, ?_⟩
    · rw [show bothF (f, t) (g, u) = clampI g by show max (clampI f) (clampI g) = _; omega, show bothT (f, t) (g, u) = clampI t by show min (clampI t) (clampI u) = _; omega]
    · repeat (refine Below.setCell ?_ (by first | exact Nat.le_refl _ | exact Nat.le_succ _ | exact Nat.le_add_right _ 2) _)
      first | exact hb1 | exact hb1.drew
  · refine bodyPost_ret (v := .agg #[.int .i64 (clampI f), .int .i64 (clampI u)]) (by simp only [results, Try.results122]; go_simp) rfl ⟨?_, ?_⟩
    · rw [show bothF (f, t) (g, u) = clampI f by show max (clampI f) (clampI g) = _; omega, show bothT (f, t) (g, u) = clampI u by show min (clampI t) (clampI u) = _; omega]
    · repeat (refine Below.setCell ?_ (by first | exact Nat.le_refl _ | exact Nat.le_succ _ | exact Nat.le_add_right _ 2) _)
      first | exact hb1 | exact hb1.drew
  · refine bodyPost_ret (v := .agg #[.int .i64 (clampI f), .int .i64 (clampI t)]) (by simp only [results, Try.results122]; go_simp) rfl ⟨?_, ?_⟩
    · rw [show bothF (f, t) (g, u) = clampI f by show max (clampI f) (clampI g) = _; omega, show bothT (f, t) (g, u) = clampI t by show min (clampI t) (clampI u) = _; omega]
    · repeat (refine Below.setCell ?_ (by first | exact Nat.le_refl _ | exact Nat.le_succ _ | exact Nat.le_add_right _ 2) _)
      first | exact hb1 | exact hb1.drew

set_option maxHeartbeats 1000000 in
theorem rclean_any (f t : Int) (w : World) :
    Calls Try.prog 115 #[.agg #[.int .i64 f, .int .i64 t]] w fun e w' => e = .returned (.agg #[.int .i64 (cleanI (f, t)).1, .int .i64 (cleanI (f, t)).2]) ∧ Below w.heap.size w w' := by
  by_cases h : clampI t ≤ clampI f
  · have e : cleanI (f, t) = (0, 0) := by unfold cleanI; rw [if_pos h]
    have E := Lib.hid e; clear e
    go_enter Try.func115, Try.ntmps115
    go_wp2
    go_region_with (go_at_call 124; refine (rclamp_any _ _).mono ?_; rintro e w' ⟨rfl, rfl⟩)
    all_goals go_wp2
    all_goals exact bodyPost_ret (v := .agg #[.int .i64 0, .int .i64 0]) (by simp [results, Try.results115, go_sem]) rfl ⟨by rw [E.out], (by repeat (first | exact Below.refl _ _ | assumption | refine below_drewN ?_ _ | refine Below.drew ?_ | refine below_alloc ?_ _ | refine Below.alloc ?_ (by first | omega | (simp; done) | (simp; omega)) _ | refine Below.setCell ?_ (Below.size (by assumption)) _ | refine Below.setCell ?_ (by first | omega | (simp; done) | (simp; omega)) _ | (refine Below.trans ?_ (Below.mono (by assumption) (by first | omega | (simp; done) | (simp; omega)))) | refine below_next ?_ (by assumption)))⟩
  · have e : cleanI (f, t) = (clampI f, clampI t) := by unfold cleanI; rw [if_neg h]
    have E := Lib.hid e; clear e
    go_enter Try.func115, Try.ntmps115
    go_wp2
    go_region_with (go_at_call 124; refine (rclamp_any _ _).mono ?_; rintro e w' ⟨rfl, rfl⟩)
    all_goals go_wp2
    all_goals exact bodyPost_ret (v := .agg #[.int .i64 (clampI f), .int .i64 (clampI t)]) (by simp [results, Try.results115, go_sem]) rfl ⟨by rw [E.out], (by repeat (first | exact Below.refl _ _ | assumption | refine below_drewN ?_ _ | refine Below.drew ?_ | refine below_alloc ?_ _ | refine Below.alloc ?_ (by first | omega | (simp; done) | (simp; omega)) _ | refine Below.setCell ?_ (Below.size (by assumption)) _ | refine Below.setCell ?_ (by first | omega | (simp; done) | (simp; omega)) _ | (refine Below.trans ?_ (Below.mono (by assumption) (by first | omega | (simp; done) | (simp; omega)))) | refine below_next ?_ (by assumption)))⟩

theorem meets_any (f t g u : Int) (w : World) :
    Calls Try.prog 66 #[.agg #[.int .i64 f, .int .i64 t], .agg #[.int .i64 g, .int .i64 u]] w fun e w' => e = .returned (.bool (!decide (bothT (f, t) (g, u) ≤ bothF (f, t) (g, u)))) ∧ Below w.heap.size w w' := by
  have hcl : ∀ a b : Int × Int, clampI (bothF a b) = bothF a b ∧ clampI (bothT a b) = bothT a b := both_clamp
  go_enter Try.func66, Try.ntmps66
  go_wp2_with fail
  refine (both_any f t g u _).mono ?_
  rintro e w1 ⟨rfl, hb1⟩
  have he := fun W => empty_any (bothF (f, t) (g, u)) (bothT (f, t) (g, u)) W
  rw [(hcl (f, t) (g, u)).1, (hcl (f, t) (g, u)).2] at he
  go_wp2_with fail
  refine (he _).mono ?_
  rintro e w2 ⟨rfl, hb2⟩
  go_wp2_with fail
  go_ret
  have hz : w.heap.size ≤ w1.heap.size := by have := hb1.size; simp at this; omega
  exact ⟨rfl, (((Below.refl _ w).alloc (Nat.le_refl _) _).alloc (by simp) _ |>.trans (hb1.mono (by simp; omega))).trans (hb2.mono hz)⟩
set_option maxHeartbeats 1000000 in
theorem cut_any (f t g u : Int) (w : World) :
    Calls Try.prog 143 #[.agg #[.int .i64 f, .int .i64 t], .agg #[.int .i64 g, .int .i64 u]] w fun e w' => e = .returned (.agg #[.int .i64 (cutI (f, t) (g, u)).1, .int .i64 (cutI (f, t) (g, u)).2]) ∧ Below w.heap.size w w' := by
  have hC := both_clamp (f, t) (g, u)
  have hB := fun W => both_any f t g u W
  have he := fun W => empty_any (bothF (f, t) (g, u)) (bothT (f, t) (g, u)) W
  rw [hC.1, hC.2] at he
  have E := Lib.hid (show cutI (f, t) (g, u) = if bothT (f, t) (g, u) ≤ bothF (f, t) (g, u) then (0, 0) else (bothF (f, t) (g, u), bothT (f, t) (g, u)) from rfl)
  clear hC
  generalize cutI (f, t) (g, u) = C at *
  generalize bothF (f, t) (g, u) = F at *
  generalize bothT (f, t) (g, u) = T at *
  by_cases hle : T ≤ F
  · have hd : decide (T ≤ F) = true := by simp [hle]
    have hC : C = (0, 0) := by rw [E.out, if_pos hle]
    rw [hd] at he
    clear E hle
    subst hC
    go_enter Try.func143, Try.ntmps143
    go_wp2_with fail
    refine (hB _).mono ?_
    rintro e w1 ⟨rfl, hb1⟩
    have hx : Below w.heap.size w w1 := by
      refine Below.trans ?_ (hb1.mono ?_)
      · exact (by repeat (first | exact Below.refl _ _ | assumption | refine below_drewN ?_ _ | refine Below.drew ?_ | refine below_alloc ?_ _ | refine Below.alloc ?_ (by first | omega | (simp; done) | (simp; omega)) _ | refine Below.setCell ?_ (Below.size (by assumption)) _ | refine Below.setCell ?_ (by first | omega | (simp; done) | (simp; omega)) _ | (refine Below.trans ?_ (Below.mono (by assumption) (by first | omega | (simp; done) | (simp; omega)))) | refine below_next ?_ (by assumption)))
      · simp; omega
    have q0 : w1.cell? ⟨w.heap.size + 1 + 1, 0, none⟩ = some (.int .i64 0) := (hb1.cell (p := ⟨w.heap.size + 1 + 1, 0, none⟩) (by simp)).trans (by go_simp)
    have q1 : w1.cell? ⟨w.heap.size + 1 + 1, 1, none⟩ = some (.int .i64 0) := (hb1.cell (p := ⟨w.heap.size + 1 + 1, 1, none⟩) (by simp)).trans (by go_simp)
    have q2 : w1.frozen? ⟨w.heap.size + 1 + 1, 0, none⟩ = false := (hb1.frozen (p := ⟨w.heap.size + 1 + 1, 0, none⟩) (by simp)).trans (by go_simp)
    have q3 : w1.frozen? ⟨w.heap.size + 1 + 1, 1, none⟩ = false := (hb1.frozen (p := ⟨w.heap.size + 1 + 1, 1, none⟩) (by simp)).trans (by go_simp)
    have hz1 : w.heap.size + 1 + 1 < w1.heap.size := by have := hb1.size; simp at this; omega
    have HX := Lib.hid hx
    clear hb1 hx
    go_wp2_with fail
    refine (he _).mono ?_
    rintro e w2 ⟨rfl, hb2⟩
    have hy : Below w1.heap.size w1 w2 := ((Below.refl _ w1).alloc (Nat.le_refl _) _).trans (hb2.mono (by simp))
    have r0 := (hy.cell (p := ⟨w.heap.size + 1 + 1, 0, none⟩) hz1).trans q0
    have r1 := (hy.cell (p := ⟨w.heap.size + 1 + 1, 1, none⟩) hz1).trans q1
    have r2 := (hy.frozen (p := ⟨w.heap.size + 1 + 1, 0, none⟩) hz1).trans q2
    have r3 := (hy.frozen (p := ⟨w.heap.size + 1 + 1, 1, none⟩) hz1).trans q3
    clear hy q0 q1 q2 q3
    have hx : Below w.heap.size w w2 := (HX.out.alloc HX.out.size _).trans (hb2.mono (by have := HX.out.size; simp; omega))
    clear hb2
    go_wp2_with fail
    exact bodyPost_ret (v := .agg #[.int .i64 0, .int .i64 0]) (by simp only [results, Try.results143]; go_simp) rfl ⟨rfl, (hx.setCell (by simp; omega) _).setCell (by simp; omega) _⟩
  · have hd : decide (T ≤ F) = false := by simp [hle]
    have hC : C = (F, T) := by rw [E.out, if_neg hle]
    rw [hd] at he
    clear E hle
    subst hC
    go_enter Try.func143, Try.ntmps143
    go_wp2_with fail
    refine (hB _).mono ?_
    rintro e w1 ⟨rfl, hb1⟩
    have hx : Below w.heap.size w w1 := by
      refine Below.trans ?_ (hb1.mono ?_)
      · exact (by repeat (first | exact Below.refl _ _ | assumption | refine below_drewN ?_ _ | refine Below.drew ?_ | refine below_alloc ?_ _ | refine Below.alloc ?_ (by first | omega | (simp; done) | (simp; omega)) _ | refine Below.setCell ?_ (Below.size (by assumption)) _ | refine Below.setCell ?_ (by first | omega | (simp; done) | (simp; omega)) _ | (refine Below.trans ?_ (Below.mono (by assumption) (by first | omega | (simp; done) | (simp; omega)))) | refine below_next ?_ (by assumption)))
      · simp; omega
    have q0 : w1.cell? ⟨w.heap.size + 1 + 1, 0, none⟩ = some (.int .i64 0) := (hb1.cell (p := ⟨w.heap.size + 1 + 1, 0, none⟩) (by simp)).trans (by go_simp)
    have q1 : w1.cell? ⟨w.heap.size + 1 + 1, 1, none⟩ = some (.int .i64 0) := (hb1.cell (p := ⟨w.heap.size + 1 + 1, 1, none⟩) (by simp)).trans (by go_simp)
    have q2 : w1.frozen? ⟨w.heap.size + 1 + 1, 0, none⟩ = false := (hb1.frozen (p := ⟨w.heap.size + 1 + 1, 0, none⟩) (by simp)).trans (by go_simp)
    have q3 : w1.frozen? ⟨w.heap.size + 1 + 1, 1, none⟩ = false := (hb1.frozen (p := ⟨w.heap.size + 1 + 1, 1, none⟩) (by simp)).trans (by go_simp)
    have hz1 : w.heap.size + 1 + 1 < w1.heap.size := by have := hb1.size; simp at this; omega
    have HX := Lib.hid hx
    clear hb1 hx
    go_wp2_with fail
    refine (he _).mono ?_
    rintro e w2 ⟨rfl, hb2⟩
    have hy : Below w1.heap.size w1 w2 := ((Below.refl _ w1).alloc (Nat.le_refl _) _).trans (hb2.mono (by simp))
    have r0 := (hy.cell (p := ⟨w.heap.size + 1 + 1, 0, none⟩) hz1).trans q0
    have r1 := (hy.cell (p := ⟨w.heap.size + 1 + 1, 1, none⟩) hz1).trans q1
    have r2 := (hy.frozen (p := ⟨w.heap.size + 1 + 1, 0, none⟩) hz1).trans q2
    have r3 := (hy.frozen (p := ⟨w.heap.size + 1 + 1, 1, none⟩) hz1).trans q3
    clear hy q0 q1 q2 q3
    have k0 : w2.cell? ⟨w1.heap.size, 0, none⟩ = some (.int .i64 F) := (hb2.cell (p := ⟨w1.heap.size, 0, none⟩) (by simp)).trans (by go_simp)
    have k1 : w2.cell? ⟨w1.heap.size, 1, none⟩ = some (.int .i64 T) := (hb2.cell (p := ⟨w1.heap.size, 1, none⟩) (by simp)).trans (by go_simp)
    have hx : Below w.heap.size w w2 := (HX.out.alloc HX.out.size _).trans (hb2.mono (by have := HX.out.size; simp; omega))
    clear hb2
    go_wp2_with fail
    exact bodyPost_ret (v := .agg #[.int .i64 F, .int .i64 T]) (by simp only [results, Try.results143]; go_simp) rfl ⟨rfl, (hx.setCell (by simp; omega) _).setCell (by simp; omega) _⟩

/-- how many times are in one -/
def lenI (a : Int × Int) : Int := if clampI a.2 ≤ clampI a.1 then 0 else subI a.2 a.1
theorem of_any (f m : Int) (w : World) :
    Calls Try.prog 45 #[.int .i64 f, .int .i64 m] w fun e w' => e = .returned (.agg #[.int .i64 (clampI f), .int .i64 (addI f m)]) ∧ Below w.heap.size w w' := by
  have ha := fun W => add_any f m W
  generalize addI f m = S at *
  go_enter Try.func45, Try.ntmps45
  go_wp2_with fail
  try go_region_with (first | (go_at_call 105; refine (clamp_any _ _).mono ?_; rintro e w' ⟨rfl, rfl⟩) | (go_at_call 46; refine (ha _).mono ?_; rintro e w' ⟨rfl, rfl⟩))
  all_goals (go_wp2_with (first | (go_at_call 105; refine (clamp_any _ _).mono ?_; rintro e w' ⟨rfl, rfl⟩) | (go_at_call 46; refine (ha _).mono ?_; rintro e w' ⟨rfl, rfl⟩)))
  all_goals exact bodyPost_ret (v := .agg #[.int .i64 (clampI f), .int .i64 S]) (by simp [results, Try.results45, go_sem]) rfl ⟨rfl, (by repeat (first | exact Below.refl _ _ | assumption | refine below_drewN ?_ _ | refine Below.drew ?_ | refine below_alloc ?_ _ | refine Below.alloc ?_ (by first | omega | (simp; done) | (simp; omega)) _ | refine Below.setCell ?_ (Below.size (by assumption)) _ | refine Below.setCell ?_ (by first | omega | (simp; done) | (simp; omega)) _ | (refine Below.trans ?_ (Below.mono (by assumption) (by first | omega | (simp; done) | (simp; omega)))) | refine below_next ?_ (by assumption)))⟩
end Go.Proofs.Ytbhnjmdlagjfbaa
namespace Go.Proofs.Ytbhnjmdlagjfbaa
set_option linter.unusedVariables false
open Go.ChangeShapes Go.WideShapes Go.ChangeAt Go.RowKit

/-- whether a time is in one -/
def holdsI (a : Int × Int) (x : Int) : Bool := decide (clampI a.1 ≤ clampI x) && decide (clampI x < clampI a.2)
/-- whether one may be -/
def rightI (a : Int × Int) : Bool := decide (a.1 = clampI a.1 ∧ a.2 = clampI a.2) && decide (a.1 ≤ a.2)
theorem rholds_eq (f t x : Int) : (decide ((cleanI (f, t)).1 ≤ clampI x) && decide (clampI x < (cleanI (f, t)).2)) = holdsI (f, t) x := by
  have h1 := clampI_bd x
  have e2 : holdsI (f, t) x = (decide (clampI f ≤ clampI x) && decide (clampI x < clampI t)) := rfl
  by_cases hle : clampI t ≤ clampI f
  · have e : cleanI (f, t) = (0, 0) := by unfold cleanI; exact if_pos hle
    rw [e, e2]
    have a : decide (clampI x < 0) = false := by simp; omega
    simp only [a, Bool.and_false]
    by_cases h : clampI f ≤ clampI x
    · have b : decide (clampI x < clampI t) = false := by simp; omega
      rw [b, Bool.and_false]
    · have b : decide (clampI f ≤ clampI x) = false := by simp; omega
      rw [b, Bool.false_and]
  · have e : cleanI (f, t) = (clampI f, clampI t) := by unfold cleanI; exact if_neg hle
    rw [e, e2]
set_option maxHeartbeats 1000000 in
theorem rholds_any (f t x : Int) (w : World) :
    Calls Try.prog 149 #[.agg #[.int .i64 f, .int .i64 t], .int .i64 x] w fun e w' => e = .returned (.bool (holdsI (f, t) x)) ∧ Below w.heap.size w w' := by
  have E := Lib.hid (rholds_eq f t x).symm
  have hk := fun W => rclamp_any x W
  generalize holdsI (f, t) x = B at *
  go_enter Try.func149, Try.ntmps149
  go_wp2_with fail
  refine (rclean_any f t _).mono ?_
  rintro e w1 ⟨rfl, hb1⟩
  have q0 : w1.cell? ⟨w.heap.size, 0, none⟩ = some (.int .i64 f) := (hb1.cell (p := ⟨w.heap.size, 0, none⟩) (by simp)).trans (by go_simp)
  have q1 : w1.cell? ⟨w.heap.size, 1, none⟩ = some (.int .i64 t) := (hb1.cell (p := ⟨w.heap.size, 1, none⟩) (by simp)).trans (by go_simp)
  have q2 : w1.frozen? ⟨w.heap.size, 0, none⟩ = false := (hb1.frozen (p := ⟨w.heap.size, 0, none⟩) (by simp)).trans (by go_simp)
  have q3 : w1.frozen? ⟨w.heap.size, 1, none⟩ = false := (hb1.frozen (p := ⟨w.heap.size, 1, none⟩) (by simp)).trans (by go_simp)
  have hx : Below w.heap.size w w1 := by
    refine Below.trans ?_ (hb1.mono ?_)
    · exact (by repeat (first | exact Below.refl _ _ | assumption | refine below_drewN ?_ _ | refine Below.drew ?_ | refine below_alloc ?_ _ | refine Below.alloc ?_ (by first | omega | (simp; done) | (simp; omega)) _ | refine Below.setCell ?_ (Below.size (by assumption)) _ | refine Below.setCell ?_ (by first | omega | (simp; done) | (simp; omega)) _ | (refine Below.trans ?_ (Below.mono (by assumption) (by first | omega | (simp; done) | (simp; omega)))) | refine below_next ?_ (by assumption)))
    · simp
  have hz1 : w.heap.size < w1.heap.size := by have := hb1.size; simp at this; omega
  clear hb1
  generalize (cleanI (f, t)).1 = F at *
  generalize (cleanI (f, t)).2 = T at *
  generalize clampI x = X at *
  go_wp2_with (go_at_call 124; refine (hk _).mono ?_; rintro e w' ⟨rfl, rfl⟩)
  all_goals go_ret
  all_goals refine ⟨?_, (hx.setCell (Nat.le_refl _) _).setCell (Nat.le_refl _) _⟩
  all_goals rw [E.out]
  all_goals first | (simp [*]; done) | (simp; omega)
theorem keepR {W0 W : World} {b : Nat} {v0 v1 : Value} (c0 : W0.cell? ⟨b, 0, none⟩ = some v0) (c1 : W0.cell? ⟨b, 1, none⟩ = some v1) (h : Below W0.heap.size W0 W) :
    W.cell? ⟨b, 0, none⟩ = some v0 ∧ W.cell? ⟨b, 1, none⟩ = some v1 ∧ Below W0.heap.size W0 W :=
  ⟨(h.cell (World.block_lt_of_cell? W0 _ c0)).trans c0, (h.cell (World.block_lt_of_cell? W0 _ c1)).trans c1, h⟩
set_option maxHeartbeats 1000000 in
theorem right_same (f t F T : Int) (h1 : f = F) (h2 : t = T) (w : World) (hC : ∀ W : World, Calls Try.prog 151 #[.agg #[.int .i64 f, .int .i64 t]] W fun e w' => e = .returned (.agg #[.int .i64 F, .int .i64 T]) ∧ Below W.heap.size W w') :
    Calls Try.prog 119 #[.agg #[.int .i64 f, .int .i64 t]] w fun e w' => e = .returned (.bool (decide (f ≤ t))) ∧ Below w.heap.size w w' := by
  subst h1 h2
  go_enter Try.func119, Try.ntmps119
  go_wp2_with fail
  have d0 : (w.alloc (.cells #[.int .i64 f, .int .i64 t] 39)).cell? ⟨w.heap.size, 0, none⟩ = some (.int .i64 f) := by go_simp
  have d1 : (w.alloc (.cells #[.int .i64 f, .int .i64 t] 39)).cell? ⟨w.heap.size, 1, none⟩ = some (.int .i64 t) := by go_simp
  have hx : Below w.heap.size w (w.alloc (.cells #[.int .i64 f, .int .i64 t] 39)) := (Below.refl _ w).alloc (Nat.le_refl _) _
  have HX := Lib.hid hx
  clear hx
  generalize w.alloc (.cells #[.int .i64 f, .int .i64 t] 39) = W0 at *
  generalize hgs : w.heap.size = gs at *
  go_region_held3 (fun w' => w'.cell? ⟨gs, 0, none⟩ = some (.int .i64 f) ∧ w'.cell? ⟨gs, 1, none⟩ = some (.int .i64 t) ∧ Below W0.heap.size W0 w') (exact keepR d0 d1 (by repeat (first | exact Below.refl _ _ | assumption | refine below_drewN ?_ _ | refine Below.drew ?_ | refine below_alloc ?_ _ | refine Below.alloc ?_ (by first | omega | (simp; done) | (simp; omega)) _ | refine Below.setCell ?_ (Below.size (by assumption)) _ | refine Below.setCell ?_ (by first | omega | (simp; done) | (simp; omega)) _ | (refine Below.trans ?_ (Below.mono (by assumption) (by first | omega | (simp; done) | (simp; omega)))) | refine below_next ?_ (by assumption))))
    (first
      | (go_at_call 151; refine (hC _).mono ?_; rintro e w4 ⟨rfl, hb4⟩; have hb' := below_next (W0 := W0) (by repeat (first | exact Below.refl _ _ | assumption | refine below_drewN ?_ _ | refine Below.drew ?_ | refine below_alloc ?_ _ | refine Below.alloc ?_ (by first | omega | (simp; done) | (simp; omega)) _ | refine Below.setCell ?_ (Below.size (by assumption)) _ | refine Below.setCell ?_ (by first | omega | (simp; done) | (simp; omega)) _ | (refine Below.trans ?_ (Below.mono (by assumption) (by first | omega | (simp; done) | (simp; omega)))) | refine below_next ?_ (by assumption))) hb4; clear hb4))
  all_goals go_wp2_with fail
  all_goals go_ret
  all_goals exact ⟨by simp [*], by rw [hgs]; exact HX.out.trans (Below.mono (w := W0) (B := W0.heap.size) (by assumption) (by rw [← hgs]; exact HX.out.size))⟩
end Go.Proofs.Ytbhnjmdlagjfbaa
namespace Go.Proofs.Ytbhnjmdlagjfbaa
set_option linter.unusedVariables false
open Go.ChangeShapes Go.WideShapes Go.ChangeAt Go.RowKit
set_option maxRecDepth 100000
attribute [local go_sem ↓] Go.wp_at_zero Go.wp_at_succ comesTo_value_eq comesTo_skip_eq comesTo_enter_eq
set_option maxRecDepth 100000 in
set_option maxHeartbeats 1000000 in
theorem right_from (f t F T : Int) (h1 : ¬ f = F) (w : World) (hC : ∀ W : World, Calls Try.prog 151 #[.agg #[.int .i64 f, .int .i64 t]] W fun e w' => e = .returned (.agg #[.int .i64 F, .int .i64 T]) ∧ Below W.heap.size W w') :
    Calls Try.prog 119 #[.agg #[.int .i64 f, .int .i64 t]] w fun e w' => e = .returned (.bool false) ∧ Below w.heap.size w w' := by
  go_enter Try.func119, Try.ntmps119
  go_wp2_with fail
  have d0 : (w.alloc (.cells #[.int .i64 f, .int .i64 t] 39)).cell? ⟨w.heap.size, 0, none⟩ = some (.int .i64 f) := by go_simp
  have d1 : (w.alloc (.cells #[.int .i64 f, .int .i64 t] 39)).cell? ⟨w.heap.size, 1, none⟩ = some (.int .i64 t) := by go_simp
  have hx : Below w.heap.size w (w.alloc (.cells #[.int .i64 f, .int .i64 t] 39)) := (Below.refl _ w).alloc (Nat.le_refl _) _
  have HX := Lib.hid hx
  clear hx
  generalize w.alloc (.cells #[.int .i64 f, .int .i64 t] 39) = W0 at *
  generalize hgs : w.heap.size = gs at *
  refine wp_region_grow (Below W0.heap.size W0) (by kernel_rfl) (by kernel_rfl) (Below.refl _ _).drew ?_
  have hlt := World.block_lt_of_cell? W0 _ d0
  (refine textS_run ?_ ?_ (fun W hS => ?_) ?_; rotate_left; (focus go_simp); (focus (obtain ⟨hc, hf⟩ := bcell hS; go_simp; first | rfl | exact ⟨rfl, hS⟩ | exact hS)); (try go_simp))
  (refine textS_run ?_ ?_ (fun W hS => ?_) ?_; rotate_left; (focus go_simp); (focus (obtain ⟨hc, hf⟩ := bcell hS; go_simp; first | rfl | exact ⟨rfl, hS⟩ | exact hS)); (try go_simp))
  (refine textS_run ?_ ?_ (fun W hS => ?_) ?_; rotate_left; (focus go_simp); (focus (obtain ⟨hc, hf⟩ := bcell hS; go_simp; refine (hC _).mono ?_; rintro e w1 ⟨rfl, hb⟩; refine ⟨?_, hS.trans (hb.mono hS.size)⟩; rfl)); (try go_simp))
  (refine textS_run ?_ ?_ (fun W hS => ?_) ?_; rotate_left; (focus go_simp); (focus (obtain ⟨hc, hf⟩ := bcell hS; go_simp; first | rfl | exact ⟨rfl, hS⟩ | exact hS)); (try go_simp))
  (refine textS_run ?_ ?_ (fun W hS => ?_) ?_; rotate_left; (focus go_simp); (focus (obtain ⟨hc, hf⟩ := bcell hS; go_simp; first | rfl | exact ⟨rfl, hS⟩ | exact hS)); (try go_simp))
  (refine textS_skip ?_ ?_; (focus go_simp))
  (refine textS_skip ?_ ?_; (focus go_simp))
  (refine textS_skip ?_ ?_; (focus go_simp))
  (refine textS_skip ?_ ?_; (focus go_simp))
  (refine textS_skip ?_ ?_; (focus go_simp))
  (refine textS_run ?_ ?_ (fun W hS => ?_) ?_; rotate_left; (focus go_simp); (focus (obtain ⟨hc, hf⟩ := bcell hS; go_simp; first | rfl | exact ⟨rfl, hS⟩ | exact hS)); (try go_simp))
  (refine textS_run ?_ ?_ (fun W hS => ?_) ?_; rotate_left; (focus go_simp); (focus (obtain ⟨hc, hf⟩ := bcell hS; go_simp; first | rfl | exact ⟨rfl, hS⟩ | exact hS)); (try go_simp))
  refine textS_nil ?_
  intro W1 hS
  go_wp2_with fail
  go_ret
  exact ⟨rfl, HX.out.trans (hS.mono (by rw [← hgs]; exact HX.out.size))⟩
set_option maxRecDepth 100000 in
set_option maxHeartbeats 1000000 in
theorem right_to (f t F T : Int) (h1 : f = F) (h2 : ¬ t = T) (w : World) (hC : ∀ W : World, Calls Try.prog 151 #[.agg #[.int .i64 f, .int .i64 t]] W fun e w' => e = .returned (.agg #[.int .i64 F, .int .i64 T]) ∧ Below W.heap.size W w') :
    Calls Try.prog 119 #[.agg #[.int .i64 f, .int .i64 t]] w fun e w' => e = .returned (.bool false) ∧ Below w.heap.size w w' := by
  subst h1
  go_enter Try.func119, Try.ntmps119
  go_wp2_with fail
  have d0 : (w.alloc (.cells #[.int .i64 f, .int .i64 t] 39)).cell? ⟨w.heap.size, 0, none⟩ = some (.int .i64 f) := by go_simp
  have d1 : (w.alloc (.cells #[.int .i64 f, .int .i64 t] 39)).cell? ⟨w.heap.size, 1, none⟩ = some (.int .i64 t) := by go_simp
  have hx : Below w.heap.size w (w.alloc (.cells #[.int .i64 f, .int .i64 t] 39)) := (Below.refl _ w).alloc (Nat.le_refl _) _
  have HX := Lib.hid hx
  clear hx
  generalize w.alloc (.cells #[.int .i64 f, .int .i64 t] 39) = W0 at *
  generalize hgs : w.heap.size = gs at *
  refine wp_region_grow (Below W0.heap.size W0) (by kernel_rfl) (by kernel_rfl) (Below.refl _ _).drew ?_
  have hlt := World.block_lt_of_cell? W0 _ d0
  (refine textS_run ?_ ?_ (fun W hS => ?_) ?_; rotate_left; (focus go_simp); (focus (obtain ⟨hc, hf⟩ := bcell hS; go_simp; first | rfl | exact ⟨rfl, hS⟩ | exact hS)); (try go_simp))
  (refine textS_run ?_ ?_ (fun W hS => ?_) ?_; rotate_left; (focus go_simp); (focus (obtain ⟨hc, hf⟩ := bcell hS; go_simp; first | rfl | exact ⟨rfl, hS⟩ | exact hS)); (try go_simp))
  (refine textS_run ?_ ?_ (fun W hS => ?_) ?_; rotate_left; (focus go_simp); (focus (obtain ⟨hc, hf⟩ := bcell hS; go_simp; refine (hC _).mono ?_; rintro e w1 ⟨rfl, hb⟩; refine ⟨?_, hS.trans (hb.mono hS.size)⟩; rfl)); (try go_simp))
  (refine textS_run ?_ ?_ (fun W hS => ?_) ?_; rotate_left; (focus go_simp); (focus (obtain ⟨hc, hf⟩ := bcell hS; go_simp; first | rfl | exact ⟨rfl, hS⟩ | exact hS)); (try go_simp))
  (refine textS_run ?_ ?_ (fun W hS => ?_) ?_; rotate_left; (focus go_simp); (focus (obtain ⟨hc, hf⟩ := bcell hS; go_simp; first | rfl | exact ⟨rfl, hS⟩ | exact hS)); (try go_simp))
  (refine textS_skip ?_ ?_; (focus go_simp))
  (refine textS_skip ?_ ?_; (focus go_simp))
  (refine textS_skip ?_ ?_; (focus go_simp))
  (refine textS_skip ?_ ?_; (focus go_simp))
  (refine textS_skip ?_ ?_; (focus go_simp))
  (refine textS_run ?_ ?_ (fun W hS => ?_) ?_; rotate_left; (focus go_simp); (focus (obtain ⟨hc, hf⟩ := bcell hS; go_simp; first | rfl | exact ⟨rfl, hS⟩ | exact hS)); (try go_simp))
  (refine textS_run ?_ ?_ (fun W hS => ?_) ?_; rotate_left; (focus go_simp); (focus (obtain ⟨hc, hf⟩ := bcell hS; go_simp; first | rfl | exact ⟨rfl, hS⟩ | exact hS)); (try go_simp))
  refine textS_nil ?_
  intro W1 hS
  go_wp2_with fail
  go_ret
  exact ⟨rfl, HX.out.trans (hS.mono (by rw [← hgs]; exact HX.out.size))⟩
theorem right_any (f t : Int) (w : World) :
    Calls Try.prog 119 #[.agg #[.int .i64 f, .int .i64 t]] w fun e w' => e = .returned (.bool (rightI (f, t))) ∧ Below w.heap.size w w' := by
  have hC := fun W => clamped_any f t W
  have E : rightI (f, t) = (decide (f = clampI f ∧ t = clampI t) && decide (f ≤ t)) := rfl
  by_cases h1 : f = clampI f
  · by_cases h2 : t = clampI t
    · rw [E, show decide (f = clampI f ∧ t = clampI t) = true by simp [← h1, ← h2], Bool.true_and]
      exact right_same f t _ _ h1 h2 w hC
    · rw [E, show decide (f = clampI f ∧ t = clampI t) = false by simp [h2], Bool.false_and]
      exact right_to f t _ _ h1 h2 w hC
  · rw [E, show decide (f = clampI f ∧ t = clampI t) = false by simp [h1], Bool.false_and]
    exact right_from f t _ _ h1 w hC
end Go.Proofs.Ytbhnjmdlagjfbaa
namespace Go.Proofs.Ytbhnjmdlagjfbaa
set_option linter.unusedVariables false
open Go.ChangeShapes Go.WideShapes Go.ChangeAt Go.RowKit
theorem cleanI_bd (a : Int × Int) : (0 ≤ (cleanI a).1 ∧ (cleanI a).1 ≤ 1099511627776) ∧ 0 ≤ (cleanI a).2 ∧ (cleanI a).2 ≤ 1099511627776 := by
  have h1 := clampI_bd a.1; have h2 := clampI_bd a.2
  unfold cleanI
  split <;> simp <;> omega
theorem rlen_eq (f t : Int) : (if (cleanI (f, t)).2 = 1099511627776 then 1099511627776 else (cleanI (f, t)).2 - (cleanI (f, t)).1) = lenI (f, t) := by
  have h1 := clampI_bd f; have h2 := clampI_bd t
  have e2 : lenI (f, t) = if clampI t ≤ clampI f then 0 else subI t f := rfl
  by_cases hle : clampI t ≤ clampI f
  · have e : cleanI (f, t) = (0, 0) := by unfold cleanI; exact if_pos hle
    rw [e, e2, if_pos hle]; rfl
  · have e : cleanI (f, t) = (clampI f, clampI t) := by unfold cleanI; exact if_neg hle
    rw [e, e2, if_neg hle]
    unfold subI
    show (if clampI t = 1099511627776 then _ else clampI t - clampI f) = _
    by_cases h : clampI t = 1099511627776
    · rw [if_pos h]; repeat' split
      all_goals first | omega | rfl
    · rw [if_neg h, clampI_id (n := clampI t - clampI f) (by omega) (by omega)]; repeat' split
      all_goals omega
theorem rcut_eq (a b : Int × Int) : cleanI (max (cleanI a).1 (cleanI b).1, min (cleanI a).2 (cleanI b).2) = cutI a b := by
  have h1 := clampI_bd a.1; have h2 := clampI_bd a.2; have h3 := clampI_bd b.1; have h4 := clampI_bd b.2
  have ha := cleanI_bd a; have hb := cleanI_bd b
  have e : cleanI (max (cleanI a).1 (cleanI b).1, min (cleanI a).2 (cleanI b).2) = if min (cleanI a).2 (cleanI b).2 ≤ max (cleanI a).1 (cleanI b).1 then (0, 0) else (max (cleanI a).1 (cleanI b).1, min (cleanI a).2 (cleanI b).2) := by
    show (if clampI (min (cleanI a).2 (cleanI b).2) ≤ clampI (max (cleanI a).1 (cleanI b).1) then _ else (clampI _, clampI _)) = _
    rw [clampI_id (n := min (cleanI a).2 (cleanI b).2) (by omega) (by omega), clampI_id (n := max (cleanI a).1 (cleanI b).1) (by omega) (by omega)]
  rw [e]
  unfold cutI bothT bothF
  by_cases p : clampI a.2 ≤ clampI a.1
  · have ea : cleanI a = (0, 0) := by unfold cleanI; exact if_pos p
    rw [ea] at *
    rw [if_pos (by simp at *; omega), if_pos (by omega)]
  · have ea : cleanI a = (clampI a.1, clampI a.2) := by unfold cleanI; exact if_neg p
    by_cases q : clampI b.2 ≤ clampI b.1
    · have eb : cleanI b = (0, 0) := by unfold cleanI; exact if_pos q
      rw [eb] at *
      rw [if_pos (by simp at *; omega), if_pos (by omega)]
    · have eb : cleanI b = (clampI b.1, clampI b.2) := by unfold cleanI; exact if_neg q
      rw [ea, eb]
set_option maxRecDepth 100000 in
set_option maxHeartbeats 1000000 in
theorem rcut_any (f t g u : Int) (w : World) :
    Calls Try.prog 118 #[.agg #[.int .i64 f, .int .i64 t], .agg #[.int .i64 g, .int .i64 u]] w fun e w' => e = .returned (.agg #[.int .i64 (cutI (f, t) (g, u)).1, .int .i64 (cutI (f, t) (g, u)).2]) ∧ Below w.heap.size w w' := by
  have E := Lib.hid (rcut_eq (f, t) (g, u)).symm
  generalize cutI (f, t) (g, u) = C at *
  have hC := fun W => rclean_any f t W
  have hD := fun W => rclean_any g u W
  generalize (cleanI (f, t)).1 = F at *
  generalize (cleanI (f, t)).2 = T at *
  generalize (cleanI (g, u)).1 = G at *
  generalize (cleanI (g, u)).2 = U at *
  have hE := fun X Y W => rclean_any X Y W
  go_enter Try.func118, Try.ntmps118
  go_wp2_with fail
  refine (hC _).mono ?_
  rintro e w1 ⟨rfl, hb1⟩
  have hx : Below w.heap.size w w1 := by
    refine Below.trans ?_ (hb1.mono ?_)
    · exact (by repeat (first | exact Below.refl _ _ | assumption | refine below_drewN ?_ _ | refine Below.drew ?_ | refine below_alloc ?_ _ | refine Below.alloc ?_ (by first | omega | (simp; done) | (simp; omega)) _ | refine Below.setCell ?_ (Below.size (by assumption)) _ | refine Below.setCell ?_ (by first | omega | (simp; done) | (simp; omega)) _ | (refine Below.trans ?_ (Below.mono (by assumption) (by first | omega | (simp; done) | (simp; omega)))) | refine below_next ?_ (by assumption)))
    · simp; omega
  have q0 : w1.cell? ⟨w.heap.size, 0, none⟩ = some (.int .i64 f) := (hb1.cell (p := ⟨w.heap.size, 0, none⟩) (by simp; omega)).trans (by go_simp)
  have q1 : w1.cell? ⟨w.heap.size, 1, none⟩ = some (.int .i64 t) := (hb1.cell (p := ⟨w.heap.size, 1, none⟩) (by simp; omega)).trans (by go_simp)
  have q2 : w1.frozen? ⟨w.heap.size, 0, none⟩ = false := (hb1.frozen (p := ⟨w.heap.size, 0, none⟩) (by simp; omega)).trans (by go_simp)
  have q3 : w1.frozen? ⟨w.heap.size, 1, none⟩ = false := (hb1.frozen (p := ⟨w.heap.size, 1, none⟩) (by simp; omega)).trans (by go_simp)
  have s0 : w1.cell? ⟨w.heap.size + 1, 0, none⟩ = some (.int .i64 g) := (hb1.cell (p := ⟨w.heap.size + 1, 0, none⟩) (by simp)).trans (by go_simp)
  have s1 : w1.cell? ⟨w.heap.size + 1, 1, none⟩ = some (.int .i64 u) := (hb1.cell (p := ⟨w.heap.size + 1, 1, none⟩) (by simp)).trans (by go_simp)
  have s2 : w1.frozen? ⟨w.heap.size + 1, 0, none⟩ = false := (hb1.frozen (p := ⟨w.heap.size + 1, 0, none⟩) (by simp)).trans (by go_simp)
  have s3 : w1.frozen? ⟨w.heap.size + 1, 1, none⟩ = false := (hb1.frozen (p := ⟨w.heap.size + 1, 1, none⟩) (by simp)).trans (by go_simp)
  have p0 : w1.cell? ⟨w.heap.size + 1 + 1, 0, none⟩ = some (.int .i64 0) := (hb1.cell (p := ⟨w.heap.size + 1 + 1, 0, none⟩) (by simp)).trans (by go_simp)
  have p1 : w1.cell? ⟨w.heap.size + 1 + 1, 1, none⟩ = some (.int .i64 0) := (hb1.cell (p := ⟨w.heap.size + 1 + 1, 1, none⟩) (by simp)).trans (by go_simp)
  have p2 : w1.frozen? ⟨w.heap.size + 1 + 1, 0, none⟩ = false := (hb1.frozen (p := ⟨w.heap.size + 1 + 1, 0, none⟩) (by simp)).trans (by go_simp)
  have p3 : w1.frozen? ⟨w.heap.size + 1 + 1, 1, none⟩ = false := (hb1.frozen (p := ⟨w.heap.size + 1 + 1, 1, none⟩) (by simp)).trans (by go_simp)
  have hz1 : w.heap.size + 1 + 1 < w1.heap.size := by have := hb1.size; simp at this; omega
  clear hb1
  go_wp2_with fail
  refine (hD _).mono ?_
  rintro e w2 ⟨rfl, hb2⟩
  have hX : Below w.heap.size w ((w1.setCell ⟨w.heap.size, 0, none⟩ (.int .i64 F)).setCell ⟨w.heap.size, 1, none⟩ (.int .i64 T)) := (hx.setCell (Nat.le_refl _) _).setCell (Nat.le_refl _) _
  have c0 : ((w1.setCell ⟨w.heap.size, 0, none⟩ (.int .i64 F)).setCell ⟨w.heap.size, 1, none⟩ (.int .i64 T)).cell? ⟨w.heap.size, 0, none⟩ = some (.int .i64 F) := by go_simp
  have c1 : ((w1.setCell ⟨w.heap.size, 0, none⟩ (.int .i64 F)).setCell ⟨w.heap.size, 1, none⟩ (.int .i64 T)).cell? ⟨w.heap.size, 1, none⟩ = some (.int .i64 T) := by go_simp
  have c2 : ((w1.setCell ⟨w.heap.size, 0, none⟩ (.int .i64 F)).setCell ⟨w.heap.size, 1, none⟩ (.int .i64 T)).cell? ⟨w.heap.size + 1, 0, none⟩ = some (.int .i64 g) := by go_simp
  have c3 : ((w1.setCell ⟨w.heap.size, 0, none⟩ (.int .i64 F)).setCell ⟨w.heap.size, 1, none⟩ (.int .i64 T)).cell? ⟨w.heap.size + 1, 1, none⟩ = some (.int .i64 u) := by go_simp
  have c4 : ((w1.setCell ⟨w.heap.size, 0, none⟩ (.int .i64 F)).setCell ⟨w.heap.size, 1, none⟩ (.int .i64 T)).frozen? ⟨w.heap.size + 1, 0, none⟩ = false := by go_simp
  have c5 : ((w1.setCell ⟨w.heap.size, 0, none⟩ (.int .i64 F)).setCell ⟨w.heap.size, 1, none⟩ (.int .i64 T)).frozen? ⟨w.heap.size + 1, 1, none⟩ = false := by go_simp
  have c6 : ((w1.setCell ⟨w.heap.size, 0, none⟩ (.int .i64 F)).setCell ⟨w.heap.size, 1, none⟩ (.int .i64 T)).cell? ⟨w.heap.size + 1 + 1, 0, none⟩ = some (.int .i64 0) := by go_simp
  have c7 : ((w1.setCell ⟨w.heap.size, 0, none⟩ (.int .i64 F)).setCell ⟨w.heap.size, 1, none⟩ (.int .i64 T)).cell? ⟨w.heap.size + 1 + 1, 1, none⟩ = some (.int .i64 0) := by go_simp
  have c8 : ((w1.setCell ⟨w.heap.size, 0, none⟩ (.int .i64 F)).setCell ⟨w.heap.size, 1, none⟩ (.int .i64 T)).frozen? ⟨w.heap.size + 1 + 1, 0, none⟩ = false := by go_simp
  have c9 : ((w1.setCell ⟨w.heap.size, 0, none⟩ (.int .i64 F)).setCell ⟨w.heap.size, 1, none⟩ (.int .i64 T)).frozen? ⟨w.heap.size + 1 + 1, 1, none⟩ = false := by go_simp
  have hz2 : w.heap.size + 1 + 1 < ((w1.setCell ⟨w.heap.size, 0, none⟩ (.int .i64 F)).setCell ⟨w.heap.size, 1, none⟩ (.int .i64 T)).heap.size := by simp; omega
  clear q0 q1 q2 q3 s0 s1 s2 s3 p0 p1 p2 p3
  generalize (w1.setCell ⟨w.heap.size, 0, none⟩ (.int .i64 F)).setCell ⟨w.heap.size, 1, none⟩ (.int .i64 T) = W1 at *
  have k0 := (hb2.cell (p := ⟨w.heap.size, 0, none⟩) (Nat.lt_of_succ_lt (Nat.lt_of_succ_lt hz2))).trans c0
  have k1 := (hb2.cell (p := ⟨w.heap.size, 1, none⟩) (Nat.lt_of_succ_lt (Nat.lt_of_succ_lt hz2))).trans c1
  have k2 := (hb2.cell (p := ⟨w.heap.size + 1, 0, none⟩) (Nat.lt_of_succ_lt hz2)).trans c2
  have k3 := (hb2.cell (p := ⟨w.heap.size + 1, 1, none⟩) (Nat.lt_of_succ_lt hz2)).trans c3
  have k4 := (hb2.frozen (p := ⟨w.heap.size + 1, 0, none⟩) (Nat.lt_of_succ_lt hz2)).trans c4
  have k5 := (hb2.frozen (p := ⟨w.heap.size + 1, 1, none⟩) (Nat.lt_of_succ_lt hz2)).trans c5
  have k6 := (hb2.cell (p := ⟨w.heap.size + 1 + 1, 0, none⟩) hz2).trans c6
  have k7 := (hb2.cell (p := ⟨w.heap.size + 1 + 1, 1, none⟩) hz2).trans c7
  have k8 := (hb2.frozen (p := ⟨w.heap.size + 1 + 1, 0, none⟩) hz2).trans c8
  have k9 := (hb2.frozen (p := ⟨w.heap.size + 1 + 1, 1, none⟩) hz2).trans c9
  have hz4 : w.heap.size + 1 + 1 < w2.heap.size := Nat.lt_of_lt_of_le hz2 hb2.size
  have hy : Below w.heap.size w w2 := hX.trans (hb2.mono hX.size)
  have hz3 : w.heap.size ≤ w2.heap.size := hy.size
  clear hb2 hX c0 c1 c2 c3 c4 c5 c6 c7 c8 c9 hz2 hx
  go_wp2_with fail
  · have e : C = cleanI (G, U) := by rw [E.out, show max F G = G by omega, show min T U = U by omega]
    refine (hE G U _).mono ?_
    rw [← e]
    rintro e w3 ⟨rfl, hb3⟩
    have hz : Below w.heap.size w w3 := ((hy.setCell (Nat.le_succ _) _).setCell (Nat.le_succ _) _).trans (hb3.mono (by simp; omega))
    have m0 : w3.cell? ⟨w.heap.size + 1 + 1, 0, none⟩ = some (.int .i64 0) := (hb3.cell (p := ⟨w.heap.size + 1 + 1, 0, none⟩) (by simp; omega)).trans (by go_simp)
    have m1 : w3.cell? ⟨w.heap.size + 1 + 1, 1, none⟩ = some (.int .i64 0) := (hb3.cell (p := ⟨w.heap.size + 1 + 1, 1, none⟩) (by simp; omega)).trans (by go_simp)
    have m2 : w3.frozen? ⟨w.heap.size + 1 + 1, 0, none⟩ = false := (hb3.frozen (p := ⟨w.heap.size + 1 + 1, 0, none⟩) (by simp; omega)).trans (by go_simp)
    have m3 : w3.frozen? ⟨w.heap.size + 1 + 1, 1, none⟩ = false := (hb3.frozen (p := ⟨w.heap.size + 1 + 1, 1, none⟩) (by simp; omega)).trans (by go_simp)
    clear hb3
    go_wp2_with fail
    exact bodyPost_ret (v := .agg #[.int .i64 C.1, .int .i64 C.2]) (by simp only [results, Try.results118]; go_simp) rfl ⟨rfl, (hz.setCell (by simp; omega) _).setCell (by simp; omega) _⟩
  · have e : C = cleanI (G, T) := by rw [E.out, show max F G = G by omega, show min T U = T by omega]
    refine (hE G T _).mono ?_
    rw [← e]
    rintro e w3 ⟨rfl, hb3⟩
    have hz : Below w.heap.size w w3 := ((hy.setCell (Nat.le_succ _) _).setCell (Nat.le_succ _) _).trans (hb3.mono (by simp; omega))
    have m0 : w3.cell? ⟨w.heap.size + 1 + 1, 0, none⟩ = some (.int .i64 0) := (hb3.cell (p := ⟨w.heap.size + 1 + 1, 0, none⟩) (by simp; omega)).trans (by go_simp)
    have m1 : w3.cell? ⟨w.heap.size + 1 + 1, 1, none⟩ = some (.int .i64 0) := (hb3.cell (p := ⟨w.heap.size + 1 + 1, 1, none⟩) (by simp; omega)).trans (by go_simp)
    have m2 : w3.frozen? ⟨w.heap.size + 1 + 1, 0, none⟩ = false := (hb3.frozen (p := ⟨w.heap.size + 1 + 1, 0, none⟩) (by simp; omega)).trans (by go_simp)
    have m3 : w3.frozen? ⟨w.heap.size + 1 + 1, 1, none⟩ = false := (hb3.frozen (p := ⟨w.heap.size + 1 + 1, 1, none⟩) (by simp; omega)).trans (by go_simp)
    clear hb3
    go_wp2_with fail
    exact bodyPost_ret (v := .agg #[.int .i64 C.1, .int .i64 C.2]) (by simp only [results, Try.results118]; go_simp) rfl ⟨rfl, (hz.setCell (by simp; omega) _).setCell (by simp; omega) _⟩
  · have e : C = cleanI (F, U) := by rw [E.out, show max F G = F by omega, show min T U = U by omega]
    refine (hE F U _).mono ?_
    rw [← e]
    rintro e w3 ⟨rfl, hb3⟩
    have hz : Below w.heap.size w w3 := ((hy.setCell (Nat.le_succ _) _).setCell (Nat.le_succ _) _).trans (hb3.mono (by simp; omega))
    have m0 : w3.cell? ⟨w.heap.size + 1 + 1, 0, none⟩ = some (.int .i64 0) := (hb3.cell (p := ⟨w.heap.size + 1 + 1, 0, none⟩) (by simp; omega)).trans (by go_simp)
    have m1 : w3.cell? ⟨w.heap.size + 1 + 1, 1, none⟩ = some (.int .i64 0) := (hb3.cell (p := ⟨w.heap.size + 1 + 1, 1, none⟩) (by simp; omega)).trans (by go_simp)
    have m2 : w3.frozen? ⟨w.heap.size + 1 + 1, 0, none⟩ = false := (hb3.frozen (p := ⟨w.heap.size + 1 + 1, 0, none⟩) (by simp; omega)).trans (by go_simp)
    have m3 : w3.frozen? ⟨w.heap.size + 1 + 1, 1, none⟩ = false := (hb3.frozen (p := ⟨w.heap.size + 1 + 1, 1, none⟩) (by simp; omega)).trans (by go_simp)
    clear hb3
    go_wp2_with fail
    exact bodyPost_ret (v := .agg #[.int .i64 C.1, .int .i64 C.2]) (by simp only [results, Try.results118]; go_simp) rfl ⟨rfl, (hz.setCell (by simp; omega) _).setCell (by simp; omega) _⟩
  · have e : C = cleanI (F, T) := by rw [E.out, show max F G = F by omega, show min T U = T by omega]
    refine (hE F T _).mono ?_
    rw [← e]
    rintro e w3 ⟨rfl, hb3⟩
    have hz : Below w.heap.size w w3 := ((hy.setCell (Nat.le_succ _) _).setCell (Nat.le_succ _) _).trans (hb3.mono (by simp; omega))
    have m0 : w3.cell? ⟨w.heap.size + 1 + 1, 0, none⟩ = some (.int .i64 0) := (hb3.cell (p := ⟨w.heap.size + 1 + 1, 0, none⟩) (by simp; omega)).trans (by go_simp)
    have m1 : w3.cell? ⟨w.heap.size + 1 + 1, 1, none⟩ = some (.int .i64 0) := (hb3.cell (p := ⟨w.heap.size + 1 + 1, 1, none⟩) (by simp; omega)).trans (by go_simp)
    have m2 : w3.frozen? ⟨w.heap.size + 1 + 1, 0, none⟩ = false := (hb3.frozen (p := ⟨w.heap.size + 1 + 1, 0, none⟩) (by simp; omega)).trans (by go_simp)
    have m3 : w3.frozen? ⟨w.heap.size + 1 + 1, 1, none⟩ = false := (hb3.frozen (p := ⟨w.heap.size + 1 + 1, 1, none⟩) (by simp; omega)).trans (by go_simp)
    clear hb3
    go_wp2_with fail
    exact bodyPost_ret (v := .agg #[.int .i64 C.1, .int .i64 C.2]) (by simp only [results, Try.results118]; go_simp) rfl ⟨rfl, (hz.setCell (by simp; omega) _).setCell (by simp; omega) _⟩
end Go.Proofs.Ytbhnjmdlagjfbaa
