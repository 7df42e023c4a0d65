/- Laws that belong together: Contracts of Own, clamped and Empty of layer 1 (tick). No condition.; Contracts of the other functions of layer 1 (tick) on spans, and of the reference's. No condition.; Contracts of Holds and Right of layer 1 on spans, and of the reference's Holds. No condition.; Right of layer 1 on spans that are not in bounds ; and whatever they are. No condition but what is said.; The contract of the reference's Cut of layer 1 (out of tick's texts, for seats without its Len). No condition.; Spans in rows, plainly and in memory: parts of layer 1's texts that need no sort. Condition: at most 2^40. -/
import Derived.Test.YthdljigcfhjikaaMaa
import Derived.Test.YthdljigcfhjikaaTxt
import Derived.Deep.RegionHeld3
import Derived.Deep.QuietTactic
import Derived.BigQuiet
import Derived.Deep.DrawnRows
import Derived.StillTailTactics
import Derived.Lib.Hide
import Derived.Test.YthdljigcfhjikaaMac
import Derived.Laws.OwnMore
import Derived.OwnWalk
namespace Go.Proofs.Ythdljigcfhjikaa
set_option linter.unusedVariables false
open Go.ChangeShapes Go.WideShapes Go.ChangeAt Go.RowKit
attribute [local go_sem ↓] Go.wp_at_zero Go.wp_at_succ

theorem bsize {W w1 : World} (hb : Below W.heap.size W w1) : W.heap.size ≤ w1.heap.size := hb.size

/-- the times of both -/
def bothF (a b : Int × Int) : Int := max (clampI a.1) (clampI b.1)
def bothT (a b : Int × Int) : Int := min (clampI a.2) (clampI b.2)
def cutI (a b : Int × Int) : Int × Int := if bothT a b ≤ bothF a b then (0, 0) else (bothF a b, bothT a b)
def cleanI (a : Int × Int) : Int × Int := if clampI a.2 ≤ clampI a.1 then (0, 0) else (clampI a.1, clampI a.2)

theorem own_any (f t : Int) (w : World) :
    Calls Try.prog 15 #[.agg #[.int .i64 f, .int .i64 t]] w fun e w' => e = .returned (.agg #[.int .i64 f, .int .i64 t]) ∧ Below w.heap.size w w' := by
  go_enter Try.func15, Try.ntmps15
  go_wp2
  exact bodyPost_ret (v := .agg #[.int .i64 f, .int .i64 t]) (by simp [results, Try.results15, go_sem]) rfl ⟨rfl, (by repeat (first | exact Below.refl _ _ | assumption | refine below_drewN ?_ _ | refine Below.drew ?_ | refine below_alloc ?_ _ | refine Below.alloc ?_ (by first | omega | (simp; done) | (simp; omega)) _ | refine Below.setCell ?_ (Below.size (by assumption)) _ | refine Below.setCell ?_ (by first | omega | (simp; done) | (simp; omega)) _ | (refine Below.trans ?_ (Below.mono (by assumption) (by first | omega | (simp; done) | (simp; omega)))) | refine below_next ?_ (by assumption)))⟩

set_option maxHeartbeats 1000000 in
theorem clamped_any (f t : Int) (w : World) :
    Calls Try.prog 79 #[.agg #[.int .i64 f, .int .i64 t]] w fun e w' => e = .returned (.agg #[.int .i64 (clampI f), .int .i64 (clampI t)]) ∧ Below w.heap.size w w' := by
  go_enter Try.func79, Try.ntmps79
  go_wp2
  go_region_held3 (fun w' => w'.cell? ⟨w.heap.size, 0, none⟩ = some (.int .i64 f) ∧ w'.cell? ⟨w.heap.size, 1, none⟩ = some (.int .i64 t)) (go_keep)
    (first | (go_at_call 25; refine (clamp_any _ _).mono ?_; rintro e w' ⟨rfl, rfl⟩))
  go_wp2
  exact bodyPost_ret (v := .agg #[.int .i64 (clampI f), .int .i64 (clampI t)]) (by simp [results, Try.results79, go_sem]) rfl ⟨rfl, (by repeat (first | exact Below.refl _ _ | assumption | refine below_drewN ?_ _ | refine Below.drew ?_ | refine below_alloc ?_ _ | refine Below.alloc ?_ (by first | omega | (simp; done) | (simp; omega)) _ | refine Below.setCell ?_ (Below.size (by assumption)) _ | refine Below.setCell ?_ (by first | omega | (simp; done) | (simp; omega)) _ | (refine Below.trans ?_ (Below.mono (by assumption) (by first | omega | (simp; done) | (simp; omega)))) | refine below_next ?_ (by assumption)))⟩
set_option maxHeartbeats 1000000 in
theorem empty_any (f t : Int) (w : World) :
    Calls Try.prog 26 #[.agg #[.int .i64 f, .int .i64 t]] w fun e w' => e = .returned (.bool (decide (clampI t ≤ clampI f))) ∧ Below w.heap.size w w' := by
  go_enter Try.func26, Try.ntmps26
  go_wp2
  go_quiet ((go_at_call 25; exact Calls.quiet_of_same ((clamp_any _ _).mono fun _ _ h => ⟨h.1, h.2.symm⟩)))
  go_wp2
  go_ret
  exact ⟨rfl, (by repeat (first | exact Below.refl _ _ | assumption | refine below_drewN ?_ _ | refine Below.drew ?_ | refine below_alloc ?_ _ | refine Below.alloc ?_ (by first | omega | (simp; done) | (simp; omega)) _ | refine Below.setCell ?_ (Below.size (by assumption)) _ | refine Below.setCell ?_ (by first | omega | (simp; done) | (simp; omega)) _ | (refine Below.trans ?_ (Below.mono (by assumption) (by first | omega | (simp; done) | (simp; omega)))) | refine below_next ?_ (by assumption)))⟩
end Go.Proofs.Ythdljigcfhjikaa
namespace Go.Proofs.Ythdljigcfhjikaa
set_option linter.unusedVariables false
open Go.ChangeShapes Go.WideShapes Go.ChangeAt Go.RowKit
set_option maxRecDepth 100000
attribute [local go_sem ↓] Go.wp_at_zero Go.wp_at_succ

theorem both_clamp (a b : Int × Int) : clampI (bothF a b) = bothF a b ∧ clampI (bothT a b) = bothT a b := by
  have h1 := clampI_bd a.1; have h2 := clampI_bd a.2; have h3 := clampI_bd b.1; have h4 := clampI_bd b.2
  unfold bothF bothT
  exact ⟨clampI_id (by omega) (by omega), clampI_id (by omega) (by omega)⟩
attribute [local go_sem ↓] comesTo_value_eq comesTo_skip_eq comesTo_enter_eq
set_option maxHeartbeats 1000000 in
theorem both_any (f t g u : Int) (w : World) :
    Calls Try.prog 82 #[.agg #[.int .i64 f, .int .i64 t], .agg #[.int .i64 g, .int .i64 u]] w fun e w' => e = .returned (.agg #[.int .i64 (bothF (f, t) (g, u)), .int .i64 (bothT (f, t) (g, u))]) ∧ Below w.heap.size w w' := by
  go_enter Try.func82, Try.ntmps82
  go_wp2
  generalize hW : ((w.alloc (.cells #[.int .i64 f, .int .i64 t] 25)).alloc (.cells #[.int .i64 g, .int .i64 u] 25)).alloc (.cells #[.int .i64 0, .int .i64 0] 25) = W0
  have l0 : w.heap.size < W0.heap.size := by rw [← hW]; simp; omega
  have l1 : w.heap.size + 1 < W0.heap.size := by rw [← hW]; simp
  have l2 : w.heap.size + 1 + 1 < W0.heap.size := by rw [← hW]; simp
  have c0 : W0.cell? ⟨w.heap.size, 0, none⟩ = some (.int .i64 f) := by subst hW; go_simp
  have c1 : W0.cell? ⟨w.heap.size, 1, none⟩ = some (.int .i64 t) := by subst hW; go_simp
  have c2 : W0.cell? ⟨w.heap.size + 1, 0, none⟩ = some (.int .i64 g) := by subst hW; go_simp
  have c3 : W0.cell? ⟨w.heap.size + 1, 1, none⟩ = some (.int .i64 u) := by subst hW; go_simp
  have f0 : ∀ o, W0.frozen? ⟨w.heap.size, o, none⟩ = false := by subst hW; intro o; go_simp
  have f1 : ∀ o, W0.frozen? ⟨w.heap.size + 1, o, none⟩ = false := by subst hW; intro o; go_simp
  have f2 : ∀ o, W0.frozen? ⟨w.heap.size + 1 + 1, o, none⟩ = false := by subst hW; intro o; go_simp
  have c4 : W0.cell? ⟨w.heap.size + 1 + 1, 0, none⟩ = some (.int .i64 0) := by subst hW; go_simp
  have c5 : W0.cell? ⟨w.heap.size + 1 + 1, 1, none⟩ = some (.int .i64 0) := by subst hW; go_simp
  have hbel : Below w.heap.size w W0 := by rw [← hW]; exact (by repeat (first | exact Below.refl _ _ | assumption | refine below_drewN ?_ _ | refine Below.drew ?_ | refine below_alloc ?_ _ | refine Below.alloc ?_ (by first | omega | (simp; done) | (simp; omega)) _ | refine Below.setCell ?_ (Below.size (by assumption)) _ | refine Below.setCell ?_ (by first | omega | (simp; done) | (simp; omega)) _ | (refine Below.trans ?_ (Below.mono (by assumption) (by first | omega | (simp; done) | (simp; omega)))) | refine below_next ?_ (by assumption)))
  clear hW
  refine wp_region_grow_tail 4 (Below W0.heap.size W0) (by kernel_rfl) (by kernel_rfl) (Below.refl _ _).drew ?_
  simp only [List.take_succ_cons, List.take_zero, List.drop_succ_cons, List.drop_zero]
  (refine textS_run ?_ ?_ (fun W hS => ?_) ?_; rotate_left; (focus go_simp); (focus (obtain ⟨hc, hf⟩ := bcell hS; go_simp; first | rfl | exact ⟨rfl, hS⟩ | exact hS)); (try go_simp))
  (refine textS_run ?_ ?_ (fun W hS => ?_) ?_; rotate_left; (focus go_simp); (focus (obtain ⟨hc, hf⟩ := bcell hS; go_simp; refine (clamped_any _ _ _).mono ?_; rintro e w1 ⟨rfl, hb⟩; refine ⟨?_, hS.trans (hb.mono hS.size)⟩; rfl)); (try go_simp))
  (refine textS_run ?_ ?_ (fun W hS => ?_) ?_; rotate_left; (focus go_simp); (focus (obtain ⟨hc, hf⟩ := bcell hS; go_simp; first | rfl | exact ⟨rfl, hS⟩ | exact hS)); (try go_simp))
  (refine textS_run ?_ ?_ (fun W hS => ?_) ?_; rotate_left; (focus go_simp); (focus (obtain ⟨hc, hf⟩ := bcell hS; go_simp; refine (clamped_any _ _ _).mono ?_; rintro e w1 ⟨rfl, hb⟩; refine ⟨?_, hS.trans (hb.mono hS.size)⟩; rfl)); (try go_simp))
  refine textS_nil ?_
  intro W1 hS
  obtain ⟨hc, hf⟩ := bcell hS
  have d0 := (hc _ 0 l0).trans c0
  have d1 := (hc _ 1 l0).trans c1
  have d2 := (hc _ 0 l1).trans c2
  have d3 := (hc _ 1 l1).trans c3
  have d4 := (hc _ 0 l2).trans c4
  have d5 := (hc _ 1 l2).trans c5
  have e0 := (hf _ 0 l0).trans (f0 0)
  have e1 := (hf _ 1 l0).trans (f0 1)
  have e2 := (hf _ 0 l1).trans (f1 0)
  have e3 := (hf _ 1 l1).trans (f1 1)
  have e4 := (hf _ 0 l2).trans (f2 0)
  have e5 := (hf _ 1 l2).trans (f2 1)
  have hb1 := hbel.trans (hS.mono hbel.size)
  clear hc hf c0 c1 c2 c3 c4 c5 f0 f1 f2 l0 l1 l2 hbel hS
  clear W0
  go_wp2
  · refine bodyPost_ret (v := .agg #[.int .i64 (clampI g), .int .i64 (clampI u)]) (by simp only [results, Try.results82]; go_simp) rfl ⟨?_, ?_⟩
    · rw [show bothF (f, t) (g, u) = clampI g by show max (clampI f) (clampI g) = _; omega, show bothT (f, t) (g, u) = clampI u by show min (clampI t) (clampI u) = _; omega]
    · repeat (refine Below.setCell ?_ (by first | exact Nat.le_refl _ | exact Nat.le_succ _ | exact Nat.le_add_right _ 2) _)
      first | exact hb1 | exact hb1.drew
  · refine bodyPost_ret (v := .agg #[.int .i64 (clampI g), .int .i64 (clampI t)]) (by simp only [results, Try.results82]; go_simp) rfl ⟨?_, ?_⟩
    · rw [show bothF (f, t) (g, u) = clampI g by show max (clampI f) (clampI g) = _; omega, show bothT (f, t) (g, u) = clampI t by show min (clampI t) (clampI u) = _; omega]
    · repeat (refine Below.setCell ?_ (by first | exact Nat.le_refl _ | exact Nat.le_succ _ | exact Nat.le_add_right _ 2) _)
      first | exact hb1 | exact hb1.drew
  · refine bodyPost_ret (v := .agg #[.int .i64 (clampI f), .int .i64 (clampI u)]) (by simp only [results, Try.results82]; go_simp) rfl ⟨?_, ?_⟩
    · rw [show bothF (f, t) (g, u) = clampI f by show max (clampI f) (clampI g) = _; omega, show bothT (f, t) (g, u) = clampI u by show min (clampI t) (clampI u) = _; omega]
    · repeat (refine Below.setCell ?_ (by first | exact Nat.le_refl _ | exact Nat.le_succ _ | exact Nat.le_add_right _ 2) _)
      first | exact hb1 | exact hb1.drew
  · refine bodyPost_ret (v := .agg #[.int .i64 (clampI f), .int .i64 (clampI t)]) (by simp only [results, Try.results82]; go_simp) rfl ⟨?_, ?_⟩
    · rw [show bothF (f, t) (g, u) = clampI f by show max (clampI f) (clampI g) = _; omega, show bothT (f, t) (g, u) = clampI t by show min (clampI t) (clampI u) = _; omega]
    · repeat (refine Below.setCell ?_ (by first | exact Nat.le_refl _ | exact Nat.le_succ _ | exact Nat.le_add_right _ 2) _)
      first | exact hb1 | exact hb1.drew

set_option maxHeartbeats 1000000 in
theorem rclean_any (f t : Int) (w : World) :
    Calls Try.prog 52 #[.agg #[.int .i64 f, .int .i64 t]] w fun e w' => e = .returned (.agg #[.int .i64 (cleanI (f, t)).1, .int .i64 (cleanI (f, t)).2]) ∧ Below w.heap.size w w' := by
  by_cases h : clampI t ≤ clampI f
  · have e : cleanI (f, t) = (0, 0) := by unfold cleanI; rw [if_pos h]
    have E := Lib.hid e; clear e
    go_enter Try.func52, Try.ntmps52
    go_wp2
    go_region_with (go_at_call 42; refine (rclamp_any _ _).mono ?_; rintro e w' ⟨rfl, rfl⟩)
    all_goals go_wp2
    all_goals exact bodyPost_ret (v := .agg #[.int .i64 0, .int .i64 0]) (by simp [results, Try.results52, go_sem]) rfl ⟨by rw [E.out], (by repeat (first | exact Below.refl _ _ | assumption | refine below_drewN ?_ _ | refine Below.drew ?_ | refine below_alloc ?_ _ | refine Below.alloc ?_ (by first | omega | (simp; done) | (simp; omega)) _ | refine Below.setCell ?_ (Below.size (by assumption)) _ | refine Below.setCell ?_ (by first | omega | (simp; done) | (simp; omega)) _ | (refine Below.trans ?_ (Below.mono (by assumption) (by first | omega | (simp; done) | (simp; omega)))) | refine below_next ?_ (by assumption)))⟩
  · have e : cleanI (f, t) = (clampI f, clampI t) := by unfold cleanI; rw [if_neg h]
    have E := Lib.hid e; clear e
    go_enter Try.func52, Try.ntmps52
    go_wp2
    go_region_with (go_at_call 42; refine (rclamp_any _ _).mono ?_; rintro e w' ⟨rfl, rfl⟩)
    all_goals go_wp2
    all_goals exact bodyPost_ret (v := .agg #[.int .i64 (clampI f), .int .i64 (clampI t)]) (by simp [results, Try.results52, go_sem]) rfl ⟨by rw [E.out], (by repeat (first | exact Below.refl _ _ | assumption | refine below_drewN ?_ _ | refine Below.drew ?_ | refine below_alloc ?_ _ | refine Below.alloc ?_ (by first | omega | (simp; done) | (simp; omega)) _ | refine Below.setCell ?_ (Below.size (by assumption)) _ | refine Below.setCell ?_ (by first | omega | (simp; done) | (simp; omega)) _ | (refine Below.trans ?_ (Below.mono (by assumption) (by first | omega | (simp; done) | (simp; omega)))) | refine below_next ?_ (by assumption)))⟩

theorem meets_any (f t g u : Int) (w : World) :
    Calls Try.prog 81 #[.agg #[.int .i64 f, .int .i64 t], .agg #[.int .i64 g, .int .i64 u]] w fun e w' => e = .returned (.bool (!decide (bothT (f, t) (g, u) ≤ bothF (f, t) (g, u)))) ∧ Below w.heap.size w w' := by
  have hcl : ∀ a b : Int × Int, clampI (bothF a b) = bothF a b ∧ clampI (bothT a b) = bothT a b := both_clamp
  go_enter Try.func81, Try.ntmps81
  go_wp2_with fail
  refine (both_any f t g u _).mono ?_
  rintro e w1 ⟨rfl, hb1⟩
  have he := fun W => empty_any (bothF (f, t) (g, u)) (bothT (f, t) (g, u)) W
  rw [(hcl (f, t) (g, u)).1, (hcl (f, t) (g, u)).2] at he
  go_wp2_with fail
  refine (he _).mono ?_
  rintro e w2 ⟨rfl, hb2⟩
  go_wp2_with fail
  go_ret
  have hz : w.heap.size ≤ w1.heap.size := by have := hb1.size; simp at this; omega
  exact ⟨rfl, (((Below.refl _ w).alloc (Nat.le_refl _) _).alloc (by simp) _ |>.trans (hb1.mono (by simp; omega))).trans (hb2.mono hz)⟩
set_option maxHeartbeats 1000000 in
theorem cut_any (f t g u : Int) (w : World) :
    Calls Try.prog 64 #[.agg #[.int .i64 f, .int .i64 t], .agg #[.int .i64 g, .int .i64 u]] w fun e w' => e = .returned (.agg #[.int .i64 (cutI (f, t) (g, u)).1, .int .i64 (cutI (f, t) (g, u)).2]) ∧ Below w.heap.size w w' := by
  have hC := both_clamp (f, t) (g, u)
  have hB := fun W => both_any f t g u W
  have he := fun W => empty_any (bothF (f, t) (g, u)) (bothT (f, t) (g, u)) W
  rw [hC.1, hC.2] at he
  have E := Lib.hid (show cutI (f, t) (g, u) = if bothT (f, t) (g, u) ≤ bothF (f, t) (g, u) then (0, 0) else (bothF (f, t) (g, u), bothT (f, t) (g, u)) from rfl)
  clear hC
  generalize cutI (f, t) (g, u) = C at *
  generalize bothF (f, t) (g, u) = F at *
  generalize bothT (f, t) (g, u) = T at *
  by_cases hle : T ≤ F
  · have hd : decide (T ≤ F) = true := by simp [hle]
    have hC : C = (0, 0) := by rw [E.out, if_pos hle]
    rw [hd] at he
    clear E hle
    subst hC
    go_enter Try.func64, Try.ntmps64
    go_wp2_with fail
    refine (hB _).mono ?_
    rintro e w1 ⟨rfl, hb1⟩
    have hx : Below w.heap.size w w1 := by
      refine Below.trans ?_ (hb1.mono ?_)
      · exact (by repeat (first | exact Below.refl _ _ | assumption | refine below_drewN ?_ _ | refine Below.drew ?_ | refine below_alloc ?_ _ | refine Below.alloc ?_ (by first | omega | (simp; done) | (simp; omega)) _ | refine Below.setCell ?_ (Below.size (by assumption)) _ | refine Below.setCell ?_ (by first | omega | (simp; done) | (simp; omega)) _ | (refine Below.trans ?_ (Below.mono (by assumption) (by first | omega | (simp; done) | (simp; omega)))) | refine below_next ?_ (by assumption)))
      · simp; omega
    have q0 : w1.cell? ⟨w.heap.size + 1 + 1, 0, none⟩ = some (.int .i64 0) := (hb1.cell (p := ⟨w.heap.size + 1 + 1, 0, none⟩) (by simp)).trans (by go_simp)
    have q1 : w1.cell? ⟨w.heap.size + 1 + 1, 1, none⟩ = some (.int .i64 0) := (hb1.cell (p := ⟨w.heap.size + 1 + 1, 1, none⟩) (by simp)).trans (by go_simp)
    have q2 : w1.frozen? ⟨w.heap.size + 1 + 1, 0, none⟩ = false := (hb1.frozen (p := ⟨w.heap.size + 1 + 1, 0, none⟩) (by simp)).trans (by go_simp)
    have q3 : w1.frozen? ⟨w.heap.size + 1 + 1, 1, none⟩ = false := (hb1.frozen (p := ⟨w.heap.size + 1 + 1, 1, none⟩) (by simp)).trans (by go_simp)
    have hz1 : w.heap.size + 1 + 1 < w1.heap.size := by have := hb1.size; simp at this; omega
    have HX := Lib.hid hx
    clear hb1 hx
    go_wp2_with fail
    refine (he _).mono ?_
    rintro e w2 ⟨rfl, hb2⟩
    have hy : Below w1.heap.size w1 w2 := ((Below.refl _ w1).alloc (Nat.le_refl _) _).trans (hb2.mono (by simp))
    have r0 := (hy.cell (p := ⟨w.heap.size + 1 + 1, 0, none⟩) hz1).trans q0
    have r1 := (hy.cell (p := ⟨w.heap.size + 1 + 1, 1, none⟩) hz1).trans q1
    have r2 := (hy.frozen (p := ⟨w.heap.size + 1 + 1, 0, none⟩) hz1).trans q2
    have r3 := (hy.frozen (p := ⟨w.heap.size + 1 + 1, 1, none⟩) hz1).trans q3
    clear hy q0 q1 q2 q3
    have hx : Below w.heap.size w w2 := (HX.out.alloc HX.out.size _).trans (hb2.mono (by have := HX.out.size; simp; omega))
    clear hb2
    go_wp2_with fail
    exact bodyPost_ret (v := .agg #[.int .i64 0, .int .i64 0]) (by simp only [results, Try.results64]; go_simp) rfl ⟨rfl, (hx.setCell (by simp; omega) _).setCell (by simp; omega) _⟩
  · have hd : decide (T ≤ F) = false := by simp [hle]
    have hC : C = (F, T) := by rw [E.out, if_neg hle]
    rw [hd] at he
    clear E hle
    subst hC
    go_enter Try.func64, Try.ntmps64
    go_wp2_with fail
    refine (hB _).mono ?_
    rintro e w1 ⟨rfl, hb1⟩
    have hx : Below w.heap.size w w1 := by
      refine Below.trans ?_ (hb1.mono ?_)
      · exact (by repeat (first | exact Below.refl _ _ | assumption | refine below_drewN ?_ _ | refine Below.drew ?_ | refine below_alloc ?_ _ | refine Below.alloc ?_ (by first | omega | (simp; done) | (simp; omega)) _ | refine Below.setCell ?_ (Below.size (by assumption)) _ | refine Below.setCell ?_ (by first | omega | (simp; done) | (simp; omega)) _ | (refine Below.trans ?_ (Below.mono (by assumption) (by first | omega | (simp; done) | (simp; omega)))) | refine below_next ?_ (by assumption)))
      · simp; omega
    have q0 : w1.cell? ⟨w.heap.size + 1 + 1, 0, none⟩ = some (.int .i64 0) := (hb1.cell (p := ⟨w.heap.size + 1 + 1, 0, none⟩) (by simp)).trans (by go_simp)
    have q1 : w1.cell? ⟨w.heap.size + 1 + 1, 1, none⟩ = some (.int .i64 0) := (hb1.cell (p := ⟨w.heap.size + 1 + 1, 1, none⟩) (by simp)).trans (by go_simp)
    have q2 : w1.frozen? ⟨w.heap.size + 1 + 1, 0, none⟩ = false := (hb1.frozen (p := ⟨w.heap.size + 1 + 1, 0, none⟩) (by simp)).trans (by go_simp)
    have q3 : w1.frozen? ⟨w.heap.size + 1 + 1, 1, none⟩ = false := (hb1.frozen (p := ⟨w.heap.size + 1 + 1, 1, none⟩) (by simp)).trans (by go_simp)
    have hz1 : w.heap.size + 1 + 1 < w1.heap.size := by have := hb1.size; simp at this; omega
    have HX := Lib.hid hx
    clear hb1 hx
    go_wp2_with fail
    refine (he _).mono ?_
    rintro e w2 ⟨rfl, hb2⟩
    have hy : Below w1.heap.size w1 w2 := ((Below.refl _ w1).alloc (Nat.le_refl _) _).trans (hb2.mono (by simp))
    have r0 := (hy.cell (p := ⟨w.heap.size + 1 + 1, 0, none⟩) hz1).trans q0
    have r1 := (hy.cell (p := ⟨w.heap.size + 1 + 1, 1, none⟩) hz1).trans q1
    have r2 := (hy.frozen (p := ⟨w.heap.size + 1 + 1, 0, none⟩) hz1).trans q2
    have r3 := (hy.frozen (p := ⟨w.heap.size + 1 + 1, 1, none⟩) hz1).trans q3
    clear hy q0 q1 q2 q3
    have k0 : w2.cell? ⟨w1.heap.size, 0, none⟩ = some (.int .i64 F) := (hb2.cell (p := ⟨w1.heap.size, 0, none⟩) (by simp)).trans (by go_simp)
    have k1 : w2.cell? ⟨w1.heap.size, 1, none⟩ = some (.int .i64 T) := (hb2.cell (p := ⟨w1.heap.size, 1, none⟩) (by simp)).trans (by go_simp)
    have hx : Below w.heap.size w w2 := (HX.out.alloc HX.out.size _).trans (hb2.mono (by have := HX.out.size; simp; omega))
    clear hb2
    go_wp2_with fail
    exact bodyPost_ret (v := .agg #[.int .i64 F, .int .i64 T]) (by simp only [results, Try.results64]; go_simp) rfl ⟨rfl, (hx.setCell (by simp; omega) _).setCell (by simp; omega) _⟩

/-- how many times are in one -/
def lenI (a : Int × Int) : Int := if clampI a.2 ≤ clampI a.1 then 0 else subI a.2 a.1
theorem len_any (f t : Int) (w : World) :
    Calls Try.prog 33 #[.agg #[.int .i64 f, .int .i64 t]] w fun e w' => e = .returned (.int .i64 (lenI (f, t))) ∧ Below w.heap.size w w' := by
  have he := fun W => empty_any f t W
  have hs := fun W => sub_any t f W
  have E := Lib.hid (show lenI (f, t) = if clampI t ≤ clampI f then 0 else subI t f from rfl)
  generalize lenI (f, t) = C at *
  generalize subI t f = S at *
  by_cases hle : clampI t ≤ clampI f
  · have hd : decide (clampI t ≤ clampI f) = true := by simp [hle]
    have hC : C = 0 := by rw [E.out, if_pos hle]
    rw [hd] at he
    clear E hle
    subst hC
    go_enter Try.func33, Try.ntmps33
    go_wp2_with fail
    refine (he _).mono ?_
    rintro e w2 ⟨rfl, hb2⟩
    have hx : Below w.heap.size w w2 := ((Below.refl _ w).alloc (Nat.le_refl _) _).trans (hb2.mono (by simp))
    clear hb2
    go_wp2_with fail
    go_ret
    exact ⟨rfl, hx⟩
  · have hd : decide (clampI t ≤ clampI f) = false := by simp [hle]
    have hC : C = S := by rw [E.out, if_neg hle]
    rw [hd] at he
    clear E hle
    subst hC
    go_enter Try.func33, Try.ntmps33
    go_wp2_with fail
    refine (he _).mono ?_
    rintro e w2 ⟨rfl, hb2⟩
    have k0 : w2.cell? ⟨w.heap.size, 0, none⟩ = some (.int .i64 f) := (hb2.cell (p := ⟨w.heap.size, 0, none⟩) (by simp)).trans (by go_simp)
    have k1 : w2.cell? ⟨w.heap.size, 1, none⟩ = some (.int .i64 t) := (hb2.cell (p := ⟨w.heap.size, 1, none⟩) (by simp)).trans (by go_simp)
    have hx : Below w.heap.size w w2 := ((Below.refl _ w).alloc (Nat.le_refl _) _).trans (hb2.mono (by simp))
    clear hb2
    go_wp2_with fail
    all_goals (go_wp2_with (go_at_call 24; refine (hs _).mono ?_; rintro e w' ⟨rfl, rfl⟩))
    all_goals go_ret
    all_goals exact ⟨rfl, (by repeat (first | exact Below.refl _ _ | assumption | refine below_drewN ?_ _ | refine Below.drew ?_ | refine below_alloc ?_ _ | refine Below.alloc ?_ (by first | omega | (simp; done) | (simp; omega)) _ | refine Below.setCell ?_ (Below.size (by assumption)) _ | refine Below.setCell ?_ (by first | omega | (simp; done) | (simp; omega)) _ | (refine Below.trans ?_ (Below.mono (by assumption) (by first | omega | (simp; done) | (simp; omega)))) | refine below_next ?_ (by assumption)))⟩
theorem of_any (f m : Int) (w : World) :
    Calls Try.prog 45 #[.int .i64 f, .int .i64 m] w fun e w' => e = .returned (.agg #[.int .i64 (clampI f), .int .i64 (addI f m)]) ∧ Below w.heap.size w w' := by
  have ha := fun W => add_any f m W
  generalize addI f m = S at *
  go_enter Try.func45, Try.ntmps45
  go_wp2_with fail
  try go_region_with (first | (go_at_call 25; refine (clamp_any _ _).mono ?_; rintro e w' ⟨rfl, rfl⟩) | (go_at_call 78; refine (ha _).mono ?_; rintro e w' ⟨rfl, rfl⟩))
  all_goals (go_wp2_with (first | (go_at_call 25; refine (clamp_any _ _).mono ?_; rintro e w' ⟨rfl, rfl⟩) | (go_at_call 78; refine (ha _).mono ?_; rintro e w' ⟨rfl, rfl⟩)))
  all_goals exact bodyPost_ret (v := .agg #[.int .i64 (clampI f), .int .i64 S]) (by simp [results, Try.results45, go_sem]) rfl ⟨rfl, (by repeat (first | exact Below.refl _ _ | assumption | refine below_drewN ?_ _ | refine Below.drew ?_ | refine below_alloc ?_ _ | refine Below.alloc ?_ (by first | omega | (simp; done) | (simp; omega)) _ | refine Below.setCell ?_ (Below.size (by assumption)) _ | refine Below.setCell ?_ (by first | omega | (simp; done) | (simp; omega)) _ | (refine Below.trans ?_ (Below.mono (by assumption) (by first | omega | (simp; done) | (simp; omega)))) | refine below_next ?_ (by assumption)))⟩
end Go.Proofs.Ythdljigcfhjikaa
namespace Go.Proofs.Ythdljigcfhjikaa
set_option linter.unusedVariables false
open Go.ChangeShapes Go.WideShapes Go.ChangeAt Go.RowKit

/-- whether a time is in one -/
def holdsI (a : Int × Int) (x : Int) : Bool := decide (clampI a.1 ≤ clampI x) && decide (clampI x < clampI a.2)
/-- whether one may be -/
def rightI (a : Int × Int) : Bool := decide (a.1 = clampI a.1 ∧ a.2 = clampI a.2) && decide (a.1 ≤ a.2)
theorem rholds_eq (f t x : Int) : (decide ((cleanI (f, t)).1 ≤ clampI x) && decide (clampI x < (cleanI (f, t)).2)) = holdsI (f, t) x := by
  have h1 := clampI_bd x
  have e2 : holdsI (f, t) x = (decide (clampI f ≤ clampI x) && decide (clampI x < clampI t)) := rfl
  by_cases hle : clampI t ≤ clampI f
  · have e : cleanI (f, t) = (0, 0) := by unfold cleanI; exact if_pos hle
    rw [e, e2]
    have a : decide (clampI x < 0) = false := by simp; omega
    simp only [a, Bool.and_false]
    by_cases h : clampI f ≤ clampI x
    · have b : decide (clampI x < clampI t) = false := by simp; omega
      rw [b, Bool.and_false]
    · have b : decide (clampI f ≤ clampI x) = false := by simp; omega
      rw [b, Bool.false_and]
  · have e : cleanI (f, t) = (clampI f, clampI t) := by unfold cleanI; exact if_neg hle
    rw [e, e2]
set_option maxHeartbeats 1000000 in
theorem holds_any (f t x : Int) (w : World) :
    Calls Try.prog 46 #[.agg #[.int .i64 f, .int .i64 t], .int .i64 x] w fun e w' => e = .returned (.bool (holdsI (f, t) x)) ∧ Below w.heap.size w w' := by
  have E := Lib.hid (show holdsI (f, t) x = (decide (clampI f ≤ clampI x) && decide (clampI x < clampI t)) from rfl)
  have hk := fun W => clamp_any x W
  generalize holdsI (f, t) x = B at *
  go_enter Try.func46, Try.ntmps46
  go_wp2_with fail
  refine (clamped_any f t _).mono ?_
  rintro e w1 ⟨rfl, hb1⟩
  have q0 : w1.cell? ⟨w.heap.size, 0, none⟩ = some (.int .i64 f) := (hb1.cell (p := ⟨w.heap.size, 0, none⟩) (by simp)).trans (by go_simp)
  have q1 : w1.cell? ⟨w.heap.size, 1, none⟩ = some (.int .i64 t) := (hb1.cell (p := ⟨w.heap.size, 1, none⟩) (by simp)).trans (by go_simp)
  have q2 : w1.frozen? ⟨w.heap.size, 0, none⟩ = false := (hb1.frozen (p := ⟨w.heap.size, 0, none⟩) (by simp)).trans (by go_simp)
  have q3 : w1.frozen? ⟨w.heap.size, 1, none⟩ = false := (hb1.frozen (p := ⟨w.heap.size, 1, none⟩) (by simp)).trans (by go_simp)
  have hx : Below w.heap.size w w1 := by
    refine Below.trans ?_ (hb1.mono ?_)
    · exact (by repeat (first | exact Below.refl _ _ | assumption | refine below_drewN ?_ _ | refine Below.drew ?_ | refine below_alloc ?_ _ | refine Below.alloc ?_ (by first | omega | (simp; done) | (simp; omega)) _ | refine Below.setCell ?_ (Below.size (by assumption)) _ | refine Below.setCell ?_ (by first | omega | (simp; done) | (simp; omega)) _ | (refine Below.trans ?_ (Below.mono (by assumption) (by first | omega | (simp; done) | (simp; omega)))) | refine below_next ?_ (by assumption)))
    · simp
  have hz1 : w.heap.size < w1.heap.size := by have := hb1.size; simp at this; omega
  clear hb1
  generalize clampI x = X at *
  generalize clampI f = F at *
  generalize clampI t = T at *
  go_wp2_with (go_at_call 25; refine (hk _).mono ?_; rintro e w' ⟨rfl, rfl⟩)
  all_goals go_ret
  all_goals refine ⟨?_, (hx.setCell (Nat.le_refl _) _).setCell (Nat.le_refl _) _⟩
  all_goals rw [E.out]
  all_goals first | (simp [*]; done) | (simp; omega)
set_option maxHeartbeats 1000000 in
theorem rholds_any (f t x : Int) (w : World) :
    Calls Try.prog 57 #[.agg #[.int .i64 f, .int .i64 t], .int .i64 x] w fun e w' => e = .returned (.bool (holdsI (f, t) x)) ∧ Below w.heap.size w w' := by
  have E := Lib.hid (rholds_eq f t x).symm
  have hk := fun W => rclamp_any x W
  generalize holdsI (f, t) x = B at *
  go_enter Try.func57, Try.ntmps57
  go_wp2_with fail
  refine (rclean_any f t _).mono ?_
  rintro e w1 ⟨rfl, hb1⟩
  have q0 : w1.cell? ⟨w.heap.size, 0, none⟩ = some (.int .i64 f) := (hb1.cell (p := ⟨w.heap.size, 0, none⟩) (by simp)).trans (by go_simp)
  have q1 : w1.cell? ⟨w.heap.size, 1, none⟩ = some (.int .i64 t) := (hb1.cell (p := ⟨w.heap.size, 1, none⟩) (by simp)).trans (by go_simp)
  have q2 : w1.frozen? ⟨w.heap.size, 0, none⟩ = false := (hb1.frozen (p := ⟨w.heap.size, 0, none⟩) (by simp)).trans (by go_simp)
  have q3 : w1.frozen? ⟨w.heap.size, 1, none⟩ = false := (hb1.frozen (p := ⟨w.heap.size, 1, none⟩) (by simp)).trans (by go_simp)
  have hx : Below w.heap.size w w1 := by
    refine Below.trans ?_ (hb1.mono ?_)
    · exact (by repeat (first | exact Below.refl _ _ | assumption | refine below_drewN ?_ _ | refine Below.drew ?_ | refine below_alloc ?_ _ | refine Below.alloc ?_ (by first | omega | (simp; done) | (simp; omega)) _ | refine Below.setCell ?_ (Below.size (by assumption)) _ | refine Below.setCell ?_ (by first | omega | (simp; done) | (simp; omega)) _ | (refine Below.trans ?_ (Below.mono (by assumption) (by first | omega | (simp; done) | (simp; omega)))) | refine below_next ?_ (by assumption)))
    · simp
  have hz1 : w.heap.size < w1.heap.size := by have := hb1.size; simp at this; omega
  clear hb1
  generalize (cleanI (f, t)).1 = F at *
  generalize (cleanI (f, t)).2 = T at *
  generalize clampI x = X at *
  go_wp2_with (go_at_call 42; refine (hk _).mono ?_; rintro e w' ⟨rfl, rfl⟩)
  all_goals go_ret
  all_goals refine ⟨?_, (hx.setCell (Nat.le_refl _) _).setCell (Nat.le_refl _) _⟩
  all_goals rw [E.out]
  all_goals first | (simp [*]; done) | (simp; omega)
theorem keepR {W0 W : World} {b : Nat} {v0 v1 : Value} (c0 : W0.cell? ⟨b, 0, none⟩ = some v0) (c1 : W0.cell? ⟨b, 1, none⟩ = some v1) (h : Below W0.heap.size W0 W) :
    W.cell? ⟨b, 0, none⟩ = some v0 ∧ W.cell? ⟨b, 1, none⟩ = some v1 ∧ Below W0.heap.size W0 W :=
  ⟨(h.cell (World.block_lt_of_cell? W0 _ c0)).trans c0, (h.cell (World.block_lt_of_cell? W0 _ c1)).trans c1, h⟩
set_option maxHeartbeats 1000000 in
theorem right_same (f t F T : Int) (h1 : f = F) (h2 : t = T) (w : World) (hC : ∀ W : World, Calls Try.prog 79 #[.agg #[.int .i64 f, .int .i64 t]] W fun e w' => e = .returned (.agg #[.int .i64 F, .int .i64 T]) ∧ Below W.heap.size W w') :
    Calls Try.prog 47 #[.agg #[.int .i64 f, .int .i64 t]] w fun e w' => e = .returned (.bool (decide (f ≤ t))) ∧ Below w.heap.size w w' := by
  subst h1 h2
  go_enter Try.func47, Try.ntmps47
  go_wp2_with fail
  have d0 : (w.alloc (.cells #[.int .i64 f, .int .i64 t] 25)).cell? ⟨w.heap.size, 0, none⟩ = some (.int .i64 f) := by go_simp
  have d1 : (w.alloc (.cells #[.int .i64 f, .int .i64 t] 25)).cell? ⟨w.heap.size, 1, none⟩ = some (.int .i64 t) := by go_simp
  have hx : Below w.heap.size w (w.alloc (.cells #[.int .i64 f, .int .i64 t] 25)) := (Below.refl _ w).alloc (Nat.le_refl _) _
  have HX := Lib.hid hx
  clear hx
  generalize w.alloc (.cells #[.int .i64 f, .int .i64 t] 25) = W0 at *
  generalize hgs : w.heap.size = gs at *
  go_region_held3 (fun w' => w'.cell? ⟨gs, 0, none⟩ = some (.int .i64 f) ∧ w'.cell? ⟨gs, 1, none⟩ = some (.int .i64 t) ∧ Below W0.heap.size W0 w') (exact keepR d0 d1 (by repeat (first | exact Below.refl _ _ | assumption | refine below_drewN ?_ _ | refine Below.drew ?_ | refine below_alloc ?_ _ | refine Below.alloc ?_ (by first | omega | (simp; done) | (simp; omega)) _ | refine Below.setCell ?_ (Below.size (by assumption)) _ | refine Below.setCell ?_ (by first | omega | (simp; done) | (simp; omega)) _ | (refine Below.trans ?_ (Below.mono (by assumption) (by first | omega | (simp; done) | (simp; omega)))) | refine below_next ?_ (by assumption))))
    (first
      | (go_at_call 79; refine (hC _).mono ?_; rintro e w4 ⟨rfl, hb4⟩; have hb' := below_next (W0 := W0) (by repeat (first | exact Below.refl _ _ | assumption | refine below_drewN ?_ _ | refine Below.drew ?_ | refine below_alloc ?_ _ | refine Below.alloc ?_ (by first | omega | (simp; done) | (simp; omega)) _ | refine Below.setCell ?_ (Below.size (by assumption)) _ | refine Below.setCell ?_ (by first | omega | (simp; done) | (simp; omega)) _ | (refine Below.trans ?_ (Below.mono (by assumption) (by first | omega | (simp; done) | (simp; omega)))) | refine below_next ?_ (by assumption))) hb4; clear hb4))
  all_goals go_wp2_with fail
  all_goals go_ret
  all_goals exact ⟨by simp [*], by rw [hgs]; exact HX.out.trans (Below.mono (w := W0) (B := W0.heap.size) (by assumption) (by rw [← hgs]; exact HX.out.size))⟩
end Go.Proofs.Ythdljigcfhjikaa
namespace Go.Proofs.Ythdljigcfhjikaa
set_option linter.unusedVariables false
open Go.ChangeShapes Go.WideShapes Go.ChangeAt Go.RowKit
set_option maxRecDepth 100000
attribute [local go_sem ↓] Go.wp_at_zero Go.wp_at_succ comesTo_value_eq comesTo_skip_eq comesTo_enter_eq
set_option maxRecDepth 100000 in
set_option maxHeartbeats 1000000 in
theorem right_from (f t F T : Int) (h1 : ¬ f = F) (w : World) (hC : ∀ W : World, Calls Try.prog 79 #[.agg #[.int .i64 f, .int .i64 t]] W fun e w' => e = .returned (.agg #[.int .i64 F, .int .i64 T]) ∧ Below W.heap.size W w') :
    Calls Try.prog 47 #[.agg #[.int .i64 f, .int .i64 t]] w fun e w' => e = .returned (.bool false) ∧ Below w.heap.size w w' := by
  go_enter Try.func47, Try.ntmps47
  go_wp2_with fail
  have d0 : (w.alloc (.cells #[.int .i64 f, .int .i64 t] 25)).cell? ⟨w.heap.size, 0, none⟩ = some (.int .i64 f) := by go_simp
  have d1 : (w.alloc (.cells #[.int .i64 f, .int .i64 t] 25)).cell? ⟨w.heap.size, 1, none⟩ = some (.int .i64 t) := by go_simp
  have hx : Below w.heap.size w (w.alloc (.cells #[.int .i64 f, .int .i64 t] 25)) := (Below.refl _ w).alloc (Nat.le_refl _) _
  have HX := Lib.hid hx
  clear hx
  generalize w.alloc (.cells #[.int .i64 f, .int .i64 t] 25) = W0 at *
  generalize hgs : w.heap.size = gs at *
  refine wp_region_grow (Below W0.heap.size W0) (by kernel_rfl) (by kernel_rfl) (Below.refl _ _).drew ?_
  have hlt := World.block_lt_of_cell? W0 _ d0
  (refine textS_run ?_ ?_ (fun W hS => ?_) ?_; rotate_left; (focus go_simp); (focus (obtain ⟨hc, hf⟩ := bcell hS; go_simp; first | rfl | exact ⟨rfl, hS⟩ | exact hS)); (try go_simp))
  (refine textS_run ?_ ?_ (fun W hS => ?_) ?_; rotate_left; (focus go_simp); (focus (obtain ⟨hc, hf⟩ := bcell hS; go_simp; first | rfl | exact ⟨rfl, hS⟩ | exact hS)); (try go_simp))
  (refine textS_run ?_ ?_ (fun W hS => ?_) ?_; rotate_left; (focus go_simp); (focus (obtain ⟨hc, hf⟩ := bcell hS; go_simp; refine (hC _).mono ?_; rintro e w1 ⟨rfl, hb⟩; refine ⟨?_, hS.trans (hb.mono hS.size)⟩; rfl)); (try go_simp))
  (refine textS_run ?_ ?_ (fun W hS => ?_) ?_; rotate_left; (focus go_simp); (focus (obtain ⟨hc, hf⟩ := bcell hS; go_simp; first | rfl | exact ⟨rfl, hS⟩ | exact hS)); (try go_simp))
  (refine textS_run ?_ ?_ (fun W hS => ?_) ?_; rotate_left; (focus go_simp); (focus (obtain ⟨hc, hf⟩ := bcell hS; go_simp; first | rfl | exact ⟨rfl, hS⟩ | exact hS)); (try go_simp))
  (refine textS_skip ?_ ?_; (focus go_simp))
  (refine textS_skip ?_ ?_; (focus go_simp))
  (refine textS_skip ?_ ?_; (focus go_simp))
  (refine textS_skip ?_ ?_; (focus go_simp))
  (refine textS_skip ?_ ?_; (focus go_simp))
  (refine textS_run ?_ ?_ (fun W hS => ?_) ?_; rotate_left; (focus go_simp); (focus (obtain ⟨hc, hf⟩ := bcell hS; go_simp; first | rfl | exact ⟨rfl, hS⟩ | exact hS)); (try go_simp))
  (refine textS_run ?_ ?_ (fun W hS => ?_) ?_; rotate_left; (focus go_simp); (focus (obtain ⟨hc, hf⟩ := bcell hS; go_simp; first | rfl | exact ⟨rfl, hS⟩ | exact hS)); (try go_simp))
  refine textS_nil ?_
  intro W1 hS
  go_wp2_with fail
  go_ret
  exact ⟨rfl, HX.out.trans (hS.mono (by rw [← hgs]; exact HX.out.size))⟩
set_option maxRecDepth 100000 in
set_option maxHeartbeats 1000000 in
theorem right_to (f t F T : Int) (h1 : f = F) (h2 : ¬ t = T) (w : World) (hC : ∀ W : World, Calls Try.prog 79 #[.agg #[.int .i64 f, .int .i64 t]] W fun e w' => e = .returned (.agg #[.int .i64 F, .int .i64 T]) ∧ Below W.heap.size W w') :
    Calls Try.prog 47 #[.agg #[.int .i64 f, .int .i64 t]] w fun e w' => e = .returned (.bool false) ∧ Below w.heap.size w w' := by
  subst h1
  go_enter Try.func47, Try.ntmps47
  go_wp2_with fail
  have d0 : (w.alloc (.cells #[.int .i64 f, .int .i64 t] 25)).cell? ⟨w.heap.size, 0, none⟩ = some (.int .i64 f) := by go_simp
  have d1 : (w.alloc (.cells #[.int .i64 f, .int .i64 t] 25)).cell? ⟨w.heap.size, 1, none⟩ = some (.int .i64 t) := by go_simp
  have hx : Below w.heap.size w (w.alloc (.cells #[.int .i64 f, .int .i64 t] 25)) := (Below.refl _ w).alloc (Nat.le_refl _) _
  have HX := Lib.hid hx
  clear hx
  generalize w.alloc (.cells #[.int .i64 f, .int .i64 t] 25) = W0 at *
  generalize hgs : w.heap.size = gs at *
  refine wp_region_grow (Below W0.heap.size W0) (by kernel_rfl) (by kernel_rfl) (Below.refl _ _).drew ?_
  have hlt := World.block_lt_of_cell? W0 _ d0
  (refine textS_run ?_ ?_ (fun W hS => ?_) ?_; rotate_left; (focus go_simp); (focus (obtain ⟨hc, hf⟩ := bcell hS; go_simp; first | rfl | exact ⟨rfl, hS⟩ | exact hS)); (try go_simp))
  (refine textS_run ?_ ?_ (fun W hS => ?_) ?_; rotate_left; (focus go_simp); (focus (obtain ⟨hc, hf⟩ := bcell hS; go_simp; first | rfl | exact ⟨rfl, hS⟩ | exact hS)); (try go_simp))
  (refine textS_run ?_ ?_ (fun W hS => ?_) ?_; rotate_left; (focus go_simp); (focus (obtain ⟨hc, hf⟩ := bcell hS; go_simp; refine (hC _).mono ?_; rintro e w1 ⟨rfl, hb⟩; refine ⟨?_, hS.trans (hb.mono hS.size)⟩; rfl)); (try go_simp))
  (refine textS_run ?_ ?_ (fun W hS => ?_) ?_; rotate_left; (focus go_simp); (focus (obtain ⟨hc, hf⟩ := bcell hS; go_simp; first | rfl | exact ⟨rfl, hS⟩ | exact hS)); (try go_simp))
  (refine textS_run ?_ ?_ (fun W hS => ?_) ?_; rotate_left; (focus go_simp); (focus (obtain ⟨hc, hf⟩ := bcell hS; go_simp; first | rfl | exact ⟨rfl, hS⟩ | exact hS)); (try go_simp))
  (refine textS_skip ?_ ?_; (focus go_simp))
  (refine textS_skip ?_ ?_; (focus go_simp))
  (refine textS_skip ?_ ?_; (focus go_simp))
  (refine textS_skip ?_ ?_; (focus go_simp))
  (refine textS_skip ?_ ?_; (focus go_simp))
  (refine textS_run ?_ ?_ (fun W hS => ?_) ?_; rotate_left; (focus go_simp); (focus (obtain ⟨hc, hf⟩ := bcell hS; go_simp; first | rfl | exact ⟨rfl, hS⟩ | exact hS)); (try go_simp))
  (refine textS_run ?_ ?_ (fun W hS => ?_) ?_; rotate_left; (focus go_simp); (focus (obtain ⟨hc, hf⟩ := bcell hS; go_simp; first | rfl | exact ⟨rfl, hS⟩ | exact hS)); (try go_simp))
  refine textS_nil ?_
  intro W1 hS
  go_wp2_with fail
  go_ret
  exact ⟨rfl, HX.out.trans (hS.mono (by rw [← hgs]; exact HX.out.size))⟩
theorem right_any (f t : Int) (w : World) :
    Calls Try.prog 47 #[.agg #[.int .i64 f, .int .i64 t]] w fun e w' => e = .returned (.bool (rightI (f, t))) ∧ Below w.heap.size w w' := by
  have hC := fun W => clamped_any f t W
  have E : rightI (f, t) = (decide (f = clampI f ∧ t = clampI t) && decide (f ≤ t)) := rfl
  by_cases h1 : f = clampI f
  · by_cases h2 : t = clampI t
    · rw [E, show decide (f = clampI f ∧ t = clampI t) = true by simp [← h1, ← h2], Bool.true_and]
      exact right_same f t _ _ h1 h2 w hC
    · rw [E, show decide (f = clampI f ∧ t = clampI t) = false by simp [h2], Bool.false_and]
      exact right_to f t _ _ h1 h2 w hC
  · rw [E, show decide (f = clampI f ∧ t = clampI t) = false by simp [h1], Bool.false_and]
    exact right_from f t _ _ h1 w hC
end Go.Proofs.Ythdljigcfhjikaa
namespace Go.Proofs.Ythdljigcfhjikaa
set_option linter.unusedVariables false
open Go.ChangeShapes Go.WideShapes Go.ChangeAt Go.RowKit
theorem cleanI_bd (a : Int × Int) : (0 ≤ (cleanI a).1 ∧ (cleanI a).1 ≤ 1099511627776) ∧ 0 ≤ (cleanI a).2 ∧ (cleanI a).2 ≤ 1099511627776 := by
  have h1 := clampI_bd a.1; have h2 := clampI_bd a.2
  unfold cleanI
  split <;> simp <;> omega
theorem rlen_eq (f t : Int) : (if (cleanI (f, t)).2 = 1099511627776 then 1099511627776 else (cleanI (f, t)).2 - (cleanI (f, t)).1) = lenI (f, t) := by
  have h1 := clampI_bd f; have h2 := clampI_bd t
  have e2 : lenI (f, t) = if clampI t ≤ clampI f then 0 else subI t f := rfl
  by_cases hle : clampI t ≤ clampI f
  · have e : cleanI (f, t) = (0, 0) := by unfold cleanI; exact if_pos hle
    rw [e, e2, if_pos hle]; rfl
  · have e : cleanI (f, t) = (clampI f, clampI t) := by unfold cleanI; exact if_neg hle
    rw [e, e2, if_neg hle]
    unfold subI
    show (if clampI t = 1099511627776 then _ else clampI t - clampI f) = _
    by_cases h : clampI t = 1099511627776
    · rw [if_pos h]; repeat' split
      all_goals first | omega | rfl
    · rw [if_neg h, clampI_id (n := clampI t - clampI f) (by omega) (by omega)]; repeat' split
      all_goals omega
theorem rcut_eq (a b : Int × Int) : cleanI (max (cleanI a).1 (cleanI b).1, min (cleanI a).2 (cleanI b).2) = cutI a b := by
  have h1 := clampI_bd a.1; have h2 := clampI_bd a.2; have h3 := clampI_bd b.1; have h4 := clampI_bd b.2
  have ha := cleanI_bd a; have hb := cleanI_bd b
  have e : cleanI (max (cleanI a).1 (cleanI b).1, min (cleanI a).2 (cleanI b).2) = if min (cleanI a).2 (cleanI b).2 ≤ max (cleanI a).1 (cleanI b).1 then (0, 0) else (max (cleanI a).1 (cleanI b).1, min (cleanI a).2 (cleanI b).2) := by
    show (if clampI (min (cleanI a).2 (cleanI b).2) ≤ clampI (max (cleanI a).1 (cleanI b).1) then _ else (clampI _, clampI _)) = _
    rw [clampI_id (n := min (cleanI a).2 (cleanI b).2) (by omega) (by omega), clampI_id (n := max (cleanI a).1 (cleanI b).1) (by omega) (by omega)]
  rw [e]
  unfold cutI bothT bothF
  by_cases p : clampI a.2 ≤ clampI a.1
  · have ea : cleanI a = (0, 0) := by unfold cleanI; exact if_pos p
    rw [ea] at *
    rw [if_pos (by simp at *; omega), if_pos (by omega)]
  · have ea : cleanI a = (clampI a.1, clampI a.2) := by unfold cleanI; exact if_neg p
    by_cases q : clampI b.2 ≤ clampI b.1
    · have eb : cleanI b = (0, 0) := by unfold cleanI; exact if_pos q
      rw [eb] at *
      rw [if_pos (by simp at *; omega), if_pos (by omega)]
    · have eb : cleanI b = (clampI b.1, clampI b.2) := by unfold cleanI; exact if_neg q
      rw [ea, eb]
set_option maxRecDepth 100000 in
set_option maxHeartbeats 1000000 in
theorem rcut_any (f t g u : Int) (w : World) :
    Calls Try.prog 36 #[.agg #[.int .i64 f, .int .i64 t], .agg #[.int .i64 g, .int .i64 u]] w fun e w' => e = .returned (.agg #[.int .i64 (cutI (f, t) (g, u)).1, .int .i64 (cutI (f, t) (g, u)).2]) ∧ Below w.heap.size w w' := by
  have E := Lib.hid (rcut_eq (f, t) (g, u)).symm
  generalize cutI (f, t) (g, u) = C at *
  have hC := fun W => rclean_any f t W
  have hD := fun W => rclean_any g u W
  generalize (cleanI (f, t)).1 = F at *
  generalize (cleanI (f, t)).2 = T at *
  generalize (cleanI (g, u)).1 = G at *
  generalize (cleanI (g, u)).2 = U at *
  have hE := fun X Y W => rclean_any X Y W
  go_enter Try.func36, Try.ntmps36
  go_wp2_with fail
  refine (hC _).mono ?_
  rintro e w1 ⟨rfl, hb1⟩
  have hx : Below w.heap.size w w1 := by
    refine Below.trans ?_ (hb1.mono ?_)
    · exact (by repeat (first | exact Below.refl _ _ | assumption | refine below_drewN ?_ _ | refine Below.drew ?_ | refine below_alloc ?_ _ | refine Below.alloc ?_ (by first | omega | (simp; done) | (simp; omega)) _ | refine Below.setCell ?_ (Below.size (by assumption)) _ | refine Below.setCell ?_ (by first | omega | (simp; done) | (simp; omega)) _ | (refine Below.trans ?_ (Below.mono (by assumption) (by first | omega | (simp; done) | (simp; omega)))) | refine below_next ?_ (by assumption)))
    · simp; omega
  have q0 : w1.cell? ⟨w.heap.size, 0, none⟩ = some (.int .i64 f) := (hb1.cell (p := ⟨w.heap.size, 0, none⟩) (by simp; omega)).trans (by go_simp)
  have q1 : w1.cell? ⟨w.heap.size, 1, none⟩ = some (.int .i64 t) := (hb1.cell (p := ⟨w.heap.size, 1, none⟩) (by simp; omega)).trans (by go_simp)
  have q2 : w1.frozen? ⟨w.heap.size, 0, none⟩ = false := (hb1.frozen (p := ⟨w.heap.size, 0, none⟩) (by simp; omega)).trans (by go_simp)
  have q3 : w1.frozen? ⟨w.heap.size, 1, none⟩ = false := (hb1.frozen (p := ⟨w.heap.size, 1, none⟩) (by simp; omega)).trans (by go_simp)
  have s0 : w1.cell? ⟨w.heap.size + 1, 0, none⟩ = some (.int .i64 g) := (hb1.cell (p := ⟨w.heap.size + 1, 0, none⟩) (by simp)).trans (by go_simp)
  have s1 : w1.cell? ⟨w.heap.size + 1, 1, none⟩ = some (.int .i64 u) := (hb1.cell (p := ⟨w.heap.size + 1, 1, none⟩) (by simp)).trans (by go_simp)
  have s2 : w1.frozen? ⟨w.heap.size + 1, 0, none⟩ = false := (hb1.frozen (p := ⟨w.heap.size + 1, 0, none⟩) (by simp)).trans (by go_simp)
  have s3 : w1.frozen? ⟨w.heap.size + 1, 1, none⟩ = false := (hb1.frozen (p := ⟨w.heap.size + 1, 1, none⟩) (by simp)).trans (by go_simp)
  have p0 : w1.cell? ⟨w.heap.size + 1 + 1, 0, none⟩ = some (.int .i64 0) := (hb1.cell (p := ⟨w.heap.size + 1 + 1, 0, none⟩) (by simp)).trans (by go_simp)
  have p1 : w1.cell? ⟨w.heap.size + 1 + 1, 1, none⟩ = some (.int .i64 0) := (hb1.cell (p := ⟨w.heap.size + 1 + 1, 1, none⟩) (by simp)).trans (by go_simp)
  have p2 : w1.frozen? ⟨w.heap.size + 1 + 1, 0, none⟩ = false := (hb1.frozen (p := ⟨w.heap.size + 1 + 1, 0, none⟩) (by simp)).trans (by go_simp)
  have p3 : w1.frozen? ⟨w.heap.size + 1 + 1, 1, none⟩ = false := (hb1.frozen (p := ⟨w.heap.size + 1 + 1, 1, none⟩) (by simp)).trans (by go_simp)
  have hz1 : w.heap.size + 1 + 1 < w1.heap.size := by have := hb1.size; simp at this; omega
  clear hb1
  go_wp2_with fail
  refine (hD _).mono ?_
  rintro e w2 ⟨rfl, hb2⟩
  have hX : Below w.heap.size w ((w1.setCell ⟨w.heap.size, 0, none⟩ (.int .i64 F)).setCell ⟨w.heap.size, 1, none⟩ (.int .i64 T)) := (hx.setCell (Nat.le_refl _) _).setCell (Nat.le_refl _) _
  have c0 : ((w1.setCell ⟨w.heap.size, 0, none⟩ (.int .i64 F)).setCell ⟨w.heap.size, 1, none⟩ (.int .i64 T)).cell? ⟨w.heap.size, 0, none⟩ = some (.int .i64 F) := by go_simp
  have c1 : ((w1.setCell ⟨w.heap.size, 0, none⟩ (.int .i64 F)).setCell ⟨w.heap.size, 1, none⟩ (.int .i64 T)).cell? ⟨w.heap.size, 1, none⟩ = some (.int .i64 T) := by go_simp
  have c2 : ((w1.setCell ⟨w.heap.size, 0, none⟩ (.int .i64 F)).setCell ⟨w.heap.size, 1, none⟩ (.int .i64 T)).cell? ⟨w.heap.size + 1, 0, none⟩ = some (.int .i64 g) := by go_simp
  have c3 : ((w1.setCell ⟨w.heap.size, 0, none⟩ (.int .i64 F)).setCell ⟨w.heap.size, 1, none⟩ (.int .i64 T)).cell? ⟨w.heap.size + 1, 1, none⟩ = some (.int .i64 u) := by go_simp
  have c4 : ((w1.setCell ⟨w.heap.size, 0, none⟩ (.int .i64 F)).setCell ⟨w.heap.size, 1, none⟩ (.int .i64 T)).frozen? ⟨w.heap.size + 1, 0, none⟩ = false := by go_simp
  have c5 : ((w1.setCell ⟨w.heap.size, 0, none⟩ (.int .i64 F)).setCell ⟨w.heap.size, 1, none⟩ (.int .i64 T)).frozen? ⟨w.heap.size + 1, 1, none⟩ = false := by go_simp
  have c6 : ((w1.setCell ⟨w.heap.size, 0, none⟩ (.int .i64 F)).setCell ⟨w.heap.size, 1, none⟩ (.int .i64 T)).cell? ⟨w.heap.size + 1 + 1, 0, none⟩ = some (.int .i64 0) := by go_simp
  have c7 : ((w1.setCell ⟨w.heap.size, 0, none⟩ (.int .i64 F)).setCell ⟨w.heap.size, 1, none⟩ (.int .i64 T)).cell? ⟨w.heap.size + 1 + 1, 1, none⟩ = some (.int .i64 0) := by go_simp
  have c8 : ((w1.setCell ⟨w.heap.size, 0, none⟩ (.int .i64 F)).setCell ⟨w.heap.size, 1, none⟩ (.int .i64 T)).frozen? ⟨w.heap.size + 1 + 1, 0, none⟩ = false := by go_simp
  have c9 : ((w1.setCell ⟨w.heap.size, 0, none⟩ (.int .i64 F)).setCell ⟨w.heap.size, 1, none⟩ (.int .i64 T)).frozen? ⟨w.heap.size + 1 + 1, 1, none⟩ = false := by go_simp
  have hz2 : w.heap.size + 1 + 1 < ((w1.setCell ⟨w.heap.size, 0, none⟩ (.int .i64 F)).setCell ⟨w.heap.size, 1, none⟩ (.int .i64 T)).heap.size := by simp; omega
  clear q0 q1 q2 q3 s0 s1 s2 s3 p0 p1 p2 p3
  generalize (w1.setCell ⟨w.heap.size, 0, none⟩ (.int .i64 F)).setCell ⟨w.heap.size, 1, none⟩ (.int .i64 T) = W1 at *
  have k0 := (hb2.cell (p := ⟨w.heap.size, 0, none⟩) (Nat.lt_of_succ_lt (Nat.lt_of_succ_lt hz2))).trans c0
  have k1 := (hb2.cell (p := ⟨w.heap.size, 1, none⟩) (Nat.lt_of_succ_lt (Nat.lt_of_succ_lt hz2))).trans c1
  have k2 := (hb2.cell (p := ⟨w.heap.size + 1, 0, none⟩) (Nat.lt_of_succ_lt hz2)).trans c2
  have k3 := (hb2.cell (p := ⟨w.heap.size + 1, 1, none⟩) (Nat.lt_of_succ_lt hz2)).trans c3
  have k4 := (hb2.frozen (p := ⟨w.heap.size + 1, 0, none⟩) (Nat.lt_of_succ_lt hz2)).trans c4
  have k5 := (hb2.frozen (p := ⟨w.heap.size + 1, 1, none⟩) (Nat.lt_of_succ_lt hz2)).trans c5
  have k6 := (hb2.cell (p := ⟨w.heap.size + 1 + 1, 0, none⟩) hz2).trans c6
  have k7 := (hb2.cell (p := ⟨w.heap.size + 1 + 1, 1, none⟩) hz2).trans c7
  have k8 := (hb2.frozen (p := ⟨w.heap.size + 1 + 1, 0, none⟩) hz2).trans c8
  have k9 := (hb2.frozen (p := ⟨w.heap.size + 1 + 1, 1, none⟩) hz2).trans c9
  have hz4 : w.heap.size + 1 + 1 < w2.heap.size := Nat.lt_of_lt_of_le hz2 hb2.size
  have hy : Below w.heap.size w w2 := hX.trans (hb2.mono hX.size)
  have hz3 : w.heap.size ≤ w2.heap.size := hy.size
  clear hb2 hX c0 c1 c2 c3 c4 c5 c6 c7 c8 c9 hz2 hx
  go_wp2_with fail
  · have e : C = cleanI (G, U) := by rw [E.out, show max F G = G by omega, show min T U = U by omega]
    refine (hE G U _).mono ?_
    rw [← e]
    rintro e w3 ⟨rfl, hb3⟩
    have hz : Below w.heap.size w w3 := ((hy.setCell (Nat.le_succ _) _).setCell (Nat.le_succ _) _).trans (hb3.mono (by simp; omega))
    have m0 : w3.cell? ⟨w.heap.size + 1 + 1, 0, none⟩ = some (.int .i64 0) := (hb3.cell (p := ⟨w.heap.size + 1 + 1, 0, none⟩) (by simp; omega)).trans (by go_simp)
    have m1 : w3.cell? ⟨w.heap.size + 1 + 1, 1, none⟩ = some (.int .i64 0) := (hb3.cell (p := ⟨w.heap.size + 1 + 1, 1, none⟩) (by simp; omega)).trans (by go_simp)
    have m2 : w3.frozen? ⟨w.heap.size + 1 + 1, 0, none⟩ = false := (hb3.frozen (p := ⟨w.heap.size + 1 + 1, 0, none⟩) (by simp; omega)).trans (by go_simp)
    have m3 : w3.frozen? ⟨w.heap.size + 1 + 1, 1, none⟩ = false := (hb3.frozen (p := ⟨w.heap.size + 1 + 1, 1, none⟩) (by simp; omega)).trans (by go_simp)
    clear hb3
    go_wp2_with fail
    exact bodyPost_ret (v := .agg #[.int .i64 C.1, .int .i64 C.2]) (by simp only [results, Try.results36]; go_simp) rfl ⟨rfl, (hz.setCell (by simp; omega) _).setCell (by simp; omega) _⟩
  · have e : C = cleanI (G, T) := by rw [E.out, show max F G = G by omega, show min T U = T by omega]
    refine (hE G T _).mono ?_
    rw [← e]
    rintro e w3 ⟨rfl, hb3⟩
    have hz : Below w.heap.size w w3 := ((hy.setCell (Nat.le_succ _) _).setCell (Nat.le_succ _) _).trans (hb3.mono (by simp; omega))
    have m0 : w3.cell? ⟨w.heap.size + 1 + 1, 0, none⟩ = some (.int .i64 0) := (hb3.cell (p := ⟨w.heap.size + 1 + 1, 0, none⟩) (by simp; omega)).trans (by go_simp)
    have m1 : w3.cell? ⟨w.heap.size + 1 + 1, 1, none⟩ = some (.int .i64 0) := (hb3.cell (p := ⟨w.heap.size + 1 + 1, 1, none⟩) (by simp; omega)).trans (by go_simp)
    have m2 : w3.frozen? ⟨w.heap.size + 1 + 1, 0, none⟩ = false := (hb3.frozen (p := ⟨w.heap.size + 1 + 1, 0, none⟩) (by simp; omega)).trans (by go_simp)
    have m3 : w3.frozen? ⟨w.heap.size + 1 + 1, 1, none⟩ = false := (hb3.frozen (p := ⟨w.heap.size + 1 + 1, 1, none⟩) (by simp; omega)).trans (by go_simp)
    clear hb3
    go_wp2_with fail
    exact bodyPost_ret (v := .agg #[.int .i64 C.1, .int .i64 C.2]) (by simp only [results, Try.results36]; go_simp) rfl ⟨rfl, (hz.setCell (by simp; omega) _).setCell (by simp; omega) _⟩
  · have e : C = cleanI (F, U) := by rw [E.out, show max F G = F by omega, show min T U = U by omega]
    refine (hE F U _).mono ?_
    rw [← e]
    rintro e w3 ⟨rfl, hb3⟩
    have hz : Below w.heap.size w w3 := ((hy.setCell (Nat.le_succ _) _).setCell (Nat.le_succ _) _).trans (hb3.mono (by simp; omega))
    have m0 : w3.cell? ⟨w.heap.size + 1 + 1, 0, none⟩ = some (.int .i64 0) := (hb3.cell (p := ⟨w.heap.size + 1 + 1, 0, none⟩) (by simp; omega)).trans (by go_simp)
    have m1 : w3.cell? ⟨w.heap.size + 1 + 1, 1, none⟩ = some (.int .i64 0) := (hb3.cell (p := ⟨w.heap.size + 1 + 1, 1, none⟩) (by simp; omega)).trans (by go_simp)
    have m2 : w3.frozen? ⟨w.heap.size + 1 + 1, 0, none⟩ = false := (hb3.frozen (p := ⟨w.heap.size + 1 + 1, 0, none⟩) (by simp; omega)).trans (by go_simp)
    have m3 : w3.frozen? ⟨w.heap.size + 1 + 1, 1, none⟩ = false := (hb3.frozen (p := ⟨w.heap.size + 1 + 1, 1, none⟩) (by simp; omega)).trans (by go_simp)
    clear hb3
    go_wp2_with fail
    exact bodyPost_ret (v := .agg #[.int .i64 C.1, .int .i64 C.2]) (by simp only [results, Try.results36]; go_simp) rfl ⟨rfl, (hz.setCell (by simp; omega) _).setCell (by simp; omega) _⟩
  · have e : C = cleanI (F, T) := by rw [E.out, show max F G = F by omega, show min T U = T by omega]
    refine (hE F T _).mono ?_
    rw [← e]
    rintro e w3 ⟨rfl, hb3⟩
    have hz : Below w.heap.size w w3 := ((hy.setCell (Nat.le_succ _) _).setCell (Nat.le_succ _) _).trans (hb3.mono (by simp; omega))
    have m0 : w3.cell? ⟨w.heap.size + 1 + 1, 0, none⟩ = some (.int .i64 0) := (hb3.cell (p := ⟨w.heap.size + 1 + 1, 0, none⟩) (by simp; omega)).trans (by go_simp)
    have m1 : w3.cell? ⟨w.heap.size + 1 + 1, 1, none⟩ = some (.int .i64 0) := (hb3.cell (p := ⟨w.heap.size + 1 + 1, 1, none⟩) (by simp; omega)).trans (by go_simp)
    have m2 : w3.frozen? ⟨w.heap.size + 1 + 1, 0, none⟩ = false := (hb3.frozen (p := ⟨w.heap.size + 1 + 1, 0, none⟩) (by simp; omega)).trans (by go_simp)
    have m3 : w3.frozen? ⟨w.heap.size + 1 + 1, 1, none⟩ = false := (hb3.frozen (p := ⟨w.heap.size + 1 + 1, 1, none⟩) (by simp; omega)).trans (by go_simp)
    clear hb3
    go_wp2_with fail
    exact bodyPost_ret (v := .agg #[.int .i64 C.1, .int .i64 C.2]) (by simp only [results, Try.results36]; go_simp) rfl ⟨rfl, (hz.setCell (by simp; omega) _).setCell (by simp; omega) _⟩
end Go.Proofs.Ythdljigcfhjikaa
namespace Go.Proofs.Ythdljigcfhjikaa
set_option linter.unusedVariables false
open Go.ChangeShapes Go.WideShapes Go.ChangeAt Go.RowKit
theorem info_span : (Try.prog.info? 25).map (fun i => (i.zero, i.size, i.bytes)) = some (some (.agg #[.int .i64 0, .int .i64 0]), 2, 16) := by kernel_rfl
/-- spans as cells -/
def flatS : List (Int × Int) → List Value
  | [] => []
  | p :: r => .int .i64 p.1 :: .int .i64 p.2 :: flatS r
theorem flatS_length : ∀ l, (flatS l).length = l.length * 2
  | [] => rfl
  | p :: r => by simp [flatS, flatS_length r]; omega
theorem flatS_append : ∀ l m, flatS (l ++ m) = flatS l ++ flatS m
  | [], _ => rfl
  | p :: r, m => by simp [flatS, flatS_append r m]
theorem flatS_get0 : ∀ (l : List (Int × Int)) (k : Nat), k < l.length → (flatS l)[k * 2]? = some (.int .i64 (l.getD k (0, 0)).1)
  | p :: r, 0, _ => by simp [flatS]
  | p :: r, k + 1, h => by
    have := flatS_get0 r k (by simpa using h)
    rw [show (k + 1) * 2 = k * 2 + 1 + 1 by omega]
    simpa [flatS] using this
theorem flatS_get1 : ∀ (l : List (Int × Int)) (k : Nat), k < l.length → (flatS l)[k * 2 + 1]? = some (.int .i64 (l.getD k (0, 0)).2)
  | p :: r, 0, _ => by simp [flatS]
  | p :: r, k + 1, h => by
    have := flatS_get1 r k (by simpa using h)
    rw [show (k + 1) * 2 + 1 = k * 2 + 1 + 1 + 1 by omega]
    simpa [flatS] using this
/-- a row of spans of the call's own, from block B on -/
def OwnS (w : World) (B : Nat) (v : Value) (l : List (Int × Int)) : Prop := w.ownsRow B 25 2 v l.length (flatS l)
theorem OwnS.below {w w' : World} {B : Nat} {v : Value} {l : List (Int × Int)} (h : OwnS w B v l) (hb : Below w.heap.size w w') : OwnS w' B v l := by
  refine ⟨h.1, ?_⟩
  rcases h.2 with hn | ⟨g, cap, cur, hv, hB, hg, rest⟩
  · exact .inl hn
  · refine .inr ⟨g, cap, cur, hv, hB, ?_, rest⟩
    have hlt : g < w.heap.size := by
      rcases Nat.lt_or_ge g w.heap.size with h | h
      · exact h
      · rw [Array.getElem?_eq_none h] at hg; cases hg
    rw [hb.block g hlt]; exact hg
theorem OwnS.nil {w : World} {B : Nat} : OwnS w B (.slice none 0 0) [] := ⟨rfl, .inl ⟨rfl, rfl⟩⟩

section
variable {ops : Array Oper} {rest : List Oper} {o : Oper} {a : Act} {w : World} {Q : Exit → Act → World → Prop}
/-- APPEND of one span -/
theorem wpList_append_span (hgd : o.guard = none) (s x : Operand)
    (ho : o.op = .call { callee := .builtin .append, args := #[s, x], argTypes := #[71, 71] })
    (B : Nat) (v : Value) (l : List (Int × Int)) (hs : a.eval s = v) (hown : OwnS w B v l) (g c : Nat) (p : Int × Int) (hx : a.eval x = .slice (some ⟨g, 0, none⟩) 1 c)
    (c0 : w.cell? ⟨g, 0, none⟩ = some (.int .i64 p.1)) (c1 : w.cell? ⟨g, 1, none⟩ = some (.int .i64 p.2)) (h63 : l.length + 1 ≤ 1099511627776) (hB : B ≤ w.heap.size)
    (h' : ∀ (ad : Option Addr) (n c : Nat) (w' : World), OwnS w' B (.slice ad n c) (l ++ [p]) → Below B w w' → wpList Try.prog ops Q rest (a.put o.dst (.slice ad n c)) w') : wpList Try.prog ops Q (o :: rest) a w := by
  have h : ∀ v' w', OwnS w' B v' (l ++ [p]) → Below B w w' → wpList Try.prog ops Q rest (a.put o.dst v') w' := fun v' w' h1 h2 => by
    rcases h1.2 with ⟨e, _⟩ | ⟨g, cap, cur, e, _⟩
    · subst e; exact h' none 0 0 w' h1 h2
    · subst e; exact h' _ _ cap w' h1 h2
  obtain ⟨i0, hi, hz0, hz1, hz2⟩ := info_parts info_span
  have hblk : ∀ k, v.ownBlock = some k → B ≤ k := fun k hk => by
    rcases hown.2 with ⟨rfl, _⟩ | ⟨g, cap, cur, rfl, hg, _⟩
    · cases hk
    · simp only [Value.ownBlock, Option.some.injEq] at hk; omega
  refine wpList_append_own _ hgd s x 71 ho B 25 i0 (.agg #[.int .i64 0, .int .i64 0]) 2 16 Try.underlying71 hi hz0 hz1 hz2 rfl (by decide) v l.length (flatS l) hs hown
      ⟨g, 0, none⟩ 1 c (flatS [p]) hx rfl (fun j u hj => ?_) (fun u hu => ?_) (by unfold maxLen; omega) (by omega) hB (fun v' w' h1 h2 _ => ?_)
  · match j, hj with
    | 0, hj => simp [flatS] at hj; subst hj; simpa [Addr.add] using c0
    | 1, hj => simp [flatS] at hj; subst hj; simpa [Addr.add] using c1
    | j + 2, hj => simp [flatS] at hj
  · simp [flatS] at hu
    rcases hu with rfl | rfl <;> rfl
  · exact h v' w' (by unfold OwnS; rw [List.length_append, flatS_append]; exact h1) (Below.grown (Below.refl _ _) h2 hB hblk)
end

/-- the spans that are not empty, in bounds -/
def cutsOf (l : List (Int × Int)) : List (Int × Int) := l.filterMap fun s => if clampI s.2 ≤ clampI s.1 then none else some (clampI s.1, clampI s.2)
/-- one span more behind those that rise -/
def stepJ (acc : List (Int × Int)) (s : Int × Int) : List (Int × Int) :=
  match acc.getLast? with
  | none => [s]
  | some o => if s.1 ≤ o.2 then acc.set (acc.length - 1) (o.1, max o.2 s.2) else acc ++ [s]
theorem cutsOf_succ (l : List (Int × Int)) (k : Nat) (h : k < l.length) : cutsOf (l.take (k + 1)) = if clampI (l.getD k (0, 0)).2 ≤ clampI (l.getD k (0, 0)).1 then cutsOf (l.take k) else cutsOf (l.take k) ++ [(clampI (l.getD k (0, 0)).1, clampI (l.getD k (0, 0)).2)] := by
  rw [List.take_succ_eq_append_getElem h]
  unfold cutsOf
  rw [List.filterMap_append]
  simp [List.getD, h]
  split <;> simp_all
theorem cutsOf_len (l : List (Int × Int)) : (cutsOf l).length ≤ l.length := List.length_filterMap_le _ _
def foldJ (l : List (Int × Int)) : List (Int × Int) := l.foldl stepJ []
theorem foldJ_succ (l : List (Int × Int)) (k : Nat) (h : k < l.length) : foldJ (l.take (k + 1)) = stepJ (foldJ (l.take k)) (l.getD k (0, 0)) := by
  rw [List.take_succ_eq_append_getElem h]
  unfold foldJ
  rw [List.foldl_append]
  simp [List.getD, h]
theorem flatS_set : ∀ (J : List (Int × Int)) (m : Nat) (b : Int), m < J.length → flatS (J.set m ((J.getD m (0, 0)).1, b)) = (flatS J).set (m * 2 + 1) (.int .i64 b)
  | p :: r, 0, b, _ => by simp [flatS]
  | p :: r, m + 1, b, h => by
    have := flatS_set r m b (by simpa using h)
    rw [show (m + 1) * 2 + 1 = m * 2 + 1 + 1 + 1 by omega]
    simpa [flatS] using this
theorem OwnS.put {w : World} {B g c m : Nat} {J : List (Int × Int)} {f2 t2 : Int} (h : OwnS w B (.slice (some ⟨g, 0, none⟩) (m + 1) c) J) (hm : J.length = m + 1) (ho : J.getD m (0, 0) = (f2, t2)) (hB : B ≤ g) (b : Int) :
    OwnS (w.setCell ⟨g, m * 2 + 1, none⟩ (.int .i64 b)) B (.slice (some ⟨g, 0, none⟩) (m + 1) c) (J.set m (f2, b)) ∧ Below B w (w.setCell ⟨g, m * 2 + 1, none⟩ (.int .i64 b)) := by
  have e := flatS_set J m b (by omega)
  rw [ho] at e
  unfold OwnS at h ⊢
  rw [hm] at h
  have := h.stored (m * 2 + 1) (.int .i64 b)
  rw [List.length_set, hm, e]
  exact ⟨this.1, (Below.refl _ _).setCell hB _⟩
theorem stepJ_last (J : List (Int × Int)) (m : Nat) (hm : J.length = m + 1) (s : Int × Int) : stepJ J s = if s.1 ≤ (J.getD m (0, 0)).2 then J.set m ((J.getD m (0, 0)).1, max (J.getD m (0, 0)).2 s.2) else J ++ [s] := by
  have e : J.getLast? = some (J.getD m (0, 0)) := by
    rw [List.getLast?_eq_getElem?, hm]
    simp [List.getD, hm]
  unfold stepJ
  rw [e, hm]
  rfl
theorem stepJ_len (acc : List (Int × Int)) (s : Int × Int) : (stepJ acc s).length ≤ acc.length + 1 := by
  unfold stepJ
  split
  · simp
  · split <;> simp
theorem foldJ_len (l : List (Int × Int)) : (foldJ l).length ≤ l.length := by
  have : ∀ (l acc : List (Int × Int)), (l.foldl stepJ acc).length ≤ acc.length + l.length := by
    intro l
    induction l with
    | nil => intro acc; simp
    | cons s l ih => intro acc; have := ih (stepJ acc s); have := stepJ_len acc s; simp; omega
  simpa [foldJ] using this l []

theorem OwnS.mono {w : World} {B B' : Nat} {v : Value} {l : List (Int × Int)} (h : OwnS w B v l) (hb : B' ≤ B) : OwnS w B' v l := by
  refine ⟨h.1, ?_⟩
  rcases h.2 with hn | ⟨g, cap, cur, hv, hB, rest⟩
  · exact .inl hn
  · exact .inr ⟨g, cap, cur, hv, by omega, rest⟩
/-- a row of spans in memory -/
structure SpanRow (w : World) (b off : Nat) (l : List (Int × Int)) : Prop where
  c0 : ∀ k, k < l.length → w.cell? ⟨b, off + k * 2, none⟩ = some (.int .i64 (l.getD k (0, 0)).1)
  c1 : ∀ k, k < l.length → w.cell? ⟨b, off + k * 2 + 1, none⟩ = some (.int .i64 (l.getD k (0, 0)).2)
theorem SpanRow.below {w w' : World} {b off : Nat} {l : List (Int × Int)} (h : SpanRow w b off l) (hb : Below w.heap.size w w') : SpanRow w' b off l :=
  ⟨fun k hk => (hb.cell (World.block_lt_of_cell? w _ (h.c0 k hk))).trans (h.c0 k hk), fun k hk => (hb.cell (World.block_lt_of_cell? w _ (h.c1 k hk))).trans (h.c1 k hk)⟩
theorem OwnS.row {w : World} {B g n c : Nat} {l : List (Int × Int)} (h : OwnS w B (.slice (some ⟨g, 0, none⟩) n c) l) : SpanRow w g 0 l ∧ ∀ j, w.frozen? ⟨g, j, none⟩ = false := by
  have hn : n = l.length := by
    rcases h.2 with ⟨e, _⟩ | ⟨g', cap, cur, e, _⟩ <;> cases e <;> rfl
  subst hn
  refine ⟨⟨fun k hk => ?_, fun k hk => ?_⟩, fun j => h.frozenAt j⟩
  · rw [Nat.zero_add, h.cellAt (k * 2) (by omega), flatS_get0 l k hk]
  · rw [Nat.zero_add, h.cellAt (k * 2 + 1) (by omega), flatS_get1 l k hk]
theorem OwnS.form {w : World} {B : Nat} {v : Value} {l : List (Int × Int)} (h : OwnS w B v l) : ∃ ad c, v = .slice ad l.length c ∧ (0 < l.length → ∃ g, ad = some ⟨g, 0, none⟩ ∧ B ≤ g ∧ g < w.heap.size) := by
  rcases h.2 with ⟨e, h0⟩ | ⟨g, cap, cur, e, hB, hg, _⟩
  · exact ⟨none, 0, by rw [e, h0], fun h => by omega⟩
  · exact ⟨_, cap, e, fun _ => ⟨g, rfl, hB, (Array.getElem?_eq_some_iff.1 hg).1⟩⟩

theorem keepJ {W0 W : World} {b c x y z u : Nat} {v0 v1 v2 v3 : Value} (c0 : W0.cell? ⟨b, x, none⟩ = some v0) (c1 : W0.cell? ⟨b, y, none⟩ = some v1) (c2 : W0.cell? ⟨c, z, none⟩ = some v2) (c3 : W0.cell? ⟨c, u, none⟩ = some v3) (h : Below W0.heap.size W0 W) :
    W.cell? ⟨b, x, none⟩ = some v0 ∧ W.cell? ⟨b, y, none⟩ = some v1 ∧ W.cell? ⟨c, z, none⟩ = some v2 ∧ W.cell? ⟨c, u, none⟩ = some v3 ∧ Below W0.heap.size W0 W :=
  ⟨(h.cell (World.block_lt_of_cell? W0 _ c0)).trans c0, (h.cell (World.block_lt_of_cell? W0 _ c1)).trans c1, (h.cell (World.block_lt_of_cell? W0 _ c2)).trans c2, (h.cell (World.block_lt_of_cell? W0 _ c3)).trans c3, h⟩

/-- spans that rise, do not touch, and are not empty -/
def NormJ (l : List (Int × Int)) : Prop := (∀ s ∈ l, s.1 < s.2) ∧ l.Pairwise fun x y => x.2 < y.1
/-- a time is in one of them -/
def inJ (l : List (Int × Int)) (t : Int) : Prop := ∃ s ∈ l, s.1 ≤ t ∧ t < s.2
theorem one_memJ {x o : Int × Int} (h : x ∈ [o]) : x = o := by simpa using h
theorem inJ_nil (t : Int) : ¬ inJ [] t := by rintro ⟨s, h, _⟩; cases h
theorem inJ_cons (x : Int × Int) (l : List (Int × Int)) (t : Int) : inJ (x :: l) t ↔ (x.1 ≤ t ∧ t < x.2) ∨ inJ l t := by
  unfold inJ; simp
theorem inJ_append (l m : List (Int × Int)) (t : Int) : inJ (l ++ m) t ↔ inJ l t ∨ inJ m t := by
  unfold inJ
  constructor
  · rintro ⟨s, h, h2⟩
    rcases List.mem_append.1 h with h | h
    · exact .inl ⟨s, h, h2⟩
    · exact .inr ⟨s, h, h2⟩
  · rintro (⟨s, h, h2⟩ | ⟨s, h, h2⟩)
    · exact ⟨s, List.mem_append_left _ h, h2⟩
    · exact ⟨s, List.mem_append_right _ h, h2⟩
theorem NormJ.cons {x : Int × Int} {l : List (Int × Int)} (h : NormJ (x :: l)) : x.1 < x.2 ∧ (∀ y ∈ l, x.2 < y.1) ∧ NormJ l := by
  obtain ⟨h1, h2⟩ := h
  rw [List.pairwise_cons] at h2
  exact ⟨h1 x List.mem_cons_self, h2.1, fun s hs => h1 s (List.mem_cons_of_mem _ hs), h2.2⟩
theorem NormJ.mk {x : Int × Int} {l : List (Int × Int)} (h : x.1 < x.2) (h1 : ∀ y ∈ l, x.2 < y.1) (h2 : NormJ l) : NormJ (x :: l) :=
  ⟨fun s hs => by rcases List.mem_cons.1 hs with rfl | hs; exact h; exact h2.1 s hs, List.pairwise_cons.2 ⟨h1, h2.2⟩⟩
theorem NormJ.append {l m : List (Int × Int)} (h1 : NormJ l) (h2 : NormJ m) (h : ∀ x ∈ l, ∀ y ∈ m, x.2 < y.1) : NormJ (l ++ m) :=
  ⟨fun s hs => by rcases List.mem_append.1 hs with hs | hs; exact h1.1 s hs; exact h2.1 s hs, List.pairwise_append.2 ⟨h1.2, h2.2, h⟩⟩
theorem NormJ.nil : NormJ [] := ⟨fun s hs => (by cases hs), List.Pairwise.nil⟩
theorem NormJ.single {x : Int × Int} (h : x.1 < x.2) : NormJ [x] := NormJ.mk h (fun y hy => by cases hy) NormJ.nil
theorem NormJ.left {l m : List (Int × Int)} (h : NormJ (l ++ m)) : NormJ l ∧ NormJ m ∧ ∀ x ∈ l, ∀ y ∈ m, x.2 < y.1 := by
  obtain ⟨h1, h2⟩ := h
  rw [List.pairwise_append] at h2
  exact ⟨⟨fun s hs => h1 s (List.mem_append_left _ hs), h2.1⟩, ⟨fun s hs => h1 s (List.mem_append_right _ hs), h2.2.1⟩, h2.2.2⟩
/-- such spans are told by their times -/
theorem NormJ.unique : ∀ (l m : List (Int × Int)), NormJ l → NormJ m → (∀ t, inJ l t ↔ inJ m t) → l = m
  | [], [], _, _, _ => rfl
  | [], y :: m, _, hm, h => by
    have := (h y.1).2 ((inJ_cons _ _ _).2 (.inl ⟨Int.le_refl _, hm.cons.1⟩))
    exact absurd this (inJ_nil _)
  | x :: l, [], hl, _, h => by
    have := (h x.1).1 ((inJ_cons _ _ _).2 (.inl ⟨Int.le_refl _, hl.cons.1⟩))
    exact absurd this (inJ_nil _)
  | x :: l, y :: m, hl, hm, h => by
    obtain ⟨a1, a2, a3⟩ := hl.cons
    obtain ⟨b1, b2, b3⟩ := hm.cons
    have hx : ∀ t, inJ l t → x.2 < t := by
      rintro t ⟨s, hs, h1, h2⟩
      have := a2 s hs
      omega
    have hy : ∀ t, inJ m t → y.2 < t := by
      rintro t ⟨s, hs, h1, h2⟩
      have := b2 s hs
      omega
    have key : ∀ t, ((x.1 ≤ t ∧ t < x.2) ∨ inJ l t) ↔ ((y.1 ≤ t ∧ t < y.2) ∨ inJ m t) := fun t => by rw [← inJ_cons, ← inJ_cons]; exact h t
    have e1 : x.1 = y.1 := by
      have p := (key x.1).1 (.inl ⟨Int.le_refl _, a1⟩)
      have q := (key y.1).2 (.inl ⟨Int.le_refl _, b1⟩)
      have p' : y.1 ≤ x.1 := by
        rcases p with p | p
        · exact p.1
        · have := hy _ p; omega
      have q' : x.1 ≤ y.1 := by
        rcases q with q | q
        · exact q.1
        · have := hx _ q; omega
      omega
    have e2 : x.2 = y.2 := by
      rcases Int.lt_trichotomy x.2 y.2 with g | g | g
      · have := (key x.2).2 (.inl ⟨by omega, g⟩)
        rcases this with p | p
        · omega
        · have := hx _ p; omega
      · exact g
      · have := (key y.2).1 (.inl ⟨by omega, g⟩)
        rcases this with p | p
        · omega
        · have := hy _ p; omega
    have e : x = y := Prod.ext e1 e2
    subst e
    congr 1
    refine NormJ.unique l m a3 b3 fun t => ?_
    constructor
    · intro p
      have := hx t p
      rcases (key t).1 (.inr p) with q | q
      · omega
      · exact q
    · intro p
      have := hy t p
      rcases (key t).2 (.inr p) with q | q
      · omega
      · exact q
theorem stepJ_nil (s : Int × Int) : stepJ [] s = [s] := rfl
theorem stepJ_concat (l : List (Int × Int)) (o s : Int × Int) : stepJ (l ++ [o]) s = if s.1 ≤ o.2 then l ++ [(o.1, max o.2 s.2)] else l ++ [o, s] := by
  unfold stepJ
  rw [List.getLast?_concat]
  simp only
  split
  · simp
  · simp
theorem stepJ_norm {acc : List (Int × Int)} (h : NormJ acc) {s : Int × Int} (hs : s.1 < s.2) (hle : ∀ x ∈ acc, x.1 ≤ s.1) :
    NormJ (stepJ acc s) ∧ (∀ x ∈ stepJ acc s, x.1 ≤ s.1) ∧ ∀ t, inJ (stepJ acc s) t ↔ inJ acc t ∨ (s.1 ≤ t ∧ t < s.2) := by
  rcases List.eq_nil_or_concat acc with rfl | ⟨l, o, rfl⟩
  · rw [stepJ_nil]
    refine ⟨NormJ.single hs, fun x hx => ?_, fun t => ?_⟩
    · rcases List.mem_cons.1 hx with rfl | hx
      · exact Int.le_refl _
      · cases hx
    · rw [inJ_cons]; exact Or.comm
  · rw [List.concat_eq_append] at h hle ⊢
    obtain ⟨h1, h2, h3⟩ := h.left
    have ho := hle o (by simp)
    have ho2 := h2.1 o (by simp)
    rw [stepJ_concat]
    by_cases hc : s.1 ≤ o.2
    · rw [if_pos hc]
      refine ⟨h1.append (NormJ.single (by simp only; omega)) (fun x hx y hy => ?_), fun x hx => ?_, fun t => ?_⟩
      · obtain rfl : y = (o.1, max o.2 s.2) := by simpa using hy
        exact h3 x hx o (by simp)
      · rcases List.mem_append.1 hx with hx | hx
        · exact hle x (List.mem_append_left _ hx)
        · obtain rfl : x = (o.1, max o.2 s.2) := by simpa using hx
          exact ho
      · rw [inJ_append, inJ_append, inJ_cons, inJ_cons, or_assoc]
        have : ((o.1 ≤ t ∧ t < max o.2 s.2)) ↔ ((o.1 ≤ t ∧ t < o.2) ∨ (s.1 ≤ t ∧ t < s.2)) := by omega
        simp only [this, inJ_nil, or_false]
    · rw [if_neg hc]
      refine ⟨?_, fun x hx => ?_, fun t => ?_⟩
      · refine h1.append (NormJ.mk ho2 (fun y hy => ?_) (NormJ.single hs)) (fun x hx y hy => ?_)
        · obtain rfl : y = s := by simpa using hy
          omega
        · have := h3 x hx o (by simp)
          rcases List.mem_cons.1 hy with rfl | hy
          · exact this
          · obtain rfl : y = s := by simpa using hy
            omega
      · rcases List.mem_append.1 hx with hx | hx
        · exact hle x (List.mem_append_left _ hx)
        · rcases List.mem_cons.1 hx with rfl | hx
          · exact ho
          · obtain rfl : x = s := by simpa using hx
            exact Int.le_refl _
      · rw [inJ_append, inJ_append, inJ_cons, inJ_cons, inJ_cons]
        simp only [inJ_nil, or_false, or_assoc]
theorem foldl_norm : ∀ (l acc : List (Int × Int)), NormJ acc → (∀ s ∈ l, s.1 < s.2) → l.Pairwise (fun x y => x.1 ≤ y.1) → (∀ x ∈ acc, ∀ s ∈ l, x.1 ≤ s.1) → NormJ (l.foldl stepJ acc) ∧ ∀ t, inJ (l.foldl stepJ acc) t ↔ inJ acc t ∨ inJ l t
  | [], acc, h, _, _, _ => ⟨h, fun t => by simp [inJ_nil]⟩
  | s :: l, acc, h, hp, hs, ha => by
    rw [List.pairwise_cons] at hs
    obtain ⟨a, b, c⟩ := stepJ_norm h (hp s List.mem_cons_self) (fun x hx => ha x hx s List.mem_cons_self)
    obtain ⟨d, e⟩ := foldl_norm l (stepJ acc s) a (fun x hx => hp x (List.mem_cons_of_mem _ hx)) hs.2 (fun x hx y hy => Int.le_trans (b x hx) (hs.1 y hy))
    refine ⟨d, fun t => ?_⟩
    rw [List.foldl_cons, e t, c t, inJ_cons, or_assoc]
theorem foldJ_norm {l : List (Int × Int)} (hp : ∀ s ∈ l, s.1 < s.2) (hs : l.Pairwise fun x y => x.1 ≤ y.1) : NormJ (foldJ l) ∧ ∀ t, inJ (foldJ l) t ↔ inJ l t := by
  obtain ⟨a, b⟩ := foldl_norm l [] NormJ.nil hp hs (fun x hx => by cases hx)
  exact ⟨a, fun t => by unfold foldJ; rw [b t]; simp [inJ_nil]⟩
theorem inJ_perm {l m : List (Int × Int)} (h : l.Perm m) (t : Int) : inJ l t ↔ inJ m t := by
  unfold inJ
  constructor
  · rintro ⟨s, a, b⟩; exact ⟨s, h.mem_iff.1 a, b⟩
  · rintro ⟨s, a, b⟩; exact ⟨s, h.mem_iff.2 a, b⟩
/-- one round of the reference's insertion -/
def inR (st : List (Int × Int) × (Int × Int) × Bool) (o : Int × Int) : List (Int × Int) × (Int × Int) × Bool :=
  if o.2 < st.2.1.1 then (st.1 ++ [o], st.2.1, st.2.2)
  else if st.2.1.2 < o.1 then ((if st.2.2 then st.1 else st.1 ++ [st.2.1]) ++ [o], st.2.1, true)
  else (st.1, (min st.2.1.1 o.1, max st.2.1.2 o.2), st.2.2)
def endR (st : List (Int × Int) × (Int × Int) × Bool) : List (Int × Int) := if st.2.2 then st.1 else st.1 ++ [st.2.1]
def insR (out : List (Int × Int)) (s : Int × Int) : List (Int × Int) := endR (out.foldl inR ([], s, false))
theorem inR_norm : ∀ (post next : List (Int × Int)) (s : Int × Int) (done : Bool), NormJ next → NormJ post → (∀ x ∈ next, ∀ o ∈ post, x.2 < o.1) → s.1 < s.2 →
    (done = true → s ∈ next ∧ ∀ o ∈ post, s.2 < o.1) → (done = false → ∀ x ∈ next, x.2 < s.1) →
    NormJ (endR (post.foldl inR (next, s, done))) ∧ ∀ t, inJ (endR (post.foldl inR (next, s, done))) t ↔ inJ next t ∨ (s.1 ≤ t ∧ t < s.2) ∨ inJ post t
  | [], next, s, done, hn, hp, hnp, hs, hd, hu => by
    unfold endR
    simp only [List.foldl_nil]
    cases done with
    | true =>
      simp only [if_true]
      refine ⟨hn, fun t => ?_⟩
      have hm := (hd rfl).1
      constructor
      · exact fun h => .inl h
      · rintro (h | h | h)
        · exact h
        · exact ⟨s, hm, h⟩
        · exact absurd h (inJ_nil _)
    | false =>
      simp only [Bool.false_eq_true, if_false]
      refine ⟨hn.append (NormJ.single hs) (fun x hx y hy => ?_), fun t => ?_⟩
      · obtain rfl : y = s := by simpa using hy
        exact hu rfl x hx
      · rw [inJ_append, inJ_cons]
  | o :: post, next, s, done, hn, hp, hnp, hs, hd, hu => by
    obtain ⟨p1, p2, p3⟩ := hp.cons
    have hno : ∀ x ∈ next, x.2 < o.1 := fun x hx => hnp x hx o List.mem_cons_self
    have hnp' : ∀ x ∈ next, ∀ y ∈ post, x.2 < y.1 := fun x hx y hy => hnp x hx y (List.mem_cons_of_mem _ hy)
    have he : inR (next, s, done) o = if o.2 < s.1 then (next ++ [o], s, done) else if s.2 < o.1 then ((if done then next else next ++ [s]) ++ [o], s, true) else (next, (min s.1 o.1, max s.2 o.2), done) := rfl
    rw [List.foldl_cons, he]
    clear he
    by_cases h1 : o.2 < s.1
    · rw [if_pos h1]
      have hdf : done = false := by
        cases done with
        | false => rfl
        | true => have := (hd rfl).2 o List.mem_cons_self; omega
      subst hdf
      obtain ⟨a, b⟩ := inR_norm post (next ++ [o]) s false (hn.append (NormJ.single p1) (fun x hx y hy => by rw [one_memJ hy]; exact hno x hx)) p3
        (fun x hx y hy => by
          rcases List.mem_append.1 hx with hx | hx
          · exact hnp' x hx y hy
          · obtain rfl : x = o := by simpa using hx
            exact p2 y hy) hs (fun h => by cases h) (fun _ x hx => by
          rcases List.mem_append.1 hx with hx | hx
          · exact hu rfl x hx
          · obtain rfl : x = o := by simpa using hx
            exact h1)
      refine ⟨a, fun t => ?_⟩
      rw [b t, inJ_append, inJ_cons, inJ_cons]
      simp only [inJ_nil, or_false]
      constructor
      · rintro ((h | h) | h | h)
        · exact .inl h
        · exact .inr (.inr (.inl h))
        · exact .inr (.inl h)
        · exact .inr (.inr (.inr h))
      · rintro (h | h | h | h)
        · exact .inl (.inl h)
        · exact .inr (.inl h)
        · exact .inl (.inr h)
        · exact .inr (.inr h)
    · rw [if_neg h1]
      by_cases h2 : s.2 < o.1
      · rw [if_pos h2]
        cases done with
        | true =>
          simp only [if_true]
          obtain ⟨hm, hpo⟩ := hd rfl
          obtain ⟨a, b⟩ := inR_norm post (next ++ [o]) s true (hn.append (NormJ.single p1) (fun x hx y hy => by rw [one_memJ hy]; exact hno x hx)) p3
            (fun x hx y hy => by
              rcases List.mem_append.1 hx with hx | hx
              · exact hnp' x hx y hy
              · obtain rfl : x = o := by simpa using hx
                exact p2 y hy) hs (fun _ => ⟨List.mem_append_left _ hm, fun y hy => hpo y (List.mem_cons_of_mem _ hy)⟩) (fun h => by cases h)
          refine ⟨a, fun t => ?_⟩
          rw [b t, inJ_append, inJ_cons, inJ_cons]
          simp only [inJ_nil, or_false]
          constructor
          · rintro ((h | h) | h | h)
            · exact .inl h
            · exact .inr (.inr (.inl h))
            · exact .inr (.inl h)
            · exact .inr (.inr (.inr h))
          · rintro (h | h | h | h)
            · exact .inl (.inl h)
            · exact .inr (.inl h)
            · exact .inl (.inr h)
            · exact .inr (.inr h)
        | false =>
          simp only [Bool.false_eq_true, if_false, List.append_assoc, List.singleton_append]
          obtain ⟨a, b⟩ := inR_norm post (next ++ [s, o]) s true (hn.append (NormJ.mk hs (fun y hy => by rw [one_memJ hy]; exact h2) (NormJ.single p1)) (fun x hx y hy => by
              rcases List.mem_cons.1 hy with rfl | hy
              · exact hu rfl x hx
              · obtain rfl : y = o := by simpa using hy
                exact hno x hx)) p3
            (fun x hx y hy => by
              have hy2 := p2 y hy
              rcases List.mem_append.1 hx with hx | hx
              · exact hnp' x hx y hy
              · rcases List.mem_cons.1 hx with rfl | hx
                · omega
                · obtain rfl : x = o := by simpa using hx
                  exact hy2) hs (fun _ => ⟨by simp, fun y hy => by have := p2 y hy; omega⟩) (fun h => by cases h)
          refine ⟨a, fun t => ?_⟩
          rw [b t, inJ_append, inJ_cons, inJ_cons, inJ_cons]
          simp only [inJ_nil, or_false]
          constructor
          · rintro ((h | h | h) | h | h)
            · exact .inl h
            · exact .inr (.inl h)
            · exact .inr (.inr (.inl h))
            · exact .inr (.inl h)
            · exact .inr (.inr (.inr h))
          · rintro (h | h | h | h)
            · exact .inl (.inl h)
            · exact .inr (.inl h)
            · exact .inl (.inr (.inr h))
            · exact .inr (.inr h)
      · rw [if_neg h2]
        have hdf : done = false := by
          cases done with
          | false => rfl
          | true => have := (hd rfl).2 o List.mem_cons_self; omega
        subst hdf
        obtain ⟨a, b⟩ := inR_norm post next (min s.1 o.1, max s.2 o.2) false hn p3 hnp' (by simp only; omega) (fun h => by cases h) (fun _ x hx => by have := hu rfl x hx; have := hno x hx; simp only; omega)
        refine ⟨a, fun t => ?_⟩
        rw [b t, inJ_cons]
        have : (min s.1 o.1 ≤ t ∧ t < max s.2 o.2) ↔ ((s.1 ≤ t ∧ t < s.2) ∨ (o.1 ≤ t ∧ t < o.2)) := by omega
        simp only [this, or_assoc]
theorem insR_norm {out : List (Int × Int)} (h : NormJ out) {s : Int × Int} (hs : s.1 < s.2) : NormJ (insR out s) ∧ ∀ t, inJ (insR out s) t ↔ (s.1 ≤ t ∧ t < s.2) ∨ inJ out t := by
  obtain ⟨a, b⟩ := inR_norm out [] s false NormJ.nil h (fun x hx => by cases hx) hs (fun h => by cases h) (fun _ x hx => by cases hx)
  exact ⟨a, fun t => by unfold insR; rw [b t]; simp [inJ_nil]⟩
def refJ (l : List (Int × Int)) : List (Int × Int) := l.foldl insR []
theorem refJ_norm {l : List (Int × Int)} (hp : ∀ s ∈ l, s.1 < s.2) : NormJ (refJ l) ∧ ∀ t, inJ (refJ l) t ↔ inJ l t := by
  have : ∀ (l acc : List (Int × Int)), NormJ acc → (∀ s ∈ l, s.1 < s.2) → NormJ (l.foldl insR acc) ∧ ∀ t, inJ (l.foldl insR acc) t ↔ inJ acc t ∨ inJ l t := by
    intro l
    induction l with
    | nil => intro acc h _; exact ⟨h, fun t => by simp [inJ_nil]⟩
    | cons s l ih =>
      intro acc h hp
      obtain ⟨a, b⟩ := insR_norm h (hp s List.mem_cons_self)
      obtain ⟨c, d⟩ := ih (insR acc s) a (fun x hx => hp x (List.mem_cons_of_mem _ hx))
      refine ⟨c, fun t => ?_⟩
      rw [List.foldl_cons, d t, b t, inJ_cons]
      constructor
      · rintro ((h | h) | h)
        · exact .inr (.inl h)
        · exact .inl h
        · exact .inr (.inr h)
      · rintro (h | h | h)
        · exact .inl (.inr h)
        · exact .inl (.inl h)
        · exact .inr h
  obtain ⟨a, b⟩ := this l [] NormJ.nil hp
  exact ⟨a, fun t => by unfold refJ; rw [b t]; simp [inJ_nil]⟩
/-- both ways to join tell the same -/
theorem foldJ_refJ {l l' : List (Int × Int)} (h : l'.Perm l) (hp : ∀ s ∈ l, s.1 < s.2) (hs : l'.Pairwise fun x y => x.1 ≤ y.1) : foldJ l' = refJ l := by
  obtain ⟨a, b⟩ := foldJ_norm (fun s hs => hp s (h.mem_iff.1 hs)) hs
  obtain ⟨c, d⟩ := refJ_norm hp
  exact NormJ.unique _ _ a c fun t => by rw [b t, d t, inJ_perm h t]
theorem refJ_succ (l : List (Int × Int)) (k : Nat) (h : k < l.length) : refJ (l.take (k + 1)) = insR (refJ (l.take k)) (l.getD k (0, 0)) := by
  rw [List.take_succ_eq_append_getElem h]
  unfold refJ
  rw [List.foldl_append]
  simp [List.getD, h]
theorem cutsOf_lt (l : List (Int × Int)) : ∀ s ∈ cutsOf l, s.1 < s.2 := by
  intro s hs
  unfold cutsOf at hs
  rw [List.mem_filterMap] at hs
  obtain ⟨x, _, hx⟩ := hs
  split at hx
  · cases hx
  · cases hx
    simp only
    omega
end Go.Proofs.Ythdljigcfhjikaa
