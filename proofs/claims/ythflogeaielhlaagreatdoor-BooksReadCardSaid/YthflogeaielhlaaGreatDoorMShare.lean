/- Contracts of the functions of layer 12 (share). No condition but that arguments fit their kinds. -/
import Derived.Test.YthflogeaielhlaaGreatDoorMaa
import Derived.Test.YthflogeaielhlaaGreatDoorTxt
import Derived.Test.YthflogeaielhlaaGreatDoorMab
import Derived.OpenShut
import Derived.Outline
import Derived.WalkLawsBesides
import Derived.RegionTactic
import Derived.BigRegion
import Derived.Deep.RegionHeld3
import Derived.Deep.DrawnRows
import Derived.Lib.Hide
import Derived.Deep.DeepCutAuto
import Derived.IntWalk
namespace Go.Proofs.YthflogeaielhlaaGreatDoor
set_option linter.unusedVariables false
open Go.ChangeShapes Go.WideShapes Go.ChangeAt Go.RowKit
attribute [local go_sem ↓] Go.wp_at_zero Go.wp_at_succ comesTo_value_eq comesTo_skip_eq comesTo_enter_eq

theorem counts_any (n : Int) (w : World) :
    Calls Tryz.prog 59 #[.int .i64 n] w fun e w' => e = .returned (.int .i64 (cntI n)) ∧ w = w' := by
  go_enter Tryz.func59, Tryz.ntmps59
  go_wp2
  all_goals go_ret
  all_goals exact ⟨ret_int (by unfold cntI; split <;> (try split) <;> (try split at *) <;> omega), rfl⟩

set_option maxHeartbeats 1000000 in
theorem counted_any (u s : Int) (w : World) :
    Calls Tryz.prog 56 #[.agg #[.int .i64 u, .int .i64 s]] w fun e w' => e = .returned (.agg #[.int .i64 (cntI u), .int .i64 (clampI s)]) ∧ Below w.heap.size w w' := by
  go_enter Tryz.func56, Tryz.ntmps56
  go_wp2
  go_region_held3 (fun w' => w'.cell? ⟨w.heap.size, 0, none⟩ = some (.int .i64 u) ∧ w'.cell? ⟨w.heap.size, 1, none⟩ = some (.int .i64 s)) (go_keep)
    (first | (go_at_call 52; refine (clamp_any _ _).mono ?_; rintro e w' ⟨rfl, rfl⟩) | (go_at_call 59; refine (counts_any _ _).mono ?_; rintro e w' ⟨rfl, rfl⟩))
  go_wp2
  exact bodyPost_ret (v := .agg #[.int .i64 (cntI u), .int .i64 (clampI s)]) (by simp [results, Tryz.results56, go_sem]) rfl ⟨rfl, (by repeat (first | exact Below.refl _ _ | assumption | refine below_drewN ?_ _ | refine Below.drew ?_ | refine below_alloc ?_ _ | refine Below.alloc ?_ (by first | omega | (simp; done) | (simp; omega)) _ | refine Below.setCell ?_ (Below.size (by assumption)) _ | refine Below.setCell ?_ (by first | omega | (simp; done) | (simp; omega)) _ | (refine Below.trans ?_ (Below.mono (by assumption) (by first | omega | (simp; done) | (simp; omega)))) | refine below_next ?_ (by assumption)))⟩

set_option maxHeartbeats 2000000 in
theorem at_any (u s n h : Int) (w : World) :
    Calls Tryz.prog 45 #[.agg #[.int .i64 u, .int .i64 s], .int .i64 n, .int .i64 h] w fun e w' => e = .returned (.agg #[.int .i64 (atI u s n h).1, .int .i64 (atI u s n h).2]) ∧ Below w.heap.size w w' := by
  have hH : halfI h = if clampI h < 1 then 1099511627776 else clampI h := rfl
  have hbH := halfI_bd h
  have hbs := clampI_bd s
  have hbn := clampI_bd n
  have hbu := cntI_bd u
  have hbh := clampI_bd h
  have E := Lib.hid (show atI u s n h = (shI (cntI u) (kI (clampI s) (clampI n) (halfI h)), clampI s + kI (clampI s) (clampI n) (halfI h) * halfI h) from rfl)
  generalize atI u s n h = R at *
  by_cases h2 : clampI n ≤ clampI s
  · have hR : R = (cntI u, clampI s) := by rw [E.out]; unfold kI; rw [if_pos h2, shI_zero]; simp
    clear E
    subst hR
    clear hH hbH
    go_enter Tryz.func45, Tryz.ntmps45
    go_wp2_with fail
    refine (counted_any _ _ _).mono ?_
    rintro e w1 ⟨rfl, hb1⟩
    obtain ⟨hc, hf⟩ := bcell hb1
    have hz : w.heap.size + 1 < w1.heap.size := by have := hb1.size; simp at this; omega
    have hbel : Below w.heap.size w w1 := Below.trans (by exact (by repeat (first | exact Below.refl _ _ | assumption | refine below_drewN ?_ _ | refine Below.drew ?_ | refine below_alloc ?_ _ | refine Below.alloc ?_ (by first | omega | (simp; done) | (simp; omega)) _ | refine Below.setCell ?_ (Below.size (by assumption)) _ | refine Below.setCell ?_ (by first | omega | (simp; done) | (simp; omega)) _ | (refine Below.trans ?_ (Below.mono (by assumption) (by first | omega | (simp; done) | (simp; omega)))) | refine below_next ?_ (by assumption)))) (hb1.mono (by simp; omega))
    have c0 : w1.cell? ⟨w.heap.size + 1, 0, none⟩ = some (.int .i64 0) := (hc _ 0 (by simp)).trans (by go_simp)
    have c1 : w1.cell? ⟨w.heap.size + 1, 1, none⟩ = some (.int .i64 0) := (hc _ 1 (by simp)).trans (by go_simp)
    have c2 : w1.frozen? ⟨w.heap.size + 1, 0, none⟩ = false := (hf _ 0 (by simp)).trans (by go_simp)
    have c3 : w1.frozen? ⟨w.heap.size + 1, 1, none⟩ = false := (hf _ 1 (by simp)).trans (by go_simp)
    clear hc hf hb1
    by_cases h1 : clampI h < 1
    all_goals
      go_wp2_with (first | (go_at_call 52; refine (clamp_any _ _).mono ?_; rintro e w' ⟨rfl, rfl⟩))
      exact bodyPost_ret (v := .agg #[.int .i64 (cntI u), .int .i64 (clampI s)]) (by simp only [results, Tryz.results45]; go_simp) rfl ⟨rfl, (by repeat (first | exact Below.refl _ _ | assumption | refine below_drewN ?_ _ | refine Below.drew ?_ | refine below_alloc ?_ _ | refine Below.alloc ?_ (by first | omega | (simp; done) | (simp; omega)) _ | refine Below.setCell ?_ (Below.size (by assumption)) _ | refine Below.setCell ?_ (by first | omega | (simp; done) | (simp; omega)) _ | (refine Below.trans ?_ (Below.mono (by assumption) (by first | omega | (simp; done) | (simp; omega)))) | refine below_next ?_ (by assumption)))⟩
  · have hk := kI_bd (S := clampI s) (N := clampI n) (H := halfI h) hbs.1 hbn.2 hbs.2 hbH.1
    have e1 : kI (clampI s) (clampI n) (halfI h) = (clampI n - clampI s) / halfI h := by unfold kI; rw [if_neg h2]
    rw [e1] at hk E
    have K := Lib.hid hk
    clear hk e1
    have g : ∀ H : Int, halfI h = H → (0 ≤ (clampI n - clampI s) / H) ∧ ((clampI n - clampI s) / H ≤ 1099511627776) ∧ 0 ≤ (clampI n - clampI s) / H * H ∧ (clampI n - clampI s) / H * H ≤ 1099511627776 ∧ R = (shI (cntI u) ((clampI n - clampI s) / H), clampI s + (clampI n - clampI s) / H * H) := by
      rintro H rfl
      have := K.out
      have hE := E.out
      clear E K
      refine ⟨this.1, this.2.1, this.2.2.1, ?_, hE⟩
      omega
    have G := Lib.hid g
    clear g K E
    have hgt : clampI s < clampI n := by omega
    by_cases h1 : clampI h < 1
    · have hh : halfI h = 1099511627776 := by rw [hH, if_pos h1]
      obtain ⟨k0, k1, k2, k3, hR⟩ := G.out _ hh
      clear G hH hbH hh h2
      subst hR
      go_enter Tryz.func45, Tryz.ntmps45
      go_wp2_with fail
      refine (counted_any _ _ _).mono ?_
      rintro e w1 ⟨rfl, hb1⟩
      obtain ⟨hc, hf⟩ := bcell hb1
      have hz : w.heap.size + 1 < w1.heap.size := by have := hb1.size; simp at this; omega
      have hbel : Below w.heap.size w w1 := Below.trans (by exact (by repeat (first | exact Below.refl _ _ | assumption | refine below_drewN ?_ _ | refine Below.drew ?_ | refine below_alloc ?_ _ | refine Below.alloc ?_ (by first | omega | (simp; done) | (simp; omega)) _ | refine Below.setCell ?_ (Below.size (by assumption)) _ | refine Below.setCell ?_ (by first | omega | (simp; done) | (simp; omega)) _ | (refine Below.trans ?_ (Below.mono (by assumption) (by first | omega | (simp; done) | (simp; omega)))) | refine below_next ?_ (by assumption)))) (hb1.mono (by simp; omega))
      have c0 : w1.cell? ⟨w.heap.size + 1, 0, none⟩ = some (.int .i64 0) := (hc _ 0 (by simp)).trans (by go_simp)
      have c1 : w1.cell? ⟨w.heap.size + 1, 1, none⟩ = some (.int .i64 0) := (hc _ 1 (by simp)).trans (by go_simp)
      have c2 : w1.frozen? ⟨w.heap.size + 1, 0, none⟩ = false := (hf _ 0 (by simp)).trans (by go_simp)
      have c3 : w1.frozen? ⟨w.heap.size + 1, 1, none⟩ = false := (hf _ 1 (by simp)).trans (by go_simp)
      clear hc hf hb1
      go_wp2_with (first | (go_at_call 52; refine (clamp_any _ _).mono ?_; rintro e w' ⟨rfl, rfl⟩))
      go_region
      all_goals go_wp2
      all_goals exact bodyPost_ret (v := .agg #[.int .i64 (shI (cntI u) ((clampI n - clampI s) / 1099511627776)), .int .i64 (clampI s + (clampI n - clampI s) / 1099511627776 * 1099511627776)]) (by simp only [results, Tryz.results45]; go_simp; try (unfold shI; rw [Nat.min_eq_left (by omega)])) rfl ⟨rfl, (by repeat (first | exact Below.refl _ _ | assumption | refine below_drewN ?_ _ | refine Below.drew ?_ | refine below_alloc ?_ _ | refine Below.alloc ?_ (by first | omega | (simp; done) | (simp; omega)) _ | refine Below.setCell ?_ (Below.size (by assumption)) _ | refine Below.setCell ?_ (by first | omega | (simp; done) | (simp; omega)) _ | (refine Below.trans ?_ (Below.mono (by assumption) (by first | omega | (simp; done) | (simp; omega)))) | refine below_next ?_ (by assumption)))⟩
    · have hh : halfI h = clampI h := by rw [hH, if_neg h1]
      obtain ⟨k0, k1, k2, k3, hR⟩ := G.out _ hh
      clear G hH hbH hh h2
      subst hR
      have h1' : 1 ≤ clampI h := by omega
      go_enter Tryz.func45, Tryz.ntmps45
      go_wp2_with fail
      refine (counted_any _ _ _).mono ?_
      rintro e w1 ⟨rfl, hb1⟩
      obtain ⟨hc, hf⟩ := bcell hb1
      have hz : w.heap.size + 1 < w1.heap.size := by have := hb1.size; simp at this; omega
      have hbel : Below w.heap.size w w1 := Below.trans (by exact (by repeat (first | exact Below.refl _ _ | assumption | refine below_drewN ?_ _ | refine Below.drew ?_ | refine below_alloc ?_ _ | refine Below.alloc ?_ (by first | omega | (simp; done) | (simp; omega)) _ | refine Below.setCell ?_ (Below.size (by assumption)) _ | refine Below.setCell ?_ (by first | omega | (simp; done) | (simp; omega)) _ | (refine Below.trans ?_ (Below.mono (by assumption) (by first | omega | (simp; done) | (simp; omega)))) | refine below_next ?_ (by assumption)))) (hb1.mono (by simp; omega))
      have c0 : w1.cell? ⟨w.heap.size + 1, 0, none⟩ = some (.int .i64 0) := (hc _ 0 (by simp)).trans (by go_simp)
      have c1 : w1.cell? ⟨w.heap.size + 1, 1, none⟩ = some (.int .i64 0) := (hc _ 1 (by simp)).trans (by go_simp)
      have c2 : w1.frozen? ⟨w.heap.size + 1, 0, none⟩ = false := (hf _ 0 (by simp)).trans (by go_simp)
      have c3 : w1.frozen? ⟨w.heap.size + 1, 1, none⟩ = false := (hf _ 1 (by simp)).trans (by go_simp)
      clear hc hf hb1
      go_wp2_with (first | (go_at_call 52; refine (clamp_any _ _).mono ?_; rintro e w' ⟨rfl, rfl⟩))
      go_region
      all_goals go_wp2
      all_goals exact bodyPost_ret (v := .agg #[.int .i64 (shI (cntI u) ((clampI n - clampI s) / clampI h)), .int .i64 (clampI s + (clampI n - clampI s) / clampI h * clampI h)]) (by simp only [results, Tryz.results45]; go_simp; try rfl) rfl ⟨rfl, (by repeat (first | exact Below.refl _ _ | assumption | refine below_drewN ?_ _ | refine Below.drew ?_ | refine below_alloc ?_ _ | refine Below.alloc ?_ (by first | omega | (simp; done) | (simp; omega)) _ | refine Below.setCell ?_ (Below.size (by assumption)) _ | refine Below.setCell ?_ (by first | omega | (simp; done) | (simp; omega)) _ | (refine Below.trans ?_ (Below.mono (by assumption) (by first | omega | (simp; done) | (simp; omega)))) | refine below_next ?_ (by assumption)))⟩

end Go.Proofs.YthflogeaielhlaaGreatDoor
