/- The walk of PrioAges (layer 13). No condition but that arguments fit their kinds. -/
import Derived.Test.YtnmhdodcfbjalaaPrioOne
import Derived.Test.YtnmhdodcfbjalaaMask
import Derived.Deep.CutRange
namespace Go.Proofs.Ytnmhdodcfbjalaa
set_option linter.unusedVariables false
open Go.ChangeShapes Go.WideShapes Go.ChangeAt Go.RowKit
attribute [local go_sem ↓] Go.wp_at_zero Go.wp_at_succ comesTo_value_eq comesTo_skip_eq comesTo_enter_eq

theorem ageI_mono {s t : Int} (h : clampI s ≤ clampI t) : ageI s ≤ ageI t := by unfold ageI minI; split <;> split <;> omega
theorem widI_mono {s t : Int} (h : s ≤ t) : widI s ≤ widI t := by unfold widI minI maxI; repeat' split; all_goals omega
theorem facI_mono {s t : Int} (h : s ≤ t) : facI s ≤ facI t := by unfold facI minI maxI; repeat' split; all_goals omega
theorem nicI_mono {s t : Int} (h : s ≤ t) : nicI s ≤ nicI t := by unfold nicI minI maxI; repeat' split; all_goals omega
theorem clampI_mono {s t : Int} (h : s ≤ t) : clampI s ≤ clampI t := by unfold clampI; repeat' split; all_goals omega
theorem ofI_mono {a b c d t n u k t' n' u' k' : Int} (ht : t ≤ t') (hn : n ≤ n') (hu : u ≤ u') (hk : k' ≤ k) : ofI a b c d t n u k ≤ ofI a b c d t' n' u' k' := by
  unfold ofI
  by_cases h : rightB a b c d = true
  · rw [if_pos h, if_pos h]
    obtain ⟨⟨a0, _⟩, ⟨b0, _⟩, ⟨c0, _⟩, d0, _⟩ := (rightB_iff a b c d).1 h
    have h1 := Int.mul_le_mul_of_nonneg_left (ageI_mono (clampI_mono ht)) a0
    have h2 := Int.mul_le_mul_of_nonneg_left (widI_mono hn) b0
    have h3 := Int.mul_le_mul_of_nonneg_left (facI_mono hu) c0
    have h4 := Int.mul_le_mul_of_nonneg_left (show -nicI k ≤ -nicI k' by have := nicI_mono hk; omega) d0
    omega
  · rw [if_neg h, if_neg h]; exact Int.le_refl _

set_option maxRecDepth 100000 in
set_option maxHeartbeats 2000000 in
theorem ages_walk (a b c d t n u k m0 m1 m2 m3 : Int) (w : World) :
    Calls Try.prog 12 #[.agg #[.int .i64 a, .int .i64 b, .int .i64 c, .int .i64 d], .agg #[.int .i64 t, .int .i64 n, .int .i64 u, .int .i64 k], .agg #[.int .i64 m0, .int .i64 m1, .int .i64 m2, .int .i64 m3]] w fun e w' => e = .returned (.bool true) ∧ Below w.heap.size w w' := by
  have e0 := mask_4095 m0
  have e1 := mask_63 m1
  have e2 := mask_1023 m2
  have e3 := mask_63 m3
  have b0 : 0 ≤ m0 % 4096 ∧ m0 % 4096 ≤ 4095 := by omega
  have b1 : 0 ≤ m1 % 64 ∧ m1 % 64 ≤ 63 := by omega
  have b2 : 0 ≤ m2 % 1024 ∧ m2 % 1024 ≤ 1023 := by omega
  have b3 : 0 ≤ m3 % 64 ∧ m3 % 64 ≤ 63 := by omega
  generalize m0 % 4096 = x0 at *
  generalize m1 % 64 = x1 at *
  generalize m2 % 1024 = x2 at *
  generalize m3 % 64 = x3 at *
  have k1 := Lib.hid (fun W => of_any a b c d t n u k W)
  have k2 := Lib.hid (fun t' n' u' k' W => of_any a b c d t' n' u' k' W)
  have k3 := Lib.hid (fun W => right_any a b c d W)
  have HM := Lib.hid (fun t' n' u' k' h1 h2 h3 h4 => ofI_mono (a := a) (b := b) (c := c) (d := d) (t := t) (n := n) (u := u) (k := k) (t' := t') (n' := n') (u' := u') (k' := k') h1 h2 h3 h4)
  have HZ := Lib.hid (show rightB a b c d = false → ofI a b c d t n u k = 0 from fun h => by unfold ofI; rw [h]; rfl)
  generalize ofI a b c d t n u k = V at *
  generalize rightB a b c d = R at *
  go_enter Try.func12, Try.ntmps12
  go_wp2_with fail
  refine (k1.out _).mono ?_
  rintro e w1 ⟨rfl, hb1⟩
  obtain ⟨hc, hf⟩ := bcell hb1
  have HB := Lib.hid (show Below w.heap.size w w1 from Below.trans (by exact (by repeat (first | exact Below.refl _ _ | assumption | refine below_drewN ?_ _ | refine Below.drew ?_ | refine below_alloc ?_ _ | refine Below.alloc ?_ (by first | omega | (simp; done) | (simp; omega)) _ | refine Below.setCell ?_ (Below.size (by assumption)) _ | refine Below.setCell ?_ (by first | omega | (simp; done) | (simp; omega)) _ | (refine Below.trans ?_ (Below.mono (by assumption) (by first | omega | (simp; done) | (simp; omega)))) | refine below_next ?_ (by assumption)))) (hb1.mono (by simp; omega)))
  have l1 : w.heap.size + 2 < w1.heap.size := by have := hb1.size; simp at this; omega
  have f0 : w1.cell? ⟨w.heap.size + 1, 0, none⟩ = some (.int .i64 t) := (hc _ 0 (by first | (simp; done) | (simp; omega))).trans (by go_simp)
  have f1 : w1.cell? ⟨w.heap.size + 1, 1, none⟩ = some (.int .i64 n) := (hc _ 1 (by first | (simp; done) | (simp; omega))).trans (by go_simp)
  have f2 : w1.cell? ⟨w.heap.size + 1, 2, none⟩ = some (.int .i64 u) := (hc _ 2 (by first | (simp; done) | (simp; omega))).trans (by go_simp)
  have f3 : w1.cell? ⟨w.heap.size + 1, 3, none⟩ = some (.int .i64 k) := (hc _ 3 (by first | (simp; done) | (simp; omega))).trans (by go_simp)
  have a0 : w1.cell? ⟨w.heap.size, 0, none⟩ = some (.int .i64 a) := (hc _ 0 (by first | (simp; done) | (simp; omega))).trans (by go_simp)
  have a1 : w1.cell? ⟨w.heap.size, 1, none⟩ = some (.int .i64 b) := (hc _ 1 (by first | (simp; done) | (simp; omega))).trans (by go_simp)
  have a2 : w1.cell? ⟨w.heap.size, 2, none⟩ = some (.int .i64 c) := (hc _ 2 (by first | (simp; done) | (simp; omega))).trans (by go_simp)
  have a3 : w1.cell? ⟨w.heap.size, 3, none⟩ = some (.int .i64 d) := (hc _ 3 (by first | (simp; done) | (simp; omega))).trans (by go_simp)
  have h0 : w1.cell? ⟨w.heap.size + 2, 0, none⟩ = some (.int .i64 m0) := (hc _ 0 (by first | (simp; done) | (simp; omega))).trans (by go_simp)
  have h1 : w1.cell? ⟨w.heap.size + 2, 1, none⟩ = some (.int .i64 m1) := (hc _ 1 (by first | (simp; done) | (simp; omega))).trans (by go_simp)
  have h2 : w1.cell? ⟨w.heap.size + 2, 2, none⟩ = some (.int .i64 m2) := (hc _ 2 (by first | (simp; done) | (simp; omega))).trans (by go_simp)
  have h3 : w1.cell? ⟨w.heap.size + 2, 3, none⟩ = some (.int .i64 m3) := (hc _ 3 (by first | (simp; done) | (simp; omega))).trans (by go_simp)
  clear hc hf hb1 k1
  have l2 : w.heap.size + 1 < w1.heap.size := by omega
  have l3 : w.heap.size < w1.heap.size := by omega
  go_upto_region 3 with fail
  go_cut [20] (fun s wx => ∃ B : Bool, s = .bool B ∧ (B = true → 0 ≤ t ∧ t < 1099511627776) ∧ wx = w1.alloc (.cells #[.int .i64 t, .int .i64 n, .int .i64 u, .int .i64 k] 71))
  case first =>
    go_wp2_with fail
    all_goals go_meet
    all_goals (first | exact ⟨_, rfl, (fun h => ⟨by omega, by simpa using h⟩), rfl⟩ | exact ⟨_, rfl, (fun h => by cases h), rfl⟩)
  case rest =>
  obtain ⟨B0, rfl, hB0, rfl⟩ := hcut
  have HB0 := Lib.hid hB0
  clear hB0
  go_upto_if 20 with fail
  go_cut [] (fun wx => ∃ t', t ≤ t' ∧ wx = w1.alloc (.cells #[.int .i64 t', .int .i64 n, .int .i64 u, .int .i64 k] 71))
  case first =>
    cases B0 with
    | true =>
      obtain ⟨c1, c2⟩ := HB0.out rfl
      go_wp2_with fail
      go_meet
      exact ⟨t + x0, by omega, rfl⟩
    | false =>
      go_wp2_with fail
      go_meet
      exact ⟨t, by omega, rfl⟩
  case rest =>
  obtain ⟨t', r0, rfl⟩ := hcut
  have R0 := Lib.hid r0
  clear r0 HB0
  go_upto_region 5 with fail
  go_cut [35] (fun s wx => ∃ B : Bool, s = .bool B ∧ (B = true → -1000 < n ∧ n < 1000) ∧ wx = w1.alloc (.cells #[.int .i64 t', .int .i64 n, .int .i64 u, .int .i64 k] 71))
  case first =>
    go_wp2_with fail
    all_goals go_meet
    all_goals (first | exact ⟨_, rfl, (fun h => ⟨by omega, by simpa using h⟩), rfl⟩ | exact ⟨_, rfl, (fun h => by cases h), rfl⟩)
  case rest =>
  obtain ⟨B1, rfl, hB1, rfl⟩ := hcut
  have HB1 := Lib.hid hB1
  clear hB1
  go_upto_if 35 with fail
  go_cut [] (fun wx => ∃ n', n ≤ n' ∧ wx = w1.alloc (.cells #[.int .i64 t', .int .i64 n', .int .i64 u, .int .i64 k] 71))
  case first =>
    cases B1 with
    | true =>
      obtain ⟨c1, c2⟩ := HB1.out rfl
      go_wp2_with fail
      go_meet
      exact ⟨n + x1, by omega, rfl⟩
    | false =>
      go_wp2_with fail
      go_meet
      exact ⟨n, by omega, rfl⟩
  case rest =>
  obtain ⟨n', r1, rfl⟩ := hcut
  have R1 := Lib.hid r1
  clear r1 HB1
  go_upto_region 7 with fail
  go_cut [50] (fun s wx => ∃ B : Bool, s = .bool B ∧ (B = true → -5000 < u ∧ u < 5000) ∧ wx = w1.alloc (.cells #[.int .i64 t', .int .i64 n', .int .i64 u, .int .i64 k] 71))
  case first =>
    go_wp2_with fail
    all_goals go_meet
    all_goals (first | exact ⟨_, rfl, (fun h => ⟨by omega, by simpa using h⟩), rfl⟩ | exact ⟨_, rfl, (fun h => by cases h), rfl⟩)
  case rest =>
  obtain ⟨B2, rfl, hB2, rfl⟩ := hcut
  have HB2 := Lib.hid hB2
  clear hB2
  go_upto_if 50 with fail
  go_cut [] (fun wx => ∃ u', u ≤ u' ∧ wx = w1.alloc (.cells #[.int .i64 t', .int .i64 n', .int .i64 u', .int .i64 k] 71))
  case first =>
    cases B2 with
    | true =>
      obtain ⟨c1, c2⟩ := HB2.out rfl
      go_wp2_with fail
      go_meet
      exact ⟨u + x2, by omega, rfl⟩
    | false =>
      go_wp2_with fail
      go_meet
      exact ⟨u, by omega, rfl⟩
  case rest =>
  obtain ⟨u', r2, rfl⟩ := hcut
  have R2 := Lib.hid r2
  clear r2 HB2
  go_upto_region 9 with fail
  go_cut [65] (fun s wx => ∃ B : Bool, s = .bool B ∧ (B = true → -1000 < k ∧ k < 1000) ∧ wx = w1.alloc (.cells #[.int .i64 t', .int .i64 n', .int .i64 u', .int .i64 k] 71))
  case first =>
    go_wp2_with fail
    all_goals go_meet
    all_goals (first | exact ⟨_, rfl, (fun h => ⟨by omega, by simpa using h⟩), rfl⟩ | exact ⟨_, rfl, (fun h => by cases h), rfl⟩)
  case rest =>
  obtain ⟨B3, rfl, hB3, rfl⟩ := hcut
  have HB3 := Lib.hid hB3
  clear hB3
  go_upto_if 65 with fail
  go_cut [] (fun wx => ∃ k', k' ≤ k ∧ wx = w1.alloc (.cells #[.int .i64 t', .int .i64 n', .int .i64 u', .int .i64 k'] 71))
  case first =>
    cases B3 with
    | true =>
      obtain ⟨c1, c2⟩ := HB3.out rfl
      go_wp2_with fail
      go_meet
      exact ⟨k - x3, by omega, rfl⟩
    | false =>
      go_wp2_with fail
      go_meet
      exact ⟨k, by omega, rfl⟩
  case rest =>
  obtain ⟨k', r3, rfl⟩ := hcut
  have R3 := Lib.hid r3
  clear r3 HB3
  have K2 := Lib.hid (fun W => k2.out t' n' u' k' W)
  have hge := HM.out t' n' u' k' R0.out R1.out R2.out R3.out
  generalize ofI a b c d t' n' u' k' = V2 at *
  clear HM k2 f0 f1 f2 f3 h0 h1 h2 h3
  go_wp2_with fail
  refine (K2.out _).mono ?_
  rintro e w2 ⟨rfl, hb2⟩
  obtain ⟨hc, hf⟩ := bcell hb2
  have z1 : w.heap.size < (w1.alloc (.cells #[.int .i64 t', .int .i64 n', .int .i64 u', .int .i64 k'] 71)).heap.size := by simp; omega
  have c0 : (w1.alloc (.cells #[.int .i64 t', .int .i64 n', .int .i64 u', .int .i64 k'] 71)).cell? ⟨w.heap.size, 0, none⟩ = some (.int .i64 a) := by go_simp
  have c1 : (w1.alloc (.cells #[.int .i64 t', .int .i64 n', .int .i64 u', .int .i64 k'] 71)).cell? ⟨w.heap.size, 1, none⟩ = some (.int .i64 b) := by go_simp
  have c2 : (w1.alloc (.cells #[.int .i64 t', .int .i64 n', .int .i64 u', .int .i64 k'] 71)).cell? ⟨w.heap.size, 2, none⟩ = some (.int .i64 c) := by go_simp
  have c3 : (w1.alloc (.cells #[.int .i64 t', .int .i64 n', .int .i64 u', .int .i64 k'] 71)).cell? ⟨w.heap.size, 3, none⟩ = some (.int .i64 d) := by go_simp
  replace a0 := (hc _ 0 z1).trans c0
  replace a1 := (hc _ 1 z1).trans c1
  replace a2 := (hc _ 2 z1).trans c2
  replace a3 := (hc _ 3 z1).trans c3
  have HB2 := Lib.hid (below_next (below_alloc HB.out (.cells #[.int .i64 t', .int .i64 n', .int .i64 u', .int .i64 k'] 71)) hb2)
  clear hc hf hb2 z1 c0 c1 c2 c3 K2 HB l1 l2 l3 R0 R1 R2 R3
  cases hR : R with
  | true =>
    rw [hR] at k3
    clear hR HZ
    go_wp2_with fail
    refine (k3.out _).mono ?_
    rintro e w3 ⟨rfl, hb3⟩
    have HB3 := Lib.hid (below_next HB2.out hb3)
    clear hb3 HB2 a0 a1 a2 a3
    go_wp2_with fail
    refine (prio_one _).mono ?_
    rintro e w4 ⟨rfl, hb4⟩
    have HB4 := Lib.hid (below_next HB3.out hb4)
    clear hb4 HB3
    go_wp2
    go_ret
    exact ⟨rfl, HB4.out⟩
  | false =>
    have hV := HZ.out hR
    rw [hR] at k3
    subst hV
    clear hR HZ
    go_wp2_with fail
    refine (k3.out _).mono ?_
    rintro e w3 ⟨rfl, hb3⟩
    have HB3 := Lib.hid (below_next HB2.out hb3)
    clear hb3 HB2 a0 a1 a2 a3
    go_wp2_with fail
    refine (prio_one _).mono ?_
    rintro e w4 ⟨rfl, hb4⟩
    have HB4 := Lib.hid (below_next HB3.out hb4)
    clear hb4 HB3
    go_wp2
    go_ret
    exact ⟨rfl, HB4.out⟩
end Go.Proofs.Ytnmhdodcfbjalaa
