/- Contracts of the reference's functions of layer 12 (share). No condition but that arguments fit their kinds. -/
import Derived.Test.YtnmhdodcfbjalaaShareC
namespace Go.Proofs.Ytnmhdodcfbjalaa
set_option linter.unusedVariables false
open Go.ChangeShapes Go.WideShapes Go.ChangeAt Go.RowKit
attribute [local go_sem ↓] Go.wp_at_zero Go.wp_at_succ comesTo_value_eq comesTo_skip_eq comesTo_enter_eq

theorem rcount_any (n : Int) (w : World) :
    Calls Try.prog 36 #[.int .i64 n] w fun e w' => e = .returned (.int .i64 (cntI n)) ∧ Below w.heap.size w w' := by
  go_enter Try.func36, Try.ntmps36
  go_wp2
  all_goals go_ret
  all_goals exact ⟨ret_int (by unfold cntI; split <;> (try split) <;> (try split at *) <;> omega), Below.refl _ _⟩
theorem rclamp_below (n : Int) (w : World) : Calls Try.prog 26 #[.int .i64 n] w fun e w' => e = .returned (.int .i64 (clampI n)) ∧ Below w.heap.size w w' :=
  (rclamp_any n w).mono fun _ _ ⟨h1, h2⟩ => ⟨h1, by subst h2; exact Below.refl _ _⟩
/-- the share at work, and the answer's place -/
structure AtBox (w0 : World) (g : Nat) (x0 x1 : Int) (wr : World) : Prop where
  c0 : wr.cell? ⟨g, 0, none⟩ = some (.int .i64 x0)
  c1 : wr.cell? ⟨g, 1, none⟩ = some (.int .i64 x1)
  f0 : wr.frozen? ⟨g, 0, none⟩ = false
  f1 : wr.frozen? ⟨g, 1, none⟩ = false
  d0 : wr.cell? ⟨g + 1, 0, none⟩ = some (.int .i64 0)
  d1 : wr.cell? ⟨g + 1, 1, none⟩ = some (.int .i64 0)
  e0 : wr.frozen? ⟨g + 1, 0, none⟩ = false
  e1 : wr.frozen? ⟨g + 1, 1, none⟩ = false
  bel : Below w0.heap.size w0 wr
theorem AtBox.below {w0 wr w1 : World} {g : Nat} {x0 x1 : Int} (h : AtBox w0 g x0 x1 wr) (hb : Below wr.heap.size wr w1) : AtBox w0 g x0 x1 w1 := by
  have l0 := World.block_lt_of_cell? _ _ h.c0
  have l1 := World.block_lt_of_cell? _ _ h.d0
  obtain ⟨hc, hf⟩ := bcell hb
  exact ⟨(hc _ 0 l0).trans h.c0, (hc _ 1 l0).trans h.c1, (hf _ 0 l0).trans h.f0, (hf _ 1 l0).trans h.f1, (hc _ 0 l1).trans h.d0, (hc _ 1 l1).trans h.d1, (hf _ 0 l1).trans h.e0, (hf _ 1 l1).trans h.e1, below_next h.bel hb⟩
theorem AtBox.store {w0 wr : World} {x0 x1 : Int} (h : AtBox w0 w0.heap.size x0 x1 wr) (y0 y1 : Int) : AtBox w0 w0.heap.size y0 y1 ((wr.setCell ⟨w0.heap.size, 0, none⟩ (.int .i64 y0)).setCell ⟨w0.heap.size, 1, none⟩ (.int .i64 y1)) := by
  obtain ⟨c0, c1, f0, f1, d0, d1, e0, e1, hx⟩ := h
  exact ⟨by go_simp, by go_simp, by go_simp, by go_simp, by go_simp, by go_simp, by go_simp, by go_simp, (hx.setCell (Nat.le_refl _) _).setCell (Nat.le_refl _) _⟩
theorem AtBox.store1 {w0 wr : World} {x0 x1 : Int} (h : AtBox w0 w0.heap.size x0 x1 wr) (y1 : Int) : AtBox w0 w0.heap.size x0 y1 (wr.setCell ⟨w0.heap.size, 1, none⟩ (.int .i64 y1)) := by
  obtain ⟨c0, c1, f0, f1, d0, d1, e0, e1, hx⟩ := h
  exact ⟨by go_simp, by go_simp, by go_simp, by go_simp, by go_simp, by go_simp, by go_simp, by go_simp, hx.setCell (Nat.le_refl _) _⟩
theorem AtBox.drewN {w0 wr : World} {g : Nat} {x0 x1 : Int} (h : AtBox w0 g x0 x1 wr) (n : Nat) : AtBox w0 g x0 x1 (wr.drewN n) := h.below (below_drewK (Below.refl _ _) n)
/-- plain: so many half-lives, one by one -/
theorem half_step (U : Int) (j : Nat) (h0 : 0 ≤ U) : U / 2 ^ j / 2 = U / 2 ^ (j + 1) := by
  rw [Int.ediv_ediv_of_nonneg (by have := pow_pos64 j; omega), Int.pow_succ]
theorem kI_more {S N H : Int} (H0 : 1 ≤ H) (j : Nat) (hj : (j : Int) ≤ kI S N H) (h0 : 0 ≤ kI S N H) : (H ≤ N - (S + j * H)) ↔ (j : Int) + 1 ≤ kI S N H := by
  unfold kI at *
  by_cases h : N ≤ S
  · simp only [if_pos h] at *
    have : j = 0 := by omega
    subst this
    simp
    omega
  · simp only [if_neg h] at *
    rw [Int.le_ediv_iff_mul_le (by omega), Int.add_mul]
    omega

set_option maxRecDepth 100000 in
set_option maxHeartbeats 8000000 in
theorem rat_any (u s n h : Int) (w : World) :
    Calls Try.prog 35 #[.agg #[.int .i64 u, .int .i64 s], .int .i64 n, .int .i64 h] w fun e w' => e = .returned (.agg #[.int .i64 (atI u s n h).1, .int .i64 (atI u s n h).2]) ∧ Below w.heap.size w w' := by
  have hbu := cntI_bd u
  have hbs := clampI_bd s
  have hbn := clampI_bd n
  have hbh := halfI_bd h
  have hk := kI_bd (S := clampI s) (N := clampI n) (H := halfI h) hbs.1 hbn.2 hbs.2 hbh.1
  have E := Lib.hid (show atI u s n h = (shI (cntI u) (kI (clampI s) (clampI n) (halfI h)), clampI s + kI (clampI s) (clampI n) (halfI h) * halfI h) from rfl)
  generalize atI u s n h = R at *
  by_cases h1 : h < 1
  · have hH : halfI h = 1099511627776 := by unfold halfI; rw [clampI_nonpos (by omega)]; rfl
    rw [hH] at hk E hbh
    clear hH
    go_enter Try.func35, Try.ntmps35
    go_wp2_with fail
    generalize hW : (w.alloc (.cells #[.int .i64 u, .int .i64 s] 54)).alloc (.cells #[.int .i64 0, .int .i64 0] 54) = W0
    have hT : AtBox w w.heap.size u s W0 := ⟨by subst hW; go_simp, by subst hW; go_simp, by subst hW; go_simp, by subst hW; go_simp, by subst hW; go_simp, by subst hW; go_simp, by subst hW; go_simp, by subst hW; go_simp, by rw [← hW]; exact (by repeat (first | exact Below.refl _ _ | assumption | refine below_drewN ?_ _ | refine Below.drew ?_ | refine below_alloc ?_ _ | refine Below.alloc ?_ (by first | omega | (simp; done) | (simp; omega)) _ | refine Below.setCell ?_ (Below.size (by assumption)) _ | refine Below.setCell ?_ (by first | omega | (simp; done) | (simp; omega)) _ | (refine Below.trans ?_ (Below.mono (by assumption) (by first | omega | (simp; done) | (simp; omega)))) | refine below_next ?_ (by assumption)))⟩
    clear hW
    have HT := Lib.hid hT
    obtain ⟨c0, c1, f0, f1, d0, d1, e0, e1, hx⟩ := hT
    have l0 := World.block_lt_of_cell? _ _ c0
    clear f0 f1 d0 d1 e0 e1 hx
    refine wp_region_grow_tail 7 (Below W0.heap.size W0) (by kernel_rfl) (by kernel_rfl) (Below.refl _ _).drew ?_
    simp only [List.take_succ_cons, List.take_zero, List.drop_succ_cons, List.drop_zero]
    (refine textS_run ?_ ?_ (fun W hS => ?_) ?_; rotate_left; (focus go_simp); (focus (obtain ⟨hc, hf⟩ := bcell hS; go_simp; first | rfl | exact ⟨rfl, hS⟩ | exact hS)); (try go_simp))
    (refine textS_run ?_ ?_ (fun W hS => ?_) ?_; rotate_left; (focus go_simp); (focus (obtain ⟨hc, hf⟩ := bcell hS; go_simp; first | rfl | exact ⟨rfl, hS⟩ | exact hS)); (try go_simp))
    (refine textS_run ?_ ?_ (fun W hS => ?_) ?_; rotate_left; (focus go_simp); (focus (obtain ⟨hc, hf⟩ := bcell hS; go_simp; refine (rcount_any _ _).mono ?_; rintro e w1 ⟨rfl, hb⟩; refine ⟨?_, hS.trans (hb.mono hS.size)⟩; rfl)); (try go_simp))
    (refine textS_run ?_ ?_ (fun W hS => ?_) ?_; rotate_left; (focus go_simp); (focus (obtain ⟨hc, hf⟩ := bcell hS; go_simp; first | rfl | exact ⟨rfl, hS⟩ | exact hS)); (try go_simp))
    (refine textS_run ?_ ?_ (fun W hS => ?_) ?_; rotate_left; (focus go_simp); (focus (obtain ⟨hc, hf⟩ := bcell hS; go_simp; first | rfl | exact ⟨rfl, hS⟩ | exact hS)); (try go_simp))
    (refine textS_run ?_ ?_ (fun W hS => ?_) ?_; rotate_left; (focus go_simp); (focus (obtain ⟨hc, hf⟩ := bcell hS; go_simp; refine (rclamp_below _ _).mono ?_; rintro e w1 ⟨rfl, hb⟩; refine ⟨?_, hS.trans (hb.mono hS.size)⟩; rfl)); (try go_simp))
    (refine textS_run ?_ ?_ (fun W hS => ?_) ?_; rotate_left; (focus go_simp); (focus (obtain ⟨hc, hf⟩ := bcell hS; go_simp; first | rfl | exact ⟨rfl, hS⟩ | exact hS)); (try go_simp))
    refine textS_nil ?_
    intro w2 hb2
    have HT2 := Lib.hid (HT.out.below hb2)
    clear c0 c1 l0 HT hb2
    clear W0
    have hT := HT2.out
    obtain ⟨c0, c1, f0, f1, d0, d1, e0, e1, hx⟩ := hT
    clear d0 d1 e0 e1 hx
    go_wp2_with (go_at_call 26; refine (rclamp_any _ _).mono ?_; rintro e w' ⟨rfl, rfl⟩)
    have HT3 := Lib.hid (HT2.out.store (cntI u) (clampI s))
    clear c0 c1 f0 f1 HT2
    go_loopw [7] (fun i wr => ∃ j : Nat, j ≤ 60 ∧ i = .int .i64 j ∧ (j : Int) ≤ kI (clampI s) (clampI n) (1099511627776) ∧ AtBox w w.heap.size (cntI u / 2 ^ j) (clampI s + j * (1099511627776)) wr) (fun i _ => 60 - (intOf i).toNat)
    case atStart => exact ⟨0, by omega, rfl, hk.1, by have := HT3.out; simpa using this⟩
    case round =>
      obtain ⟨j, hj, rfl, hjk, hr⟩ := hrel
      clear HT3
      have hTb : 0 ≤ clampI s + j * (1099511627776) ∧ clampI s + j * (1099511627776) ≤ 1099511627776 := by
        have h1 : 0 ≤ (j : Int) * (1099511627776) := Int.mul_nonneg (by omega) (by omega)
        have h2 : (j : Int) * (1099511627776) ≤ kI (clampI s) (clampI n) (1099511627776) * (1099511627776) := Int.mul_le_mul_of_nonneg_right hjk (by omega)
        omega
      have hVb : 0 ≤ cntI u / 2 ^ j ∧ cntI u / 2 ^ j ≤ 1125899906842624 := by
        have h1 := pow_pos64 j
        have h2 : 0 ≤ cntI u / 2 ^ j := Int.ediv_nonneg hbu.1 (by omega)
        have h3 : cntI u / 2 ^ j ≤ cntI u := Int.ediv_le_self _ hbu.1
        omega
      have hmore := kI_more (S := clampI s) (N := clampI n) (H := 1099511627776) (by omega) j hjk hk.1
      have hstep := Lib.hid (half_step (cntI u) j hbu.1)
      have HJ := Lib.hid hjk
      have HMORE := Lib.hid hmore
      obtain ⟨V, hV⟩ : ∃ V, cntI u / 2 ^ j = V := ⟨_, rfl⟩
      obtain ⟨T, hTT⟩ : ∃ T, clampI s + j * (1099511627776) = T := ⟨_, rfl⟩
      rw [hV] at hr hVb
      rw [hTT] at hr hTb hmore
      have HV := Lib.hid hV
      have HTT := Lib.hid hTT
      have HR := Lib.hid hr
      obtain ⟨c0, c1, f0, f1, d0, d1, e0, e1, hx⟩ := hr
      clear hV hTT hx d0 d1 e0 e1
      by_cases hc : j < 60 ∧ (j : Int) + 1 ≤ kI (clampI s) (clampI n) (1099511627776)
      · obtain ⟨h60, hlt⟩ := hc
        have hge : 1099511627776 ≤ clampI n - T := hmore.2 hlt
        have h60' : (j : Int) < 60 := by omega
        clear hmore hjk
        go_wp2_with fail
        go_roundw
        case rel => exact ⟨j + 1, by omega, by go_num, by push_cast; exact hlt, by
          have hst := HR.out.store (V / 2) (T + (1099511627776))
          rw [← HV.out, hstep.out] at hst
          rw [show clampI s + ((j + 1 : Nat) : Int) * (1099511627776) = T + (1099511627776) by rw [← HTT.out]; push_cast; rw [Int.add_mul]; omega]
          rw [← HV.out]
          have e : cntI u / 2 ^ j / 2 = cntI u / 2 ^ (j + 1) := hstep.out
          rw [e]
          exact hst⟩
        case measure => simp [intOf]; omega
      · by_cases h60 : j < 60
        · have hK : kI (clampI s) (clampI n) (1099511627776) = j := by omega
          have hlt : clampI n - T < 1099511627776 := by
            refine Classical.byContradiction fun hn => ?_
            have := hmore.1 (by omega)
            omega
          have h60' : (j : Int) < 60 := by omega
          have hR : R = (V, T) := by
            rw [E.out, hK, ← HV.out, ← HTT.out]
            unfold shI
            rw [show min (j : Int).toNat 64 = j by omega]
          subst hR
          clear hmore hjk hc hK
          have hr := HR.out
          obtain ⟨c0, c1, f0, f1, d0, d1, e0, e1, hx⟩ := hr
          have HX := Lib.hid hx
          clear hx
          go_wp2
          exact bodyPost_ret (v := .agg #[.int .i64 V, .int .i64 T]) (by simp only [results, Try.results35]; go_simp) rfl ⟨rfl, by first | exact HX.out | exact (HX.out.setCell (Nat.le_succ _) _).setCell (Nat.le_succ _) _⟩
        · have hj60 : j = 60 := by omega
          have h60' : ¬ (j : Int) < 60 := by omega
          by_cases h61 : (j : Int) + 1 ≤ kI (clampI s) (clampI n) (1099511627776)
          · have hge : 1099511627776 ≤ clampI n - T := hmore.2 h61
            have hq : (clampI n - T) / (1099511627776) = kI (clampI s) (clampI n) (1099511627776) - j := by
              have hks : kI (clampI s) (clampI n) (1099511627776) = (clampI n - clampI s) / (1099511627776) := by
                unfold kI
                rw [if_neg]
                intro hle
                unfold kI at h61
                rw [if_pos hle] at h61
                omega
              rw [hks, ← HTT.out, show clampI n - (clampI s + (j : Int) * (1099511627776)) = clampI n - clampI s + -(j : Int) * (1099511627776) by rw [Int.neg_mul]; omega, Int.add_mul_ediv_right _ _ (by omega)]
              omega
            have hV0 : V = 0 := by rw [← HV.out]; exact shI_big hbu.1 hbu.2 (by omega)
            have hTT' : T + (clampI n - T) / (1099511627776) * (1099511627776) = clampI s + kI (clampI s) (clampI n) (1099511627776) * (1099511627776) := by
              rw [hq, Int.sub_mul, ← HTT.out]; omega
            have hR : R = (V, T + (clampI n - T) / (1099511627776) * (1099511627776)) := by
              rw [E.out, hTT', hV0]
              unfold shI
              rw [shI_big hbu.1 hbu.2 (by omega)]
            subst hR
            have hz0 : 0 ≤ (clampI n - T) / (1099511627776) := Int.ediv_nonneg (by omega) (by omega)
            have hz1 : 0 ≤ (clampI n - T) / (1099511627776) * (1099511627776) := Int.mul_nonneg hz0 (by omega)
            have hz2 : (clampI n - T) / (1099511627776) * (1099511627776) ≤ clampI n - T := Int.ediv_mul_le _ (by omega)
            clear hmore hjk hc hq hTT' hV0 h61 hj60
            have hr := HR.out
            obtain ⟨c0, c1, f0, f1, d0, d1, e0, e1, hx⟩ := hr
            have HX := Lib.hid hx
            clear hx
            go_wp2_with fail
            go_region
            all_goals go_wp2
            all_goals exact bodyPost_ret (v := .agg #[.int .i64 V, .int .i64 (T + (clampI n - T) / (1099511627776) * (1099511627776))]) (by simp only [results, Try.results35]; go_simp) rfl ⟨rfl, by first | exact (((HX.out.setCell (Nat.le_refl _) _).drew.setCell (Nat.le_succ _) _).setCell (Nat.le_succ _) _) | exact (((HX.out.setCell (Nat.le_refl _) _).setCell (Nat.le_succ _) _).setCell (Nat.le_succ _) _).drew | exact (((HX.out.drew.setCell (Nat.le_refl _) _).setCell (Nat.le_succ _) _).setCell (Nat.le_succ _) _)⟩
          · have hK : kI (clampI s) (clampI n) (1099511627776) = j := by omega
            have hlt : clampI n - T < 1099511627776 := by
              refine Classical.byContradiction fun hn => ?_
              have := hmore.1 (by omega)
              omega
            have hR : R = (V, T) := by
              rw [E.out, hK, ← HV.out, ← HTT.out]
              unfold shI
              rw [show min (j : Int).toNat 64 = j by omega]
            subst hR
            clear hmore hjk hc hK h61 hj60
            have hr := HR.out
            obtain ⟨c0, c1, f0, f1, d0, d1, e0, e1, hx⟩ := hr
            have HX := Lib.hid hx
            clear hx
            go_wp2
            exact bodyPost_ret (v := .agg #[.int .i64 V, .int .i64 T]) (by simp only [results, Try.results35]; go_simp) rfl ⟨rfl, by first | exact HX.out | exact (HX.out.setCell (Nat.le_succ _) _).setCell (Nat.le_succ _) _⟩
  · by_cases h2 : 1099511627776 < h
    · have hH : halfI h = 1099511627776 := by
        have e : clampI h = 1099511627776 := by unfold clampI; rw [if_neg (by omega), if_pos h2]
        unfold halfI; rw [e, if_neg (by omega)]
      rw [hH] at hk E hbh
      clear hH
      go_enter Try.func35, Try.ntmps35
      go_wp2_with fail
      generalize hW : (w.alloc (.cells #[.int .i64 u, .int .i64 s] 54)).alloc (.cells #[.int .i64 0, .int .i64 0] 54) = W0
      have hT : AtBox w w.heap.size u s W0 := ⟨by subst hW; go_simp, by subst hW; go_simp, by subst hW; go_simp, by subst hW; go_simp, by subst hW; go_simp, by subst hW; go_simp, by subst hW; go_simp, by subst hW; go_simp, by rw [← hW]; exact (by repeat (first | exact Below.refl _ _ | assumption | refine below_drewN ?_ _ | refine Below.drew ?_ | refine below_alloc ?_ _ | refine Below.alloc ?_ (by first | omega | (simp; done) | (simp; omega)) _ | refine Below.setCell ?_ (Below.size (by assumption)) _ | refine Below.setCell ?_ (by first | omega | (simp; done) | (simp; omega)) _ | (refine Below.trans ?_ (Below.mono (by assumption) (by first | omega | (simp; done) | (simp; omega)))) | refine below_next ?_ (by assumption)))⟩
      clear hW
      have HT := Lib.hid hT
      obtain ⟨c0, c1, f0, f1, d0, d1, e0, e1, hx⟩ := hT
      have l0 := World.block_lt_of_cell? _ _ c0
      clear f0 f1 d0 d1 e0 e1 hx
      refine wp_region_grow_tail 7 (Below W0.heap.size W0) (by kernel_rfl) (by kernel_rfl) (Below.refl _ _).drew ?_
      simp only [List.take_succ_cons, List.take_zero, List.drop_succ_cons, List.drop_zero]
      (refine textS_run ?_ ?_ (fun W hS => ?_) ?_; rotate_left; (focus go_simp); (focus (obtain ⟨hc, hf⟩ := bcell hS; go_simp; first | rfl | exact ⟨rfl, hS⟩ | exact hS)); (try go_simp))
      (refine textS_run ?_ ?_ (fun W hS => ?_) ?_; rotate_left; (focus go_simp); (focus (obtain ⟨hc, hf⟩ := bcell hS; go_simp; first | rfl | exact ⟨rfl, hS⟩ | exact hS)); (try go_simp))
      (refine textS_run ?_ ?_ (fun W hS => ?_) ?_; rotate_left; (focus go_simp); (focus (obtain ⟨hc, hf⟩ := bcell hS; go_simp; refine (rcount_any _ _).mono ?_; rintro e w1 ⟨rfl, hb⟩; refine ⟨?_, hS.trans (hb.mono hS.size)⟩; rfl)); (try go_simp))
      (refine textS_run ?_ ?_ (fun W hS => ?_) ?_; rotate_left; (focus go_simp); (focus (obtain ⟨hc, hf⟩ := bcell hS; go_simp; first | rfl | exact ⟨rfl, hS⟩ | exact hS)); (try go_simp))
      (refine textS_run ?_ ?_ (fun W hS => ?_) ?_; rotate_left; (focus go_simp); (focus (obtain ⟨hc, hf⟩ := bcell hS; go_simp; first | rfl | exact ⟨rfl, hS⟩ | exact hS)); (try go_simp))
      (refine textS_run ?_ ?_ (fun W hS => ?_) ?_; rotate_left; (focus go_simp); (focus (obtain ⟨hc, hf⟩ := bcell hS; go_simp; refine (rclamp_below _ _).mono ?_; rintro e w1 ⟨rfl, hb⟩; refine ⟨?_, hS.trans (hb.mono hS.size)⟩; rfl)); (try go_simp))
      (refine textS_run ?_ ?_ (fun W hS => ?_) ?_; rotate_left; (focus go_simp); (focus (obtain ⟨hc, hf⟩ := bcell hS; go_simp; first | rfl | exact ⟨rfl, hS⟩ | exact hS)); (try go_simp))
      refine textS_nil ?_
      intro w2 hb2
      have HT2 := Lib.hid (HT.out.below hb2)
      clear c0 c1 l0 HT hb2
      clear W0
      have hT := HT2.out
      obtain ⟨c0, c1, f0, f1, d0, d1, e0, e1, hx⟩ := hT
      clear d0 d1 e0 e1 hx
      go_wp2_with (go_at_call 26; refine (rclamp_any _ _).mono ?_; rintro e w' ⟨rfl, rfl⟩)
      have HT3 := Lib.hid (HT2.out.store (cntI u) (clampI s))
      clear c0 c1 f0 f1 HT2
      go_loopw [7] (fun i wr => ∃ j : Nat, j ≤ 60 ∧ i = .int .i64 j ∧ (j : Int) ≤ kI (clampI s) (clampI n) (1099511627776) ∧ AtBox w w.heap.size (cntI u / 2 ^ j) (clampI s + j * (1099511627776)) wr) (fun i _ => 60 - (intOf i).toNat)
      case atStart => exact ⟨0, by omega, rfl, hk.1, by have := HT3.out; simpa using this⟩
      case round =>
        obtain ⟨j, hj, rfl, hjk, hr⟩ := hrel
        clear HT3
        have hTb : 0 ≤ clampI s + j * (1099511627776) ∧ clampI s + j * (1099511627776) ≤ 1099511627776 := by
          have h1 : 0 ≤ (j : Int) * (1099511627776) := Int.mul_nonneg (by omega) (by omega)
          have h2 : (j : Int) * (1099511627776) ≤ kI (clampI s) (clampI n) (1099511627776) * (1099511627776) := Int.mul_le_mul_of_nonneg_right hjk (by omega)
          omega
        have hVb : 0 ≤ cntI u / 2 ^ j ∧ cntI u / 2 ^ j ≤ 1125899906842624 := by
          have h1 := pow_pos64 j
          have h2 : 0 ≤ cntI u / 2 ^ j := Int.ediv_nonneg hbu.1 (by omega)
          have h3 : cntI u / 2 ^ j ≤ cntI u := Int.ediv_le_self _ hbu.1
          omega
        have hmore := kI_more (S := clampI s) (N := clampI n) (H := 1099511627776) (by omega) j hjk hk.1
        have hstep := Lib.hid (half_step (cntI u) j hbu.1)
        have HJ := Lib.hid hjk
        have HMORE := Lib.hid hmore
        obtain ⟨V, hV⟩ : ∃ V, cntI u / 2 ^ j = V := ⟨_, rfl⟩
        obtain ⟨T, hTT⟩ : ∃ T, clampI s + j * (1099511627776) = T := ⟨_, rfl⟩
        rw [hV] at hr hVb
        rw [hTT] at hr hTb hmore
        have HV := Lib.hid hV
        have HTT := Lib.hid hTT
        have HR := Lib.hid hr
        obtain ⟨c0, c1, f0, f1, d0, d1, e0, e1, hx⟩ := hr
        clear hV hTT hx d0 d1 e0 e1
        by_cases hc : j < 60 ∧ (j : Int) + 1 ≤ kI (clampI s) (clampI n) (1099511627776)
        · obtain ⟨h60, hlt⟩ := hc
          have hge : 1099511627776 ≤ clampI n - T := hmore.2 hlt
          have h60' : (j : Int) < 60 := by omega
          clear hmore hjk
          go_wp2_with fail
          go_roundw
          case rel => exact ⟨j + 1, by omega, by go_num, by push_cast; exact hlt, by
            have hst := HR.out.store (V / 2) (T + (1099511627776))
            rw [← HV.out, hstep.out] at hst
            rw [show clampI s + ((j + 1 : Nat) : Int) * (1099511627776) = T + (1099511627776) by rw [← HTT.out]; push_cast; rw [Int.add_mul]; omega]
            rw [← HV.out]
            have e : cntI u / 2 ^ j / 2 = cntI u / 2 ^ (j + 1) := hstep.out
            rw [e]
            exact hst⟩
          case measure => simp [intOf]; omega
        · by_cases h60 : j < 60
          · have hK : kI (clampI s) (clampI n) (1099511627776) = j := by omega
            have hlt : clampI n - T < 1099511627776 := by
              refine Classical.byContradiction fun hn => ?_
              have := hmore.1 (by omega)
              omega
            have h60' : (j : Int) < 60 := by omega
            have hR : R = (V, T) := by
              rw [E.out, hK, ← HV.out, ← HTT.out]
              unfold shI
              rw [show min (j : Int).toNat 64 = j by omega]
            subst hR
            clear hmore hjk hc hK
            have hr := HR.out
            obtain ⟨c0, c1, f0, f1, d0, d1, e0, e1, hx⟩ := hr
            have HX := Lib.hid hx
            clear hx
            go_wp2
            exact bodyPost_ret (v := .agg #[.int .i64 V, .int .i64 T]) (by simp only [results, Try.results35]; go_simp) rfl ⟨rfl, by first | exact HX.out | exact (HX.out.setCell (Nat.le_succ _) _).setCell (Nat.le_succ _) _⟩
          · have hj60 : j = 60 := by omega
            have h60' : ¬ (j : Int) < 60 := by omega
            by_cases h61 : (j : Int) + 1 ≤ kI (clampI s) (clampI n) (1099511627776)
            · have hge : 1099511627776 ≤ clampI n - T := hmore.2 h61
              have hq : (clampI n - T) / (1099511627776) = kI (clampI s) (clampI n) (1099511627776) - j := by
                have hks : kI (clampI s) (clampI n) (1099511627776) = (clampI n - clampI s) / (1099511627776) := by
                  unfold kI
                  rw [if_neg]
                  intro hle
                  unfold kI at h61
                  rw [if_pos hle] at h61
                  omega
                rw [hks, ← HTT.out, show clampI n - (clampI s + (j : Int) * (1099511627776)) = clampI n - clampI s + -(j : Int) * (1099511627776) by rw [Int.neg_mul]; omega, Int.add_mul_ediv_right _ _ (by omega)]
                omega
              have hV0 : V = 0 := by rw [← HV.out]; exact shI_big hbu.1 hbu.2 (by omega)
              have hTT' : T + (clampI n - T) / (1099511627776) * (1099511627776) = clampI s + kI (clampI s) (clampI n) (1099511627776) * (1099511627776) := by
                rw [hq, Int.sub_mul, ← HTT.out]; omega
              have hR : R = (V, T + (clampI n - T) / (1099511627776) * (1099511627776)) := by
                rw [E.out, hTT', hV0]
                unfold shI
                rw [shI_big hbu.1 hbu.2 (by omega)]
              subst hR
              have hz0 : 0 ≤ (clampI n - T) / (1099511627776) := Int.ediv_nonneg (by omega) (by omega)
              have hz1 : 0 ≤ (clampI n - T) / (1099511627776) * (1099511627776) := Int.mul_nonneg hz0 (by omega)
              have hz2 : (clampI n - T) / (1099511627776) * (1099511627776) ≤ clampI n - T := Int.ediv_mul_le _ (by omega)
              clear hmore hjk hc hq hTT' hV0 h61 hj60
              have hr := HR.out
              obtain ⟨c0, c1, f0, f1, d0, d1, e0, e1, hx⟩ := hr
              have HX := Lib.hid hx
              clear hx
              go_wp2_with fail
              go_region
              all_goals go_wp2
              all_goals exact bodyPost_ret (v := .agg #[.int .i64 V, .int .i64 (T + (clampI n - T) / (1099511627776) * (1099511627776))]) (by simp only [results, Try.results35]; go_simp) rfl ⟨rfl, by first | exact (((HX.out.setCell (Nat.le_refl _) _).drew.setCell (Nat.le_succ _) _).setCell (Nat.le_succ _) _) | exact (((HX.out.setCell (Nat.le_refl _) _).setCell (Nat.le_succ _) _).setCell (Nat.le_succ _) _).drew | exact (((HX.out.drew.setCell (Nat.le_refl _) _).setCell (Nat.le_succ _) _).setCell (Nat.le_succ _) _)⟩
            · have hK : kI (clampI s) (clampI n) (1099511627776) = j := by omega
              have hlt : clampI n - T < 1099511627776 := by
                refine Classical.byContradiction fun hn => ?_
                have := hmore.1 (by omega)
                omega
              have hR : R = (V, T) := by
                rw [E.out, hK, ← HV.out, ← HTT.out]
                unfold shI
                rw [show min (j : Int).toNat 64 = j by omega]
              subst hR
              clear hmore hjk hc hK h61 hj60
              have hr := HR.out
              obtain ⟨c0, c1, f0, f1, d0, d1, e0, e1, hx⟩ := hr
              have HX := Lib.hid hx
              clear hx
              go_wp2
              exact bodyPost_ret (v := .agg #[.int .i64 V, .int .i64 T]) (by simp only [results, Try.results35]; go_simp) rfl ⟨rfl, by first | exact HX.out | exact (HX.out.setCell (Nat.le_succ _) _).setCell (Nat.le_succ _) _⟩
    · have hH : halfI h = h := by
        have e : clampI h = h := clampI_id (by omega) (by omega)
        unfold halfI; rw [e, if_neg h1]
      rw [hH] at hk E hbh
      clear hH
      have h1' : 1 ≤ h := by omega
      have h2' : h ≤ 1099511627776 := by omega
      go_enter Try.func35, Try.ntmps35
      go_wp2_with fail
      generalize hW : (w.alloc (.cells #[.int .i64 u, .int .i64 s] 54)).alloc (.cells #[.int .i64 0, .int .i64 0] 54) = W0
      have hT : AtBox w w.heap.size u s W0 := ⟨by subst hW; go_simp, by subst hW; go_simp, by subst hW; go_simp, by subst hW; go_simp, by subst hW; go_simp, by subst hW; go_simp, by subst hW; go_simp, by subst hW; go_simp, by rw [← hW]; exact (by repeat (first | exact Below.refl _ _ | assumption | refine below_drewN ?_ _ | refine Below.drew ?_ | refine below_alloc ?_ _ | refine Below.alloc ?_ (by first | omega | (simp; done) | (simp; omega)) _ | refine Below.setCell ?_ (Below.size (by assumption)) _ | refine Below.setCell ?_ (by first | omega | (simp; done) | (simp; omega)) _ | (refine Below.trans ?_ (Below.mono (by assumption) (by first | omega | (simp; done) | (simp; omega)))) | refine below_next ?_ (by assumption)))⟩
      clear hW
      have HT := Lib.hid hT
      obtain ⟨c0, c1, f0, f1, d0, d1, e0, e1, hx⟩ := hT
      have l0 := World.block_lt_of_cell? _ _ c0
      clear f0 f1 d0 d1 e0 e1 hx
      refine wp_region_grow_tail 7 (Below W0.heap.size W0) (by kernel_rfl) (by kernel_rfl) (Below.refl _ _).drew ?_
      simp only [List.take_succ_cons, List.take_zero, List.drop_succ_cons, List.drop_zero]
      (refine textS_run ?_ ?_ (fun W hS => ?_) ?_; rotate_left; (focus go_simp); (focus (obtain ⟨hc, hf⟩ := bcell hS; go_simp; first | rfl | exact ⟨rfl, hS⟩ | exact hS)); (try go_simp))
      (refine textS_run ?_ ?_ (fun W hS => ?_) ?_; rotate_left; (focus go_simp); (focus (obtain ⟨hc, hf⟩ := bcell hS; go_simp; first | rfl | exact ⟨rfl, hS⟩ | exact hS)); (try go_simp))
      (refine textS_run ?_ ?_ (fun W hS => ?_) ?_; rotate_left; (focus go_simp); (focus (obtain ⟨hc, hf⟩ := bcell hS; go_simp; refine (rcount_any _ _).mono ?_; rintro e w1 ⟨rfl, hb⟩; refine ⟨?_, hS.trans (hb.mono hS.size)⟩; rfl)); (try go_simp))
      (refine textS_run ?_ ?_ (fun W hS => ?_) ?_; rotate_left; (focus go_simp); (focus (obtain ⟨hc, hf⟩ := bcell hS; go_simp; first | rfl | exact ⟨rfl, hS⟩ | exact hS)); (try go_simp))
      (refine textS_run ?_ ?_ (fun W hS => ?_) ?_; rotate_left; (focus go_simp); (focus (obtain ⟨hc, hf⟩ := bcell hS; go_simp; first | rfl | exact ⟨rfl, hS⟩ | exact hS)); (try go_simp))
      (refine textS_run ?_ ?_ (fun W hS => ?_) ?_; rotate_left; (focus go_simp); (focus (obtain ⟨hc, hf⟩ := bcell hS; go_simp; refine (rclamp_below _ _).mono ?_; rintro e w1 ⟨rfl, hb⟩; refine ⟨?_, hS.trans (hb.mono hS.size)⟩; rfl)); (try go_simp))
      (refine textS_run ?_ ?_ (fun W hS => ?_) ?_; rotate_left; (focus go_simp); (focus (obtain ⟨hc, hf⟩ := bcell hS; go_simp; first | rfl | exact ⟨rfl, hS⟩ | exact hS)); (try go_simp))
      refine textS_nil ?_
      intro w2 hb2
      have HT2 := Lib.hid (HT.out.below hb2)
      clear c0 c1 l0 HT hb2
      clear W0
      have hT := HT2.out
      obtain ⟨c0, c1, f0, f1, d0, d1, e0, e1, hx⟩ := hT
      clear d0 d1 e0 e1 hx
      go_wp2_with (go_at_call 26; refine (rclamp_any _ _).mono ?_; rintro e w' ⟨rfl, rfl⟩)
      have HT3 := Lib.hid (HT2.out.store (cntI u) (clampI s))
      clear c0 c1 f0 f1 HT2
      go_loopw [7] (fun i wr => ∃ j : Nat, j ≤ 60 ∧ i = .int .i64 j ∧ (j : Int) ≤ kI (clampI s) (clampI n) (h) ∧ AtBox w w.heap.size (cntI u / 2 ^ j) (clampI s + j * (h)) wr) (fun i _ => 60 - (intOf i).toNat)
      case atStart => exact ⟨0, by omega, rfl, hk.1, by have := HT3.out; simpa using this⟩
      case round =>
        obtain ⟨j, hj, rfl, hjk, hr⟩ := hrel
        clear HT3
        have hTb : 0 ≤ clampI s + j * (h) ∧ clampI s + j * (h) ≤ 1099511627776 := by
          have h1 : 0 ≤ (j : Int) * (h) := Int.mul_nonneg (by omega) (by omega)
          have h2 : (j : Int) * (h) ≤ kI (clampI s) (clampI n) (h) * (h) := Int.mul_le_mul_of_nonneg_right hjk (by omega)
          omega
        have hVb : 0 ≤ cntI u / 2 ^ j ∧ cntI u / 2 ^ j ≤ 1125899906842624 := by
          have h1 := pow_pos64 j
          have h2 : 0 ≤ cntI u / 2 ^ j := Int.ediv_nonneg hbu.1 (by omega)
          have h3 : cntI u / 2 ^ j ≤ cntI u := Int.ediv_le_self _ hbu.1
          omega
        have hmore := kI_more (S := clampI s) (N := clampI n) (H := h) (by omega) j hjk hk.1
        have hstep := Lib.hid (half_step (cntI u) j hbu.1)
        have HJ := Lib.hid hjk
        have HMORE := Lib.hid hmore
        obtain ⟨V, hV⟩ : ∃ V, cntI u / 2 ^ j = V := ⟨_, rfl⟩
        obtain ⟨T, hTT⟩ : ∃ T, clampI s + j * (h) = T := ⟨_, rfl⟩
        rw [hV] at hr hVb
        rw [hTT] at hr hTb hmore
        have HV := Lib.hid hV
        have HTT := Lib.hid hTT
        have HR := Lib.hid hr
        obtain ⟨c0, c1, f0, f1, d0, d1, e0, e1, hx⟩ := hr
        clear hV hTT hx d0 d1 e0 e1
        by_cases hc : j < 60 ∧ (j : Int) + 1 ≤ kI (clampI s) (clampI n) (h)
        · obtain ⟨h60, hlt⟩ := hc
          have hge : h ≤ clampI n - T := hmore.2 hlt
          have h60' : (j : Int) < 60 := by omega
          clear hmore hjk
          go_wp2_with fail
          go_roundw
          case rel => exact ⟨j + 1, by omega, by go_num, by push_cast; exact hlt, by
            have hst := HR.out.store (V / 2) (T + (h))
            rw [← HV.out, hstep.out] at hst
            rw [show clampI s + ((j + 1 : Nat) : Int) * (h) = T + (h) by rw [← HTT.out]; push_cast; rw [Int.add_mul]; omega]
            rw [← HV.out]
            have e : cntI u / 2 ^ j / 2 = cntI u / 2 ^ (j + 1) := hstep.out
            rw [e]
            exact hst⟩
          case measure => simp [intOf]; omega
        · by_cases h60 : j < 60
          · have hK : kI (clampI s) (clampI n) (h) = j := by omega
            have hlt : clampI n - T < h := by
              refine Classical.byContradiction fun hn => ?_
              have := hmore.1 (by omega)
              omega
            have h60' : (j : Int) < 60 := by omega
            have hR : R = (V, T) := by
              rw [E.out, hK, ← HV.out, ← HTT.out]
              unfold shI
              rw [show min (j : Int).toNat 64 = j by omega]
            subst hR
            clear hmore hjk hc hK
            have hr := HR.out
            obtain ⟨c0, c1, f0, f1, d0, d1, e0, e1, hx⟩ := hr
            have HX := Lib.hid hx
            clear hx
            go_wp2
            exact bodyPost_ret (v := .agg #[.int .i64 V, .int .i64 T]) (by simp only [results, Try.results35]; go_simp) rfl ⟨rfl, by first | exact HX.out | exact (HX.out.setCell (Nat.le_succ _) _).setCell (Nat.le_succ _) _⟩
          · have hj60 : j = 60 := by omega
            have h60' : ¬ (j : Int) < 60 := by omega
            by_cases h61 : (j : Int) + 1 ≤ kI (clampI s) (clampI n) (h)
            · have hge : h ≤ clampI n - T := hmore.2 h61
              have hq : (clampI n - T) / (h) = kI (clampI s) (clampI n) (h) - j := by
                have hks : kI (clampI s) (clampI n) (h) = (clampI n - clampI s) / (h) := by
                  unfold kI
                  rw [if_neg]
                  intro hle
                  unfold kI at h61
                  rw [if_pos hle] at h61
                  omega
                rw [hks, ← HTT.out, show clampI n - (clampI s + (j : Int) * (h)) = clampI n - clampI s + -(j : Int) * (h) by rw [Int.neg_mul]; omega, Int.add_mul_ediv_right _ _ (by omega)]
                omega
              have hV0 : V = 0 := by rw [← HV.out]; exact shI_big hbu.1 hbu.2 (by omega)
              have hTT' : T + (clampI n - T) / (h) * (h) = clampI s + kI (clampI s) (clampI n) (h) * (h) := by
                rw [hq, Int.sub_mul, ← HTT.out]; omega
              have hR : R = (V, T + (clampI n - T) / (h) * (h)) := by
                rw [E.out, hTT', hV0]
                unfold shI
                rw [shI_big hbu.1 hbu.2 (by omega)]
              subst hR
              have hz0 : 0 ≤ (clampI n - T) / (h) := Int.ediv_nonneg (by omega) (by omega)
              have hz1 : 0 ≤ (clampI n - T) / (h) * (h) := Int.mul_nonneg hz0 (by omega)
              have hz2 : (clampI n - T) / (h) * (h) ≤ clampI n - T := Int.ediv_mul_le _ (by omega)
              clear hmore hjk hc hq hTT' hV0 h61 hj60
              have hr := HR.out
              obtain ⟨c0, c1, f0, f1, d0, d1, e0, e1, hx⟩ := hr
              have HX := Lib.hid hx
              clear hx
              go_wp2_with fail
              go_region
              all_goals go_wp2
              all_goals exact bodyPost_ret (v := .agg #[.int .i64 V, .int .i64 (T + (clampI n - T) / (h) * (h))]) (by simp only [results, Try.results35]; go_simp) rfl ⟨rfl, by first | exact (((HX.out.setCell (Nat.le_refl _) _).drew.setCell (Nat.le_succ _) _).setCell (Nat.le_succ _) _) | exact (((HX.out.setCell (Nat.le_refl _) _).setCell (Nat.le_succ _) _).setCell (Nat.le_succ _) _).drew | exact (((HX.out.drew.setCell (Nat.le_refl _) _).setCell (Nat.le_succ _) _).setCell (Nat.le_succ _) _)⟩
            · have hK : kI (clampI s) (clampI n) (h) = j := by omega
              have hlt : clampI n - T < h := by
                refine Classical.byContradiction fun hn => ?_
                have := hmore.1 (by omega)
                omega
              have hR : R = (V, T) := by
                rw [E.out, hK, ← HV.out, ← HTT.out]
                unfold shI
                rw [show min (j : Int).toNat 64 = j by omega]
              subst hR
              clear hmore hjk hc hK h61 hj60
              have hr := HR.out
              obtain ⟨c0, c1, f0, f1, d0, d1, e0, e1, hx⟩ := hr
              have HX := Lib.hid hx
              clear hx
              go_wp2
              exact bodyPost_ret (v := .agg #[.int .i64 V, .int .i64 T]) (by simp only [results, Try.results35]; go_simp) rfl ⟨rfl, by first | exact HX.out | exact (HX.out.setCell (Nat.le_succ _) _).setCell (Nat.le_succ _) _⟩
end Go.Proofs.Ytnmhdodcfbjalaa
