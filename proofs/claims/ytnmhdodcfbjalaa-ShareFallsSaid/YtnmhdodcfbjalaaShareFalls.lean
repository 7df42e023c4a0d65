/- The walk of ShareFalls. No condition but that arguments fit their kinds. -/
import Derived.Test.YtnmhdodcfbjalaaShareOne
namespace Go.Proofs.Ytnmhdodcfbjalaa
set_option linter.unusedVariables false
open Go.ChangeShapes Go.WideShapes Go.ChangeAt Go.RowKit
attribute [local go_sem ↓] Go.wp_at_zero Go.wp_at_succ comesTo_value_eq comesTo_skip_eq comesTo_enter_eq

theorem clampI_mono {x y : Int} (h : x ≤ y) : clampI x ≤ clampI y := by unfold clampI; split <;> split <;> (try split) <;> (try split) <;> omega
set_option maxRecDepth 100000 in
set_option maxHeartbeats 8000000 in
theorem falls_walk (u s t0 t1 t2 a : Int) (a1 : a ≤ 9223372036854775807) (w : World) :
    Calls Try.prog 8 #[.agg #[.int .i64 u, .int .i64 s], .agg #[.int .i64 t0, .int .i64 t1, .int .i64 t2], .int .i64 a] w fun e w' => e = .returned (.bool true) ∧ Below w.heap.size w w' := by
  obtain ⟨x, y, hxy, h01⟩ : ∃ x y : Int, x ≤ y ∧ ((t1 < t0 ∧ x = t1 ∧ y = t0) ∨ (t0 ≤ t1 ∧ x = t0 ∧ y = t1)) := by
    by_cases h : t1 < t0
    · exact ⟨t1, t0, by omega, .inl ⟨h, rfl, rfl⟩⟩
    · exact ⟨t0, t1, by omega, .inr ⟨by omega, rfl, rfl⟩⟩
  have hxy' := clampI_mono hxy
  have hm := atI_mono (u := u) (s := s) (h := t2) hxy'
  have hbP := (atI_bd u s x t2).1
  have hbQ := (atI_bd u s y t2).1
  have kA := Lib.hid (fun W => at_any u s x t2 W)
  have kB := Lib.hid (fun W => at_any u s y t2 W)
  have kC := Lib.hid (fun W => at_any (atI u s x t2).1 (atI u s x t2).2 y t2 W)
  have kD := Lib.hid (fun W => at_any (atI u s y t2).1 (atI u s y t2).2 y t2 W)
  rw [atI_atI hxy'] at kC
  rw [atI_atI (Int.le_refl _)] at kD
  have kF := Lib.hid (fun W => factor_any (atI u s y t2).1 a hbQ.2 a1 W)
  have kG := Lib.hid (fun W => factor_any (atI u s x t2).1 a hbP.2 a1 W)
  have hFG := factI_anti (t := a) hm.1
  have hF := factI_bd (atI u s y t2).1 a
  have hG := factI_bd (atI u s x t2).1 a
  clear hbP hbQ hxy'
  generalize factI (atI u s y t2).1 a = F at *
  generalize factI (atI u s x t2).1 a = G at *
  generalize (atI u s y t2).1 = Q1 at *
  generalize (atI u s y t2).2 = Q2 at *
  generalize (atI u s x t2).1 = P1 at *
  generalize (atI u s x t2).2 = P2 at *
  obtain ⟨hm1, hm2⟩ := hm
  obtain ⟨hF0, hF1⟩ := hF
  obtain ⟨hG0, hG1⟩ := hG
  have g1 : decide (P1 < Q1) = false := by simp; omega
  have g2 : decide (Q2 < P2) = false := by simp; omega
  have g3 : decide (G ≤ F) = true := by simp; omega
  have g4 : decide (F ≤ 1000) = true := by simp; omega
  have g5 : decide (0 ≤ G) = true := by simp; omega
  rcases h01 with ⟨h, rfl, rfl⟩ | ⟨h, rfl, rfl⟩
  · go_enter Try.func8, Try.ntmps8
    go_wp2_with fail
    generalize hW : (w.alloc (.cells #[.int .i64 u, .int .i64 s] 57)).alloc (.cells #[.int .i64 y, .int .i64 x, .int .i64 t2] 61) = W0
    have c0 : W0.cell? ⟨w.heap.size, 0, none⟩ = some (.int .i64 u) := by subst hW; go_simp
    have c1 : W0.cell? ⟨w.heap.size, 1, none⟩ = some (.int .i64 s) := by subst hW; go_simp
    have c2 : W0.cell? ⟨w.heap.size + 1, 0, none⟩ = some (.int .i64 y) := by subst hW; go_simp
    have c3 : W0.cell? ⟨w.heap.size + 1, 1, none⟩ = some (.int .i64 x) := by subst hW; go_simp
    have c4 : W0.cell? ⟨w.heap.size + 1, 2, none⟩ = some (.int .i64 t2) := by subst hW; go_simp
    have hx := Lib.hid (show Below w.heap.size w W0 by rw [← hW]; exact (by repeat (first | exact Below.refl _ _ | assumption | refine below_drewN ?_ _ | refine Below.drew ?_ | refine below_alloc ?_ _ | refine Below.alloc ?_ (by first | omega | (simp; done) | (simp; omega)) _ | refine Below.setCell ?_ (Below.size (by assumption)) _ | refine Below.setCell ?_ (by first | omega | (simp; done) | (simp; omega)) _ | (refine Below.trans ?_ (Below.mono (by assumption) (by first | omega | (simp; done) | (simp; omega)))) | refine below_next ?_ (by assumption))))
    clear hW
    have l0 : w.heap.size < W0.heap.size := World.block_lt_of_cell? W0 _ c0
    have l1 : w.heap.size + 1 < W0.heap.size := World.block_lt_of_cell? W0 _ c2
    go_quiet (fail)
    have HX := Lib.hid (below_drewK hx.out nq)
    have d0 : (W0.drewN nq).cell? ⟨w.heap.size, 0, none⟩ = some (.int .i64 u) := by go_simp
    have d1 : (W0.drewN nq).cell? ⟨w.heap.size, 1, none⟩ = some (.int .i64 s) := by go_simp
    have d4 : (W0.drewN nq).cell? ⟨w.heap.size + 1, 2, none⟩ = some (.int .i64 t2) := by go_simp
    have l0' : w.heap.size < (W0.drewN nq).heap.size := World.block_lt_of_cell? _ _ d0
    have l1' : w.heap.size + 1 < (W0.drewN nq).heap.size := World.block_lt_of_cell? _ _ d4
    go_wp2_with fail
    clear c0 c1 c2 c3 c4 l0 l1 hx
    generalize W0.drewN nq = W1 at *
    refine wp_region_boxes W1 (by kernel_rfl) (by kernel_rfl) (Below.refl _ _) ?_
    (refine textB_det ?_ rfl rfl ?_ (fun W hS => ?_) ?_; rotate_left; (focus go_simp); (focus (obtain ⟨hc, hf⟩ := bcell hS; go_simp; first | (refine ⟨?_, Below.refl _ _⟩; rfl) | rfl | exact Below.refl _ _)); (try go_simp))
    (refine textB_det ?_ rfl rfl ?_ (fun W hS => ?_) ?_; rotate_left; (focus go_simp); (focus (obtain ⟨hc, hf⟩ := bcell hS; go_simp; first | (refine ⟨?_, Below.refl _ _⟩; rfl) | rfl | exact Below.refl _ _)); (try go_simp))
    (refine textB_det ?_ rfl rfl ?_ (fun W hS => ?_) ?_; rotate_left; (focus go_simp); (focus (obtain ⟨hc, hf⟩ := bcell hS; go_simp; first | (refine ⟨?_, Below.refl _ _⟩; rfl) | rfl | exact Below.refl _ _)); (try go_simp))
    (refine textB_det ?_ rfl rfl ?_ (fun W hS => ?_) ?_; rotate_left; (focus go_simp); (focus (obtain ⟨hc, hf⟩ := bcell hS; go_simp; first | (refine ⟨?_, Below.refl _ _⟩; rfl) | rfl | exact Below.refl _ _)); (try go_simp))
    (refine textB_det ?_ rfl rfl ?_ (fun W hS => ?_) ?_; rotate_left; (focus go_simp); (focus (obtain ⟨hc, hf⟩ := bcell hS; go_simp; refine (kA.out _).mono ?_; rintro e w1 ⟨rfl, hb⟩; refine ⟨?_, hb⟩; rfl)); (try go_simp))
    (refine textB_det ?_ rfl rfl ?_ (fun W hS => ?_) ?_; rotate_left; (focus go_simp); (focus (obtain ⟨hc, hf⟩ := bcell hS; go_simp; first | (refine ⟨?_, Below.refl _ _⟩; rfl) | rfl | exact Below.refl _ _)); (try go_simp))
    (refine textB_det ?_ rfl rfl ?_ (fun W hS => ?_) ?_; rotate_left; (focus go_simp); (focus (obtain ⟨hc, hf⟩ := bcell hS; go_simp; first | (refine ⟨?_, Below.refl _ _⟩; rfl) | rfl | exact Below.refl _ _)); (try go_simp))
    (refine textB_det ?_ rfl rfl ?_ (fun W hS => ?_) ?_; rotate_left; (focus go_simp); (focus (obtain ⟨hc, hf⟩ := bcell hS; go_simp; first | (refine ⟨?_, Below.refl _ _⟩; rfl) | rfl | exact Below.refl _ _)); (try go_simp))
    (refine textB_det ?_ rfl rfl ?_ (fun W hS => ?_) ?_; rotate_left; (focus go_simp); (focus (obtain ⟨hc, hf⟩ := bcell hS; go_simp; first | (refine ⟨?_, Below.refl _ _⟩; rfl) | rfl | exact Below.refl _ _)); (try go_simp))
    (refine textB_det ?_ rfl rfl ?_ (fun W hS => ?_) ?_; rotate_left; (focus go_simp); (focus (obtain ⟨hc, hf⟩ := bcell hS; go_simp; refine (kB.out _).mono ?_; rintro e w1 ⟨rfl, hb⟩; refine ⟨?_, hb⟩; rfl)); (try go_simp))
    (refine textB_al _ (57) (#[.int .i64 0, .int .i64 0]) rfl rfl rfl (fun ρ W => ?_) ?_; (focus (first | rfl | (go_simp; done) | (go_simp; rfl))); (try go_simp))
    (refine textB_al _ (57) (#[.int .i64 0, .int .i64 0]) rfl rfl rfl (fun ρ W => ?_) ?_; (focus (first | rfl | (go_simp; done) | (go_simp; rfl))); (try go_simp))
    (refine textB_st _ _ _ (#[.int .i64 P1, .int .i64 P2]) rfl rfl rfl rfl (fun b W hb => ?_) ?_; (focus (have c0 := cell_of_block (o := 0) hb rfl; have f0 := free_of_block 0 hb; have c1 := cell_of_block (o := 1) hb rfl; have f1 := free_of_block 1 hb; refine ⟨_, (by first | (go_simp; done) | (go_simp; rfl)), ((wrote_refl hb).set 0 (.int .i64 P1)).set 1 (.int .i64 P2)⟩)); (try go_simp))
    (refine textB_st _ _ _ (#[.int .i64 Q1, .int .i64 Q2]) rfl rfl rfl rfl (fun b W hb => ?_) ?_; (focus (have c0 := cell_of_block (o := 0) hb rfl; have f0 := free_of_block 0 hb; have c1 := cell_of_block (o := 1) hb rfl; have f1 := free_of_block 1 hb; refine ⟨_, (by first | (go_simp; done) | (go_simp; rfl)), ((wrote_refl hb).set 0 (.int .i64 Q1)).set 1 (.int .i64 Q2)⟩)); (try go_simp))
    intro blk w2 hb2 hbx hbd
    have hq := hbx _ List.mem_cons_self
    have hp := hbx _ (List.mem_cons_of_mem _ List.mem_cons_self)
    have hpq := hbd _ List.mem_cons_self _ (List.mem_cons_of_mem _ List.mem_cons_self) (by simp)
    dsimp only at hq hp hpq
    simp only [List.map_cons, List.map_nil, putAll]
    obtain ⟨hq1, hq2⟩ := hq
    obtain ⟨hp1, hp2⟩ := hp
    clear hbx hbd
    generalize blk 10 = bq at *
    generalize blk 9 = bp at *
    have q0 := cell_of_block (o := 0) hq2 rfl
    have q1 := cell_of_block (o := 1) hq2 rfl
    have p0 := cell_of_block (o := 0) hp2 rfl
    have p1 := cell_of_block (o := 1) hp2 rfl
    obtain ⟨hc, hf⟩ := bcell hb2
    have e4 := (hc _ 2 l1').trans d4
    have lq := blk_lt hq2
    have lp := blk_lt hp2
    have l1 : w.heap.size + 1 < w2.heap.size := Nat.lt_of_lt_of_le l1' hb2.size
    have HX2 := Lib.hid (HX.out.trans (hb2.mono HX.out.size))
    clear hc hf d0 d1 d4 l0' l1' HX hb2 hq2 hp2 hp1 hq1
    clear W1
    go_simp
    go_wp2_with fail
    clear h
    refine wp_region_boxes w2 (by kernel_rfl) (by kernel_rfl) (Below.refl _ _) ?_
    (refine textB_det ?_ rfl rfl ?_ (fun W hS => ?_) ?_; rotate_left; (focus go_simp); (focus (obtain ⟨hc, hf⟩ := bcell hS; go_simp; first | (refine ⟨?_, Below.refl _ _⟩; rfl) | rfl | exact Below.refl _ _)); (try go_simp))
    (refine textB_det ?_ rfl rfl ?_ (fun W hS => ?_) ?_; rotate_left; (focus go_simp); (focus (obtain ⟨hc, hf⟩ := bcell hS; go_simp; first | (refine ⟨?_, Below.refl _ _⟩; rfl) | rfl | exact Below.refl _ _)); (try go_simp))
    (refine textB_det ?_ rfl rfl ?_ (fun W hS => ?_) ?_; rotate_left; (focus go_simp); (focus (obtain ⟨hc, hf⟩ := bcell hS; go_simp; first | (refine ⟨?_, Below.refl _ _⟩; rfl) | rfl | exact Below.refl _ _)); (try go_simp))
    (refine textB_det ?_ rfl rfl ?_ (fun W hS => ?_) ?_; rotate_left; (focus go_simp); (focus (obtain ⟨hc, hf⟩ := bcell hS; go_simp; first | (refine ⟨?_, Below.refl _ _⟩; rfl) | rfl | exact Below.refl _ _)); (try go_simp))
    (refine textB_det ?_ rfl rfl ?_ (fun W hS => ?_) ?_; rotate_left; (focus go_simp); (focus (obtain ⟨hc, hf⟩ := bcell hS; go_simp; first | (refine ⟨?_, Below.refl _ _⟩; rfl) | rfl | exact Below.refl _ _)); (try go_simp))
    (refine textB_det ?_ rfl rfl ?_ (fun W hS => ?_) ?_; rotate_left; (focus go_simp); (focus (obtain ⟨hc, hf⟩ := bcell hS; go_simp; first | (refine ⟨?_, Below.refl _ _⟩; rfl) | rfl | exact Below.refl _ _)); (try go_simp))
    (refine textB_det ?_ rfl rfl ?_ (fun W hS => ?_) ?_; rotate_left; (focus go_simp); (focus (obtain ⟨hc, hf⟩ := bcell hS; go_simp; first | (refine ⟨?_, Below.refl _ _⟩; rfl) | rfl | exact Below.refl _ _)); (try go_simp))
    (refine textB_det ?_ rfl rfl ?_ (fun W hS => ?_) ?_; rotate_left; (focus go_simp); (focus (obtain ⟨hc, hf⟩ := bcell hS; go_simp; first | (refine ⟨?_, Below.refl _ _⟩; rfl) | rfl | exact Below.refl _ _)); (try go_simp))
    (refine textB_det ?_ rfl rfl ?_ (fun W hS => ?_) ?_; rotate_left; (focus go_simp); (focus (obtain ⟨hc, hf⟩ := bcell hS; go_simp; first | (refine ⟨?_, Below.refl _ _⟩; rfl) | rfl | exact Below.refl _ _)); (try go_simp))
    (refine textB_det ?_ rfl rfl ?_ (fun W hS => ?_) ?_; rotate_left; (focus go_simp); (focus (obtain ⟨hc, hf⟩ := bcell hS; go_simp; first | (refine ⟨?_, Below.refl _ _⟩; rfl) | rfl | exact Below.refl _ _)); (try go_simp))
    (refine textB_det ?_ rfl rfl ?_ (fun W hS => ?_) ?_; rotate_left; (focus go_simp); (focus (obtain ⟨hc, hf⟩ := bcell hS; go_simp; refine (kC.out _).mono ?_; rintro e w1 ⟨rfl, hb⟩; refine ⟨?_, hb⟩; rfl)); (try go_simp))
    (refine textB_det ?_ rfl rfl ?_ (fun W hS => ?_) ?_; rotate_left; (focus go_simp); (focus (obtain ⟨hc, hf⟩ := bcell hS; go_simp; first | (refine ⟨?_, Below.refl _ _⟩; rfl) | rfl | exact Below.refl _ _)); (try go_simp))
    (refine textB_det ?_ rfl rfl ?_ (fun W hS => ?_) ?_; rotate_left; (focus go_simp); (focus (obtain ⟨hc, hf⟩ := bcell hS; go_simp; first | (refine ⟨?_, Below.refl _ _⟩; rfl) | rfl | exact Below.refl _ _)); (try go_simp))
    (refine textB_det ?_ rfl rfl ?_ (fun W hS => ?_) ?_; rotate_left; (focus go_simp); (focus (obtain ⟨hc, hf⟩ := bcell hS; go_simp; first | (refine ⟨?_, Below.refl _ _⟩; rfl) | rfl | exact Below.refl _ _)); (try go_simp))
    (refine textB_det ?_ rfl rfl ?_ (fun W hS => ?_) ?_; rotate_left; (focus go_simp); (focus (obtain ⟨hc, hf⟩ := bcell hS; go_simp; first | (refine ⟨?_, Below.refl _ _⟩; rfl) | rfl | exact Below.refl _ _)); (try go_simp))
    (refine textB_det ?_ rfl rfl ?_ (fun W hS => ?_) ?_; rotate_left; (focus go_simp); (focus (obtain ⟨hc, hf⟩ := bcell hS; go_simp; first | (refine ⟨?_, Below.refl _ _⟩; rfl) | rfl | exact Below.refl _ _)); (try go_simp))
    (refine textB_det ?_ rfl rfl ?_ (fun W hS => ?_) ?_; rotate_left; (focus go_simp); (focus (obtain ⟨hc, hf⟩ := bcell hS; go_simp; first | (refine ⟨?_, Below.refl _ _⟩; rfl) | rfl | exact Below.refl _ _)); (try go_simp))
    (refine textB_det ?_ rfl rfl ?_ (fun W hS => ?_) ?_; rotate_left; (focus go_simp); (focus (obtain ⟨hc, hf⟩ := bcell hS; go_simp; first | (refine ⟨?_, Below.refl _ _⟩; rfl) | rfl | exact Below.refl _ _)); (try go_simp))
    (refine textB_det ?_ rfl rfl ?_ (fun W hS => ?_) ?_; rotate_left; (focus go_simp); (focus (obtain ⟨hc, hf⟩ := bcell hS; go_simp; first | (refine ⟨?_, Below.refl _ _⟩; rfl) | rfl | exact Below.refl _ _)); (try go_simp))
    (refine textB_det ?_ rfl rfl ?_ (fun W hS => ?_) ?_; rotate_left; (focus go_simp); (focus (obtain ⟨hc, hf⟩ := bcell hS; go_simp; first | (refine ⟨?_, Below.refl _ _⟩; rfl) | rfl | exact Below.refl _ _)); (try go_simp))
    (refine textB_det ?_ rfl rfl ?_ (fun W hS => ?_) ?_; rotate_left; (focus go_simp); (focus (obtain ⟨hc, hf⟩ := bcell hS; go_simp; first | (refine ⟨?_, Below.refl _ _⟩; rfl) | rfl | exact Below.refl _ _)); (try go_simp))
    (refine textB_det ?_ rfl rfl ?_ (fun W hS => ?_) ?_; rotate_left; (focus go_simp); (focus (obtain ⟨hc, hf⟩ := bcell hS; go_simp; first | (refine ⟨?_, Below.refl _ _⟩; rfl) | rfl | exact Below.refl _ _)); (try go_simp))
    (refine textB_det ?_ rfl rfl ?_ (fun W hS => ?_) ?_; rotate_left; (focus go_simp); (focus (obtain ⟨hc, hf⟩ := bcell hS; go_simp; first | (refine ⟨?_, Below.refl _ _⟩; rfl) | rfl | exact Below.refl _ _)); (try go_simp))
    (refine textB_det ?_ rfl rfl ?_ (fun W hS => ?_) ?_; rotate_left; (focus go_simp); (focus (obtain ⟨hc, hf⟩ := bcell hS; go_simp; first | (refine ⟨?_, Below.refl _ _⟩; rfl) | rfl | exact Below.refl _ _)); (try go_simp))
    (refine textB_det ?_ rfl rfl ?_ (fun W hS => ?_) ?_; rotate_left; (focus go_simp); (focus (obtain ⟨hc, hf⟩ := bcell hS; go_simp; first | (refine ⟨?_, Below.refl _ _⟩; rfl) | rfl | exact Below.refl _ _)); (try go_simp))
    (refine textB_det ?_ rfl rfl ?_ (fun W hS => ?_) ?_; rotate_left; (focus go_simp); (focus (obtain ⟨hc, hf⟩ := bcell hS; go_simp; first | (refine ⟨?_, Below.refl _ _⟩; rfl) | rfl | exact Below.refl _ _)); (try go_simp))
    (refine textB_det ?_ rfl rfl ?_ (fun W hS => ?_) ?_; rotate_left; (focus go_simp); (focus (obtain ⟨hc, hf⟩ := bcell hS; go_simp; refine (kD.out _).mono ?_; rintro e w1 ⟨rfl, hb⟩; refine ⟨?_, hb⟩; rfl)); (try go_simp))
    (refine textB_det ?_ rfl rfl ?_ (fun W hS => ?_) ?_; rotate_left; (focus go_simp); (focus (obtain ⟨hc, hf⟩ := bcell hS; go_simp; first | (refine ⟨?_, Below.refl _ _⟩; rfl) | rfl | exact Below.refl _ _)); (try go_simp))
    (refine textB_det ?_ rfl rfl ?_ (fun W hS => ?_) ?_; rotate_left; (focus go_simp); (focus (obtain ⟨hc, hf⟩ := bcell hS; go_simp; first | (refine ⟨?_, Below.refl _ _⟩; rfl) | rfl | exact Below.refl _ _)); (try go_simp))
    (refine textB_det ?_ rfl rfl ?_ (fun W hS => ?_) ?_; rotate_left; (focus go_simp); (focus (obtain ⟨hc, hf⟩ := bcell hS; go_simp; first | (refine ⟨?_, Below.refl _ _⟩; rfl) | rfl | exact Below.refl _ _)); (try go_simp))
    intro blk w3 hb3 hn1 hn2
    clear hn1 hn2
    simp only [List.map_nil, putAll]
    clear blk
    obtain ⟨hc, hf⟩ := bcell hb3
    have r0 := (hc _ 0 lq).trans q0
    have s0 := (hc _ 0 lp).trans p0
    have HX3 := Lib.hid (HX2.out.trans (hb3.mono HX2.out.size))
    have mq : bq < w3.heap.size := Nat.lt_of_lt_of_le lq hb3.size
    have mp : bp < w3.heap.size := Nat.lt_of_lt_of_le lp hb3.size
    clear hc hf q0 q1 p0 p1 e4 lq lp l1 HX2 hb3
    clear w2
    go_wp2_with fail
    refine wp_region_boxes w3 (by kernel_rfl) (by kernel_rfl) (Below.refl _ _) ?_
    (refine textB_det ?_ rfl rfl ?_ (fun W hS => ?_) ?_; rotate_left; (focus go_simp); (focus (obtain ⟨hc, hf⟩ := bcell hS; go_simp; first | (refine ⟨?_, Below.refl _ _⟩; rfl) | rfl | exact Below.refl _ _)); (try go_simp))
    (refine textB_det ?_ rfl rfl ?_ (fun W hS => ?_) ?_; rotate_left; (focus go_simp); (focus (obtain ⟨hc, hf⟩ := bcell hS; go_simp; first | (refine ⟨?_, Below.refl _ _⟩; rfl) | rfl | exact Below.refl _ _)); (try go_simp))
    (refine textB_det ?_ rfl rfl ?_ (fun W hS => ?_) ?_; rotate_left; (focus go_simp); (focus (obtain ⟨hc, hf⟩ := bcell hS; go_simp; first | (refine ⟨?_, Below.refl _ _⟩; rfl) | rfl | exact Below.refl _ _)); (try go_simp))
    (refine textB_det ?_ rfl rfl ?_ (fun W hS => ?_) ?_; rotate_left; (focus go_simp); (focus (obtain ⟨hc, hf⟩ := bcell hS; go_simp; refine (kF.out _).mono ?_; rintro e w1 ⟨rfl, hb⟩; refine ⟨?_, hb⟩; rfl)); (try go_simp))
    (refine textB_det ?_ rfl rfl ?_ (fun W hS => ?_) ?_; rotate_left; (focus go_simp); (focus (obtain ⟨hc, hf⟩ := bcell hS; go_simp; first | (refine ⟨?_, Below.refl _ _⟩; rfl) | rfl | exact Below.refl _ _)); (try go_simp))
    (refine textB_det ?_ rfl rfl ?_ (fun W hS => ?_) ?_; rotate_left; (focus go_simp); (focus (obtain ⟨hc, hf⟩ := bcell hS; go_simp; first | (refine ⟨?_, Below.refl _ _⟩; rfl) | rfl | exact Below.refl _ _)); (try go_simp))
    (refine textB_det ?_ rfl rfl ?_ (fun W hS => ?_) ?_; rotate_left; (focus go_simp); (focus (obtain ⟨hc, hf⟩ := bcell hS; go_simp; first | (refine ⟨?_, Below.refl _ _⟩; rfl) | rfl | exact Below.refl _ _)); (try go_simp))
    (refine textB_det ?_ rfl rfl ?_ (fun W hS => ?_) ?_; rotate_left; (focus go_simp); (focus (obtain ⟨hc, hf⟩ := bcell hS; go_simp; refine (kG.out _).mono ?_; rintro e w1 ⟨rfl, hb⟩; refine ⟨?_, hb⟩; rfl)); (try go_simp))
    (refine textB_det ?_ rfl rfl ?_ (fun W hS => ?_) ?_; rotate_left; (focus go_simp); (focus (obtain ⟨hc, hf⟩ := bcell hS; go_simp; first | (refine ⟨?_, Below.refl _ _⟩; rfl) | rfl | exact Below.refl _ _)); (try go_simp))
    (refine textB_det ?_ rfl rfl ?_ (fun W hS => ?_) ?_; rotate_left; (focus go_simp); (focus (obtain ⟨hc, hf⟩ := bcell hS; go_simp; first | (refine ⟨?_, Below.refl _ _⟩; rfl) | rfl | exact Below.refl _ _)); (try go_simp))
    intro blk w4 hb4 hn1 hn2
    clear hn1 hn2
    simp only [List.map_nil, putAll]
    clear blk
    have HX4 := Lib.hid (HX3.out.trans (hb4.mono HX3.out.size))
    clear r0 s0 HX3 hb4 mq mp
    go_wp2_with (go_at_call 38; refine (share_one _).mono ?_; rintro e w5 ⟨rfl, hb5⟩)
    go_ret
    exact ⟨rfl, below_next HX4.out hb5⟩
  · go_enter Try.func8, Try.ntmps8
    go_wp2_with fail
    generalize hW : (w.alloc (.cells #[.int .i64 u, .int .i64 s] 57)).alloc (.cells #[.int .i64 x, .int .i64 y, .int .i64 t2] 61) = W0
    have c0 : W0.cell? ⟨w.heap.size, 0, none⟩ = some (.int .i64 u) := by subst hW; go_simp
    have c1 : W0.cell? ⟨w.heap.size, 1, none⟩ = some (.int .i64 s) := by subst hW; go_simp
    have c2 : W0.cell? ⟨w.heap.size + 1, 0, none⟩ = some (.int .i64 x) := by subst hW; go_simp
    have c3 : W0.cell? ⟨w.heap.size + 1, 1, none⟩ = some (.int .i64 y) := by subst hW; go_simp
    have c4 : W0.cell? ⟨w.heap.size + 1, 2, none⟩ = some (.int .i64 t2) := by subst hW; go_simp
    have hx := Lib.hid (show Below w.heap.size w W0 by rw [← hW]; exact (by repeat (first | exact Below.refl _ _ | assumption | refine below_drewN ?_ _ | refine Below.drew ?_ | refine below_alloc ?_ _ | refine Below.alloc ?_ (by first | omega | (simp; done) | (simp; omega)) _ | refine Below.setCell ?_ (Below.size (by assumption)) _ | refine Below.setCell ?_ (by first | omega | (simp; done) | (simp; omega)) _ | (refine Below.trans ?_ (Below.mono (by assumption) (by first | omega | (simp; done) | (simp; omega)))) | refine below_next ?_ (by assumption))))
    clear hW
    have l0 : w.heap.size < W0.heap.size := World.block_lt_of_cell? W0 _ c0
    have l1 : w.heap.size + 1 < W0.heap.size := World.block_lt_of_cell? W0 _ c2
    go_quiet (fail)
    have HX := Lib.hid (below_drewK hx.out nq)
    have d0 : (W0.drewN nq).cell? ⟨w.heap.size, 0, none⟩ = some (.int .i64 u) := by go_simp
    have d1 : (W0.drewN nq).cell? ⟨w.heap.size, 1, none⟩ = some (.int .i64 s) := by go_simp
    have d4 : (W0.drewN nq).cell? ⟨w.heap.size + 1, 2, none⟩ = some (.int .i64 t2) := by go_simp
    have l0' : w.heap.size < (W0.drewN nq).heap.size := World.block_lt_of_cell? _ _ d0
    have l1' : w.heap.size + 1 < (W0.drewN nq).heap.size := World.block_lt_of_cell? _ _ d4
    go_wp2_with fail
    clear c0 c1 c2 c3 c4 l0 l1 hx
    generalize W0.drewN nq = W1 at *
    refine wp_region_boxes W1 (by kernel_rfl) (by kernel_rfl) (Below.refl _ _) ?_
    (refine textB_det ?_ rfl rfl ?_ (fun W hS => ?_) ?_; rotate_left; (focus go_simp); (focus (obtain ⟨hc, hf⟩ := bcell hS; go_simp; first | (refine ⟨?_, Below.refl _ _⟩; rfl) | rfl | exact Below.refl _ _)); (try go_simp))
    (refine textB_det ?_ rfl rfl ?_ (fun W hS => ?_) ?_; rotate_left; (focus go_simp); (focus (obtain ⟨hc, hf⟩ := bcell hS; go_simp; first | (refine ⟨?_, Below.refl _ _⟩; rfl) | rfl | exact Below.refl _ _)); (try go_simp))
    (refine textB_det ?_ rfl rfl ?_ (fun W hS => ?_) ?_; rotate_left; (focus go_simp); (focus (obtain ⟨hc, hf⟩ := bcell hS; go_simp; first | (refine ⟨?_, Below.refl _ _⟩; rfl) | rfl | exact Below.refl _ _)); (try go_simp))
    (refine textB_det ?_ rfl rfl ?_ (fun W hS => ?_) ?_; rotate_left; (focus go_simp); (focus (obtain ⟨hc, hf⟩ := bcell hS; go_simp; first | (refine ⟨?_, Below.refl _ _⟩; rfl) | rfl | exact Below.refl _ _)); (try go_simp))
    (refine textB_det ?_ rfl rfl ?_ (fun W hS => ?_) ?_; rotate_left; (focus go_simp); (focus (obtain ⟨hc, hf⟩ := bcell hS; go_simp; refine (kA.out _).mono ?_; rintro e w1 ⟨rfl, hb⟩; refine ⟨?_, hb⟩; rfl)); (try go_simp))
    (refine textB_det ?_ rfl rfl ?_ (fun W hS => ?_) ?_; rotate_left; (focus go_simp); (focus (obtain ⟨hc, hf⟩ := bcell hS; go_simp; first | (refine ⟨?_, Below.refl _ _⟩; rfl) | rfl | exact Below.refl _ _)); (try go_simp))
    (refine textB_det ?_ rfl rfl ?_ (fun W hS => ?_) ?_; rotate_left; (focus go_simp); (focus (obtain ⟨hc, hf⟩ := bcell hS; go_simp; first | (refine ⟨?_, Below.refl _ _⟩; rfl) | rfl | exact Below.refl _ _)); (try go_simp))
    (refine textB_det ?_ rfl rfl ?_ (fun W hS => ?_) ?_; rotate_left; (focus go_simp); (focus (obtain ⟨hc, hf⟩ := bcell hS; go_simp; first | (refine ⟨?_, Below.refl _ _⟩; rfl) | rfl | exact Below.refl _ _)); (try go_simp))
    (refine textB_det ?_ rfl rfl ?_ (fun W hS => ?_) ?_; rotate_left; (focus go_simp); (focus (obtain ⟨hc, hf⟩ := bcell hS; go_simp; first | (refine ⟨?_, Below.refl _ _⟩; rfl) | rfl | exact Below.refl _ _)); (try go_simp))
    (refine textB_det ?_ rfl rfl ?_ (fun W hS => ?_) ?_; rotate_left; (focus go_simp); (focus (obtain ⟨hc, hf⟩ := bcell hS; go_simp; refine (kB.out _).mono ?_; rintro e w1 ⟨rfl, hb⟩; refine ⟨?_, hb⟩; rfl)); (try go_simp))
    (refine textB_al _ (57) (#[.int .i64 0, .int .i64 0]) rfl rfl rfl (fun ρ W => ?_) ?_; (focus (first | rfl | (go_simp; done) | (go_simp; rfl))); (try go_simp))
    (refine textB_al _ (57) (#[.int .i64 0, .int .i64 0]) rfl rfl rfl (fun ρ W => ?_) ?_; (focus (first | rfl | (go_simp; done) | (go_simp; rfl))); (try go_simp))
    (refine textB_st _ _ _ (#[.int .i64 P1, .int .i64 P2]) rfl rfl rfl rfl (fun b W hb => ?_) ?_; (focus (have c0 := cell_of_block (o := 0) hb rfl; have f0 := free_of_block 0 hb; have c1 := cell_of_block (o := 1) hb rfl; have f1 := free_of_block 1 hb; refine ⟨_, (by first | (go_simp; done) | (go_simp; rfl)), ((wrote_refl hb).set 0 (.int .i64 P1)).set 1 (.int .i64 P2)⟩)); (try go_simp))
    (refine textB_st _ _ _ (#[.int .i64 Q1, .int .i64 Q2]) rfl rfl rfl rfl (fun b W hb => ?_) ?_; (focus (have c0 := cell_of_block (o := 0) hb rfl; have f0 := free_of_block 0 hb; have c1 := cell_of_block (o := 1) hb rfl; have f1 := free_of_block 1 hb; refine ⟨_, (by first | (go_simp; done) | (go_simp; rfl)), ((wrote_refl hb).set 0 (.int .i64 Q1)).set 1 (.int .i64 Q2)⟩)); (try go_simp))
    intro blk w2 hb2 hbx hbd
    have hq := hbx _ List.mem_cons_self
    have hp := hbx _ (List.mem_cons_of_mem _ List.mem_cons_self)
    have hpq := hbd _ List.mem_cons_self _ (List.mem_cons_of_mem _ List.mem_cons_self) (by simp)
    dsimp only at hq hp hpq
    simp only [List.map_cons, List.map_nil, putAll]
    obtain ⟨hq1, hq2⟩ := hq
    obtain ⟨hp1, hp2⟩ := hp
    clear hbx hbd
    generalize blk 10 = bq at *
    generalize blk 9 = bp at *
    have q0 := cell_of_block (o := 0) hq2 rfl
    have q1 := cell_of_block (o := 1) hq2 rfl
    have p0 := cell_of_block (o := 0) hp2 rfl
    have p1 := cell_of_block (o := 1) hp2 rfl
    obtain ⟨hc, hf⟩ := bcell hb2
    have e4 := (hc _ 2 l1').trans d4
    have lq := blk_lt hq2
    have lp := blk_lt hp2
    have l1 : w.heap.size + 1 < w2.heap.size := Nat.lt_of_lt_of_le l1' hb2.size
    have HX2 := Lib.hid (HX.out.trans (hb2.mono HX.out.size))
    clear hc hf d0 d1 d4 l0' l1' HX hb2 hq2 hp2 hp1 hq1
    clear W1
    go_simp
    go_wp2_with fail
    clear h
    refine wp_region_boxes w2 (by kernel_rfl) (by kernel_rfl) (Below.refl _ _) ?_
    (refine textB_det ?_ rfl rfl ?_ (fun W hS => ?_) ?_; rotate_left; (focus go_simp); (focus (obtain ⟨hc, hf⟩ := bcell hS; go_simp; first | (refine ⟨?_, Below.refl _ _⟩; rfl) | rfl | exact Below.refl _ _)); (try go_simp))
    (refine textB_det ?_ rfl rfl ?_ (fun W hS => ?_) ?_; rotate_left; (focus go_simp); (focus (obtain ⟨hc, hf⟩ := bcell hS; go_simp; first | (refine ⟨?_, Below.refl _ _⟩; rfl) | rfl | exact Below.refl _ _)); (try go_simp))
    (refine textB_det ?_ rfl rfl ?_ (fun W hS => ?_) ?_; rotate_left; (focus go_simp); (focus (obtain ⟨hc, hf⟩ := bcell hS; go_simp; first | (refine ⟨?_, Below.refl _ _⟩; rfl) | rfl | exact Below.refl _ _)); (try go_simp))
    (refine textB_det ?_ rfl rfl ?_ (fun W hS => ?_) ?_; rotate_left; (focus go_simp); (focus (obtain ⟨hc, hf⟩ := bcell hS; go_simp; first | (refine ⟨?_, Below.refl _ _⟩; rfl) | rfl | exact Below.refl _ _)); (try go_simp))
    (refine textB_det ?_ rfl rfl ?_ (fun W hS => ?_) ?_; rotate_left; (focus go_simp); (focus (obtain ⟨hc, hf⟩ := bcell hS; go_simp; first | (refine ⟨?_, Below.refl _ _⟩; rfl) | rfl | exact Below.refl _ _)); (try go_simp))
    (refine textB_det ?_ rfl rfl ?_ (fun W hS => ?_) ?_; rotate_left; (focus go_simp); (focus (obtain ⟨hc, hf⟩ := bcell hS; go_simp; first | (refine ⟨?_, Below.refl _ _⟩; rfl) | rfl | exact Below.refl _ _)); (try go_simp))
    (refine textB_det ?_ rfl rfl ?_ (fun W hS => ?_) ?_; rotate_left; (focus go_simp); (focus (obtain ⟨hc, hf⟩ := bcell hS; go_simp; first | (refine ⟨?_, Below.refl _ _⟩; rfl) | rfl | exact Below.refl _ _)); (try go_simp))
    (refine textB_det ?_ rfl rfl ?_ (fun W hS => ?_) ?_; rotate_left; (focus go_simp); (focus (obtain ⟨hc, hf⟩ := bcell hS; go_simp; first | (refine ⟨?_, Below.refl _ _⟩; rfl) | rfl | exact Below.refl _ _)); (try go_simp))
    (refine textB_det ?_ rfl rfl ?_ (fun W hS => ?_) ?_; rotate_left; (focus go_simp); (focus (obtain ⟨hc, hf⟩ := bcell hS; go_simp; first | (refine ⟨?_, Below.refl _ _⟩; rfl) | rfl | exact Below.refl _ _)); (try go_simp))
    (refine textB_det ?_ rfl rfl ?_ (fun W hS => ?_) ?_; rotate_left; (focus go_simp); (focus (obtain ⟨hc, hf⟩ := bcell hS; go_simp; first | (refine ⟨?_, Below.refl _ _⟩; rfl) | rfl | exact Below.refl _ _)); (try go_simp))
    (refine textB_det ?_ rfl rfl ?_ (fun W hS => ?_) ?_; rotate_left; (focus go_simp); (focus (obtain ⟨hc, hf⟩ := bcell hS; go_simp; refine (kC.out _).mono ?_; rintro e w1 ⟨rfl, hb⟩; refine ⟨?_, hb⟩; rfl)); (try go_simp))
    (refine textB_det ?_ rfl rfl ?_ (fun W hS => ?_) ?_; rotate_left; (focus go_simp); (focus (obtain ⟨hc, hf⟩ := bcell hS; go_simp; first | (refine ⟨?_, Below.refl _ _⟩; rfl) | rfl | exact Below.refl _ _)); (try go_simp))
    (refine textB_det ?_ rfl rfl ?_ (fun W hS => ?_) ?_; rotate_left; (focus go_simp); (focus (obtain ⟨hc, hf⟩ := bcell hS; go_simp; first | (refine ⟨?_, Below.refl _ _⟩; rfl) | rfl | exact Below.refl _ _)); (try go_simp))
    (refine textB_det ?_ rfl rfl ?_ (fun W hS => ?_) ?_; rotate_left; (focus go_simp); (focus (obtain ⟨hc, hf⟩ := bcell hS; go_simp; first | (refine ⟨?_, Below.refl _ _⟩; rfl) | rfl | exact Below.refl _ _)); (try go_simp))
    (refine textB_det ?_ rfl rfl ?_ (fun W hS => ?_) ?_; rotate_left; (focus go_simp); (focus (obtain ⟨hc, hf⟩ := bcell hS; go_simp; first | (refine ⟨?_, Below.refl _ _⟩; rfl) | rfl | exact Below.refl _ _)); (try go_simp))
    (refine textB_det ?_ rfl rfl ?_ (fun W hS => ?_) ?_; rotate_left; (focus go_simp); (focus (obtain ⟨hc, hf⟩ := bcell hS; go_simp; first | (refine ⟨?_, Below.refl _ _⟩; rfl) | rfl | exact Below.refl _ _)); (try go_simp))
    (refine textB_det ?_ rfl rfl ?_ (fun W hS => ?_) ?_; rotate_left; (focus go_simp); (focus (obtain ⟨hc, hf⟩ := bcell hS; go_simp; first | (refine ⟨?_, Below.refl _ _⟩; rfl) | rfl | exact Below.refl _ _)); (try go_simp))
    (refine textB_det ?_ rfl rfl ?_ (fun W hS => ?_) ?_; rotate_left; (focus go_simp); (focus (obtain ⟨hc, hf⟩ := bcell hS; go_simp; first | (refine ⟨?_, Below.refl _ _⟩; rfl) | rfl | exact Below.refl _ _)); (try go_simp))
    (refine textB_det ?_ rfl rfl ?_ (fun W hS => ?_) ?_; rotate_left; (focus go_simp); (focus (obtain ⟨hc, hf⟩ := bcell hS; go_simp; first | (refine ⟨?_, Below.refl _ _⟩; rfl) | rfl | exact Below.refl _ _)); (try go_simp))
    (refine textB_det ?_ rfl rfl ?_ (fun W hS => ?_) ?_; rotate_left; (focus go_simp); (focus (obtain ⟨hc, hf⟩ := bcell hS; go_simp; first | (refine ⟨?_, Below.refl _ _⟩; rfl) | rfl | exact Below.refl _ _)); (try go_simp))
    (refine textB_det ?_ rfl rfl ?_ (fun W hS => ?_) ?_; rotate_left; (focus go_simp); (focus (obtain ⟨hc, hf⟩ := bcell hS; go_simp; first | (refine ⟨?_, Below.refl _ _⟩; rfl) | rfl | exact Below.refl _ _)); (try go_simp))
    (refine textB_det ?_ rfl rfl ?_ (fun W hS => ?_) ?_; rotate_left; (focus go_simp); (focus (obtain ⟨hc, hf⟩ := bcell hS; go_simp; first | (refine ⟨?_, Below.refl _ _⟩; rfl) | rfl | exact Below.refl _ _)); (try go_simp))
    (refine textB_det ?_ rfl rfl ?_ (fun W hS => ?_) ?_; rotate_left; (focus go_simp); (focus (obtain ⟨hc, hf⟩ := bcell hS; go_simp; first | (refine ⟨?_, Below.refl _ _⟩; rfl) | rfl | exact Below.refl _ _)); (try go_simp))
    (refine textB_det ?_ rfl rfl ?_ (fun W hS => ?_) ?_; rotate_left; (focus go_simp); (focus (obtain ⟨hc, hf⟩ := bcell hS; go_simp; first | (refine ⟨?_, Below.refl _ _⟩; rfl) | rfl | exact Below.refl _ _)); (try go_simp))
    (refine textB_det ?_ rfl rfl ?_ (fun W hS => ?_) ?_; rotate_left; (focus go_simp); (focus (obtain ⟨hc, hf⟩ := bcell hS; go_simp; first | (refine ⟨?_, Below.refl _ _⟩; rfl) | rfl | exact Below.refl _ _)); (try go_simp))
    (refine textB_det ?_ rfl rfl ?_ (fun W hS => ?_) ?_; rotate_left; (focus go_simp); (focus (obtain ⟨hc, hf⟩ := bcell hS; go_simp; first | (refine ⟨?_, Below.refl _ _⟩; rfl) | rfl | exact Below.refl _ _)); (try go_simp))
    (refine textB_det ?_ rfl rfl ?_ (fun W hS => ?_) ?_; rotate_left; (focus go_simp); (focus (obtain ⟨hc, hf⟩ := bcell hS; go_simp; refine (kD.out _).mono ?_; rintro e w1 ⟨rfl, hb⟩; refine ⟨?_, hb⟩; rfl)); (try go_simp))
    (refine textB_det ?_ rfl rfl ?_ (fun W hS => ?_) ?_; rotate_left; (focus go_simp); (focus (obtain ⟨hc, hf⟩ := bcell hS; go_simp; first | (refine ⟨?_, Below.refl _ _⟩; rfl) | rfl | exact Below.refl _ _)); (try go_simp))
    (refine textB_det ?_ rfl rfl ?_ (fun W hS => ?_) ?_; rotate_left; (focus go_simp); (focus (obtain ⟨hc, hf⟩ := bcell hS; go_simp; first | (refine ⟨?_, Below.refl _ _⟩; rfl) | rfl | exact Below.refl _ _)); (try go_simp))
    (refine textB_det ?_ rfl rfl ?_ (fun W hS => ?_) ?_; rotate_left; (focus go_simp); (focus (obtain ⟨hc, hf⟩ := bcell hS; go_simp; first | (refine ⟨?_, Below.refl _ _⟩; rfl) | rfl | exact Below.refl _ _)); (try go_simp))
    intro blk w3 hb3 hn1 hn2
    clear hn1 hn2
    simp only [List.map_nil, putAll]
    clear blk
    obtain ⟨hc, hf⟩ := bcell hb3
    have r0 := (hc _ 0 lq).trans q0
    have s0 := (hc _ 0 lp).trans p0
    have HX3 := Lib.hid (HX2.out.trans (hb3.mono HX2.out.size))
    have mq : bq < w3.heap.size := Nat.lt_of_lt_of_le lq hb3.size
    have mp : bp < w3.heap.size := Nat.lt_of_lt_of_le lp hb3.size
    clear hc hf q0 q1 p0 p1 e4 lq lp l1 HX2 hb3
    clear w2
    go_wp2_with fail
    refine wp_region_boxes w3 (by kernel_rfl) (by kernel_rfl) (Below.refl _ _) ?_
    (refine textB_det ?_ rfl rfl ?_ (fun W hS => ?_) ?_; rotate_left; (focus go_simp); (focus (obtain ⟨hc, hf⟩ := bcell hS; go_simp; first | (refine ⟨?_, Below.refl _ _⟩; rfl) | rfl | exact Below.refl _ _)); (try go_simp))
    (refine textB_det ?_ rfl rfl ?_ (fun W hS => ?_) ?_; rotate_left; (focus go_simp); (focus (obtain ⟨hc, hf⟩ := bcell hS; go_simp; first | (refine ⟨?_, Below.refl _ _⟩; rfl) | rfl | exact Below.refl _ _)); (try go_simp))
    (refine textB_det ?_ rfl rfl ?_ (fun W hS => ?_) ?_; rotate_left; (focus go_simp); (focus (obtain ⟨hc, hf⟩ := bcell hS; go_simp; first | (refine ⟨?_, Below.refl _ _⟩; rfl) | rfl | exact Below.refl _ _)); (try go_simp))
    (refine textB_det ?_ rfl rfl ?_ (fun W hS => ?_) ?_; rotate_left; (focus go_simp); (focus (obtain ⟨hc, hf⟩ := bcell hS; go_simp; refine (kF.out _).mono ?_; rintro e w1 ⟨rfl, hb⟩; refine ⟨?_, hb⟩; rfl)); (try go_simp))
    (refine textB_det ?_ rfl rfl ?_ (fun W hS => ?_) ?_; rotate_left; (focus go_simp); (focus (obtain ⟨hc, hf⟩ := bcell hS; go_simp; first | (refine ⟨?_, Below.refl _ _⟩; rfl) | rfl | exact Below.refl _ _)); (try go_simp))
    (refine textB_det ?_ rfl rfl ?_ (fun W hS => ?_) ?_; rotate_left; (focus go_simp); (focus (obtain ⟨hc, hf⟩ := bcell hS; go_simp; first | (refine ⟨?_, Below.refl _ _⟩; rfl) | rfl | exact Below.refl _ _)); (try go_simp))
    (refine textB_det ?_ rfl rfl ?_ (fun W hS => ?_) ?_; rotate_left; (focus go_simp); (focus (obtain ⟨hc, hf⟩ := bcell hS; go_simp; first | (refine ⟨?_, Below.refl _ _⟩; rfl) | rfl | exact Below.refl _ _)); (try go_simp))
    (refine textB_det ?_ rfl rfl ?_ (fun W hS => ?_) ?_; rotate_left; (focus go_simp); (focus (obtain ⟨hc, hf⟩ := bcell hS; go_simp; refine (kG.out _).mono ?_; rintro e w1 ⟨rfl, hb⟩; refine ⟨?_, hb⟩; rfl)); (try go_simp))
    (refine textB_det ?_ rfl rfl ?_ (fun W hS => ?_) ?_; rotate_left; (focus go_simp); (focus (obtain ⟨hc, hf⟩ := bcell hS; go_simp; first | (refine ⟨?_, Below.refl _ _⟩; rfl) | rfl | exact Below.refl _ _)); (try go_simp))
    (refine textB_det ?_ rfl rfl ?_ (fun W hS => ?_) ?_; rotate_left; (focus go_simp); (focus (obtain ⟨hc, hf⟩ := bcell hS; go_simp; first | (refine ⟨?_, Below.refl _ _⟩; rfl) | rfl | exact Below.refl _ _)); (try go_simp))
    intro blk w4 hb4 hn1 hn2
    clear hn1 hn2
    simp only [List.map_nil, putAll]
    clear blk
    have HX4 := Lib.hid (HX3.out.trans (hb4.mono HX3.out.size))
    clear r0 s0 HX3 hb4 mq mp
    go_wp2_with (go_at_call 38; refine (share_one _).mono ?_; rintro e w5 ⟨rfl, hb5⟩)
    go_ret
    exact ⟨rfl, below_next HX4.out hb5⟩
end Go.Proofs.Ytnmhdodcfbjalaa
