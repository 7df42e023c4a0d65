/- The walk of ShareSplits. No condition but that arguments fit their kinds. -/
import Derived.Test.YtnmhdodcfbjalaaShareC
import Derived.Test.YtnmhdodcfbjalaaMask
namespace Go.Proofs.Ytnmhdodcfbjalaa
set_option linter.unusedVariables false
open Go.ChangeShapes Go.WideShapes Go.ChangeAt Go.RowKit
attribute [local go_sem ↓] Go.wp_at_zero Go.wp_at_succ comesTo_value_eq comesTo_skip_eq comesTo_enter_eq

theorem at_still {u s n h : Int} (u0 : 0 ≤ u) (u1 : u ≤ 1125899906842624) (s0 : 0 ≤ s) (s1 : s ≤ 1099511627776) (hn : clampI n - s < halfI h) : atI u s n h = (u, s) := by
  have hk : kI s (clampI n) (halfI h) = 0 := by
    unfold kI
    split
    · rfl
    · exact Int.ediv_eq_zero_of_lt (by omega) hn
  unfold atI
  rw [cntI_id u0 u1, clampI_id s0 s1, hk, shI_zero]
  simp
theorem at_near (u s n h : Int) : clampI n - (atI u s n h).2 < halfI h := by
  have hb := halfI_bd h
  show clampI n - (clampI s + kI (clampI s) (clampI n) (halfI h) * halfI h) < halfI h
  unfold kI
  split
  · simp; omega
  · have h1 := Int.emod_lt_of_pos (clampI n - clampI s) (show 0 < halfI h by omega)
    have h2 := Int.emod_add_mul_ediv (clampI n - clampI s) (halfI h)
    have h3 := Int.mul_comm (halfI h) ((clampI n - clampI s) / halfI h)
    omega
theorem charge_bd (u s n h x : Int) : (0 ≤ (chargeI u s n h x).1 ∧ (chargeI u s n h x).1 ≤ 1125899906842624) ∧ (0 ≤ (chargeI u s n h x).2 ∧ (chargeI u s n h x).2 ≤ 1099511627776) ∧ clampI n - (chargeI u s n h x).2 < halfI h ∧ (0 ≤ x → (atI u s n h).1 ≤ (chargeI u s n h x).1) ∧ (1 ≤ x → 1 ≤ (chargeI u s n h x).1) := by
  have h1 := cntI_bd ((atI u s n h).1 + cntI x)
  have h2 := (atI_bd u s n h).2.1
  have h3 := clampI_bd n
  have h4 := at_near u s n h
  have h5 := halfI_bd h
  have h6 := (atI_bd u s n h).1
  have h7 : 0 ≤ x → (atI u s n h).1 ≤ cntI ((atI u s n h).1 + cntI x) := fun hx => by unfold cntI; split <;> (try split) <;> (try split) <;> omega
  have h8 : 1 ≤ x → 1 ≤ cntI ((atI u s n h).1 + cntI x) := fun hx => by unfold cntI; split <;> (try split) <;> (try split) <;> omega
  unfold chargeI
  simp only
  refine ⟨h1, ?_, ?_, h7, h8⟩
  · split <;> omega
  · split <;> omega
theorem charge_twice (u s n h x y : Int) (hx : 1 ≤ x) (hx1 : x ≤ 16777216) (hy : 0 ≤ y) (hy1 : y ≤ 16777216) : chargeI (chargeI u s n h x).1 (chargeI u s n h x).2 n h y = chargeI u s n h (x + y) := by
  have hb := charge_bd u s n h x
  have e := at_still hb.1.1 hb.1.2 hb.2.1.1 hb.2.1.2 hb.2.2.1
  have h1 := hb.2.2.2.2 hx
  have ha := (atI_bd u s n h).1
  have hne : ¬ ((chargeI u s n h x).1 = 0 ∧ (chargeI u s n h x).2 = clampI (chargeI u s n h x).2) := by omega
  rw [chargeI, e]
  simp only
  rw [if_neg hne]
  unfold chargeI
  simp only
  refine Prod.ext ?_ rfl
  show cntI (cntI ((atI u s n h).1 + cntI x) + cntI y) = cntI ((atI u s n h).1 + cntI (x + y))
  rw [cntI_id (show 0 ≤ x by omega) (by omega), cntI_id hy (by omega), cntI_id (show 0 ≤ x + y by omega) (by omega)]
  unfold cntI
  repeat' split
  all_goals omega

set_option maxRecDepth 100000 in
set_option maxHeartbeats 8000000 in
theorem splits_walk (u s n b0 b1 b2 : Int) (w : World) :
    Calls Try.prog 9 #[.agg #[.int .i64 u, .int .i64 s], .int .i64 n, .agg #[.int .i64 b0, .int .i64 b1, .int .i64 b2]] w fun e w' => e = .returned (.bool true) ∧ Below w.heap.size w w' := by
  have m0 := mask_16777215 b0
  have m1 := mask_16777215 b1
  have m2 := mask_255 b2
  have r0 : 0 ≤ b0 % 16777216 ∧ b0 % 16777216 ≤ 16777215 := by omega
  have r1 : 0 ≤ b1 % 16777216 ∧ b1 % 16777216 ≤ 16777215 := by omega
  have r2 : 0 ≤ b2 % 256 ∧ b2 % 256 ≤ 255 := by omega
  have hC := charge_bd u s n (1 + b2 % 256) (1 + b0 % 16777216)
  have hT := charge_twice u s n (1 + b2 % 256) (1 + b0 % 16777216) (b1 % 16777216) (by omega) (by omega) (by omega) (by omega)
  have hD := charge_bd (chargeI u s n (1 + b2 % 256) (1 + b0 % 16777216)).1 (chargeI u s n (1 + b2 % 256) (1 + b0 % 16777216)).2 n (1 + b2 % 256) (b1 % 16777216)
  have hS1 := at_still hC.1.1 hC.1.2 hC.2.1.1 hC.2.1.2 hC.2.2.1
  have hS2 := at_still hD.1.1 hD.1.2 hD.2.1.1 hD.2.1.2 hD.2.2.1
  have q1 : (atI u s n (1 + b2 % 256)).1 ≤ (chargeI u s n (1 + b2 % 256) (1 + b0 % 16777216)).1 := hC.2.2.2.1 (by omega)
  have q2 := hD.2.2.2.1 (by omega)
  rw [hS1] at q2
  rw [hT] at hS2 q2
  clear hC hD hS1
  have kC := Lib.hid (fun W => charge_any u s n (1 + b2 % 256) (1 + b0 % 16777216) W)
  have kT := Lib.hid (fun W => charge_any (chargeI u s n (1 + b2 % 256) (1 + b0 % 16777216)).1 (chargeI u s n (1 + b2 % 256) (1 + b0 % 16777216)).2 n (1 + b2 % 256) (b1 % 16777216) W)
  rw [hT] at kT
  clear hT
  have kO := Lib.hid (fun W => charge_any u s n (1 + b2 % 256) (1 + b0 % 16777216 + b1 % 16777216) W)
  have kA := Lib.hid (fun W => at_any u s n (1 + b2 % 256) W)
  have kS := Lib.hid (fun W => at_any (chargeI u s n (1 + b2 % 256) (1 + b0 % 16777216 + b1 % 16777216)).1 (chargeI u s n (1 + b2 % 256) (1 + b0 % 16777216 + b1 % 16777216)).2 n (1 + b2 % 256) W)
  rw [hS2] at kS
  clear hS2
  simp only at q2
  generalize (chargeI u s n (1 + b2 % 256) (1 + b0 % 16777216 + b1 % 16777216)).1 = T1 at *
  generalize (chargeI u s n (1 + b2 % 256) (1 + b0 % 16777216 + b1 % 16777216)).2 = T2 at *
  generalize (chargeI u s n (1 + b2 % 256) (1 + b0 % 16777216)).1 = P1 at *
  generalize (chargeI u s n (1 + b2 % 256) (1 + b0 % 16777216)).2 = P2 at *
  generalize (atI u s n (1 + b2 % 256)).1 = Q1 at *
  generalize (atI u s n (1 + b2 % 256)).2 = Q2 at *
  have g1 : decide (Q1 ≤ P1) = true := by simpa using q1
  have g2 : decide (P1 ≤ T1) = true := by simpa using q2
  clear q1 q2
  generalize b0 % 16777216 = x at *
  generalize b1 % 16777216 = y at *
  generalize b2 % 256 = h at *
  obtain ⟨x0, x1⟩ := r0
  obtain ⟨y0, y1⟩ := r1
  obtain ⟨h0, h1⟩ := r2
  go_enter Try.func9, Try.ntmps9
  go_wp2_with fail
  go_quiet (fail)
  go_wp2_with fail
  generalize hW : ((w.alloc (.cells #[.int .i64 u, .int .i64 s] 57)).alloc (.cells #[.int .i64 b0, .int .i64 b1, .int .i64 b2] 65)).drewN nq = W0
  have c0 : W0.cell? ⟨w.heap.size, 0, none⟩ = some (.int .i64 u) := by subst hW; go_simp
  have c1 : W0.cell? ⟨w.heap.size, 1, none⟩ = some (.int .i64 s) := by subst hW; go_simp
  have hx0 := Lib.hid (show Below w.heap.size w W0 by rw [← hW]; exact below_drewK (by exact (by repeat (first | exact Below.refl _ _ | assumption | refine below_drewN ?_ _ | refine Below.drew ?_ | refine below_alloc ?_ _ | refine Below.alloc ?_ (by first | omega | (simp; done) | (simp; omega)) _ | refine Below.setCell ?_ (Below.size (by assumption)) _ | refine Below.setCell ?_ (by first | omega | (simp; done) | (simp; omega)) _ | (refine Below.trans ?_ (Below.mono (by assumption) (by first | omega | (simp; done) | (simp; omega)))) | refine below_next ?_ (by assumption)))) nq)
  clear hW m0 m1 m2
  have l0 : w.heap.size < W0.heap.size := World.block_lt_of_cell? _ _ c0
  refine (kC.out _).mono ?_
  rintro e w1 ⟨rfl, hb1⟩
  have l1 : w.heap.size < w1.heap.size := Nat.lt_of_lt_of_le l0 hb1.size
  obtain ⟨hc, hf⟩ := bcell hb1
  replace c0 := (hc _ 0 l0).trans c0
  replace c1 := (hc _ 1 l0).trans c1
  have hx1 := Lib.hid (hx0.out.trans (hb1.mono hx0.out.size))
  clear hc hf l0 hb1 hx0
  go_wp2_with fail
  clear W0
  refine (kT.out _).mono ?_
  rintro e w2 ⟨rfl, hb2⟩
  have l2 : w.heap.size < w2.heap.size := Nat.lt_of_lt_of_le l1 hb2.size
  obtain ⟨hc, hf⟩ := bcell hb2
  replace c0 := (hc _ 0 l1).trans c0
  replace c1 := (hc _ 1 l1).trans c1
  have hx2 := Lib.hid (hx1.out.trans (hb2.mono hx1.out.size))
  clear hc hf l1 hb2 hx1
  go_wp2_with fail
  clear w1
  generalize hW : w2.alloc (.cells #[.int .i64 T1, .int .i64 T2] 57) = W3
  have d0 : W3.cell? ⟨w.heap.size, 0, none⟩ = some (.int .i64 u) := by subst hW; go_simp
  have d1 : W3.cell? ⟨w.heap.size, 1, none⟩ = some (.int .i64 s) := by subst hW; go_simp
  have t0 : W3.cell? ⟨w2.heap.size, 0, none⟩ = some (.int .i64 T1) := by subst hW; go_simp
  have t1 : W3.cell? ⟨w2.heap.size, 1, none⟩ = some (.int .i64 T2) := by subst hW; go_simp
  have hx3 := Lib.hid (show Below w.heap.size w W3 by rw [← hW]; exact hx2.out.alloc hx2.out.size _)
  clear hW c0 c1 l2 hx2
  generalize w2.heap.size = p at *
  clear w2
  have l3 : w.heap.size < W3.heap.size := World.block_lt_of_cell? _ _ d0
  have n3 : p < W3.heap.size := World.block_lt_of_cell? _ _ t0
  refine (kO.out _).mono ?_
  rintro e w4 ⟨rfl, hb4⟩
  have l4 : w.heap.size < w4.heap.size := Nat.lt_of_lt_of_le l3 hb4.size
  have n4 : p < w4.heap.size := Nat.lt_of_lt_of_le n3 hb4.size
  obtain ⟨hc, hf⟩ := bcell hb4
  replace d0 := (hc _ 0 l3).trans d0
  replace d1 := (hc _ 1 l3).trans d1
  replace t0 := (hc _ 0 n3).trans t0
  replace t1 := (hc _ 1 n3).trans t1
  have hx4 := Lib.hid (hx3.out.trans (hb4.mono hx3.out.size))
  clear hc hf l3 n3 hb4 hx3
  go_wp2_with fail
  clear W3
  generalize hW : w4.alloc (.cells #[.int .i64 T1, .int .i64 T2] 57) = W5
  have c0 : W5.cell? ⟨w.heap.size, 0, none⟩ = some (.int .i64 u) := by subst hW; go_simp
  have c1 : W5.cell? ⟨w.heap.size, 1, none⟩ = some (.int .i64 s) := by subst hW; go_simp
  have v0 : W5.cell? ⟨p, 0, none⟩ = some (.int .i64 T1) := by subst hW; go_simp
  have v1 : W5.cell? ⟨p, 1, none⟩ = some (.int .i64 T2) := by subst hW; go_simp
  have hx5 := Lib.hid (show Below w.heap.size w W5 by rw [← hW]; exact hx4.out.alloc hx4.out.size _)
  clear hW d0 d1 t0 t1 l4 n4 hx4
  generalize w4.heap.size = pp at *
  clear w4
  have l5 : w.heap.size < W5.heap.size := World.block_lt_of_cell? _ _ c0
  have n5 : p < W5.heap.size := World.block_lt_of_cell? _ _ v0
  refine wp_region_boxes W5 (by kernel_rfl) (by kernel_rfl) (Below.refl _ _) ?_
  (refine textB_det ?_ rfl rfl ?_ (fun W hS => ?_) ?_; rotate_left; (focus go_simp); (focus (obtain ⟨hc, hf⟩ := bcell hS; go_simp; first | (refine ⟨?_, Below.refl _ _⟩; rfl) | rfl | exact Below.refl _ _)); (try go_simp))
  (refine textB_det ?_ rfl rfl ?_ (fun W hS => ?_) ?_; rotate_left; (focus go_simp); (focus (obtain ⟨hc, hf⟩ := bcell hS; go_simp; first | (refine ⟨?_, Below.refl _ _⟩; rfl) | rfl | exact Below.refl _ _)); (try go_simp))
  (refine textB_det ?_ rfl rfl ?_ (fun W hS => ?_) ?_; rotate_left; (focus go_simp); (focus (obtain ⟨hc, hf⟩ := bcell hS; go_simp; first | (refine ⟨?_, Below.refl _ _⟩; rfl) | rfl | exact Below.refl _ _)); (try go_simp))
  (refine textB_det ?_ rfl rfl ?_ (fun W hS => ?_) ?_; rotate_left; (focus go_simp); (focus (obtain ⟨hc, hf⟩ := bcell hS; go_simp; first | (refine ⟨?_, Below.refl _ _⟩; rfl) | rfl | exact Below.refl _ _)); (try go_simp))
  (refine textB_det ?_ rfl rfl ?_ (fun W hS => ?_) ?_; rotate_left; (focus go_simp); (focus (obtain ⟨hc, hf⟩ := bcell hS; go_simp; refine (kC.out _).mono ?_; rintro e w1 ⟨rfl, hb⟩; refine ⟨?_, hb⟩; rfl)); (try go_simp))
  (refine textB_det ?_ rfl rfl ?_ (fun W hS => ?_) ?_; rotate_left; (focus go_simp); (focus (obtain ⟨hc, hf⟩ := bcell hS; go_simp; first | (refine ⟨?_, Below.refl _ _⟩; rfl) | rfl | exact Below.refl _ _)); (try go_simp))
  (refine textB_det ?_ rfl rfl ?_ (fun W hS => ?_) ?_; rotate_left; (focus go_simp); (focus (obtain ⟨hc, hf⟩ := bcell hS; go_simp; first | (refine ⟨?_, Below.refl _ _⟩; rfl) | rfl | exact Below.refl _ _)); (try go_simp))
  (refine textB_det ?_ rfl rfl ?_ (fun W hS => ?_) ?_; rotate_left; (focus go_simp); (focus (obtain ⟨hc, hf⟩ := bcell hS; go_simp; first | (refine ⟨?_, Below.refl _ _⟩; rfl) | rfl | exact Below.refl _ _)); (try go_simp))
  (refine textB_det ?_ rfl rfl ?_ (fun W hS => ?_) ?_; rotate_left; (focus go_simp); (focus (obtain ⟨hc, hf⟩ := bcell hS; go_simp; refine (kA.out _).mono ?_; rintro e w1 ⟨rfl, hb⟩; refine ⟨?_, hb⟩; rfl)); (try go_simp))
  (refine textB_al _ (57) (#[.int .i64 0, .int .i64 0]) rfl rfl rfl (fun ρ W => ?_) ?_; (focus (first | rfl | (go_simp; done) | (go_simp; rfl))); (try go_simp))
  (refine textB_al _ (57) (#[.int .i64 0, .int .i64 0]) rfl rfl rfl (fun ρ W => ?_) ?_; (focus (first | rfl | (go_simp; done) | (go_simp; rfl))); (try go_simp))
  (refine textB_st _ _ _ (#[.int .i64 P1, .int .i64 P2]) rfl rfl rfl rfl (fun b W hb => ?_) ?_; (focus (have c0 := cell_of_block (o := 0) hb rfl; have f0 := free_of_block 0 hb; have c1 := cell_of_block (o := 1) hb rfl; have f1 := free_of_block 1 hb; refine ⟨_, (by first | (go_simp; done) | (go_simp; rfl)), ((wrote_refl hb).set 0 (.int .i64 P1)).set 1 (.int .i64 P2)⟩)); (try go_simp))
  (refine textB_st _ _ _ (#[.int .i64 Q1, .int .i64 Q2]) rfl rfl rfl rfl (fun b W hb => ?_) ?_; (focus (have c0 := cell_of_block (o := 0) hb rfl; have f0 := free_of_block 0 hb; have c1 := cell_of_block (o := 1) hb rfl; have f1 := free_of_block 1 hb; refine ⟨_, (by first | (go_simp; done) | (go_simp; rfl)), ((wrote_refl hb).set 0 (.int .i64 Q1)).set 1 (.int .i64 Q2)⟩)); (try go_simp))
  intro blk w6 hb6 hbx hbd
  have hq := hbx _ List.mem_cons_self
  have hp := hbx _ (List.mem_cons_of_mem _ List.mem_cons_self)
  dsimp only at hq hp
  simp only [List.map_cons, List.map_nil, putAll]
  obtain ⟨hq1, hq2⟩ := hq
  obtain ⟨hp1, hp2⟩ := hp
  clear hbx hbd
  generalize blk 13 = bq at *
  generalize blk 12 = bp at *
  clear blk
  have q0 := cell_of_block (o := 0) hq2 rfl
  have p0 := cell_of_block (o := 0) hp2 rfl
  obtain ⟨hc, hf⟩ := bcell hb6
  replace v0 := (hc _ 0 n5).trans v0
  replace v1 := (hc _ 1 n5).trans v1
  have lq := blk_lt hq2
  have lp := blk_lt hp2
  have n6 : p < w6.heap.size := Nat.lt_of_lt_of_le n5 hb6.size
  have hx6 := Lib.hid (hx5.out.trans (hb6.mono hx5.out.size))
  clear hc hf c0 c1 l5 n5 hx5 hb6 hq2 hp2 hp1 hq1
  clear W5
  go_simp
  go_wp2_with fail
  refine wp_region_boxes w6 (by kernel_rfl) (by kernel_rfl) (Below.refl _ _) ?_
  (refine textB_det ?_ rfl rfl ?_ (fun W hS => ?_) ?_; rotate_left; (focus go_simp); (focus (obtain ⟨hc, hf⟩ := bcell hS; go_simp; first | (refine ⟨?_, Below.refl _ _⟩; rfl) | rfl | exact Below.refl _ _)); (try go_simp))
  (refine textB_det ?_ rfl rfl ?_ (fun W hS => ?_) ?_; rotate_left; (focus go_simp); (focus (obtain ⟨hc, hf⟩ := bcell hS; go_simp; first | (refine ⟨?_, Below.refl _ _⟩; rfl) | rfl | exact Below.refl _ _)); (try go_simp))
  (refine textB_det ?_ rfl rfl ?_ (fun W hS => ?_) ?_; rotate_left; (focus go_simp); (focus (obtain ⟨hc, hf⟩ := bcell hS; go_simp; first | (refine ⟨?_, Below.refl _ _⟩; rfl) | rfl | exact Below.refl _ _)); (try go_simp))
  (refine textB_det ?_ rfl rfl ?_ (fun W hS => ?_) ?_; rotate_left; (focus go_simp); (focus (obtain ⟨hc, hf⟩ := bcell hS; go_simp; first | (refine ⟨?_, Below.refl _ _⟩; rfl) | rfl | exact Below.refl _ _)); (try go_simp))
  (refine textB_det ?_ rfl rfl ?_ (fun W hS => ?_) ?_; rotate_left; (focus go_simp); (focus (obtain ⟨hc, hf⟩ := bcell hS; go_simp; first | (refine ⟨?_, Below.refl _ _⟩; rfl) | rfl | exact Below.refl _ _)); (try go_simp))
  (refine textB_det ?_ rfl rfl ?_ (fun W hS => ?_) ?_; rotate_left; (focus go_simp); (focus (obtain ⟨hc, hf⟩ := bcell hS; go_simp; first | (refine ⟨?_, Below.refl _ _⟩; rfl) | rfl | exact Below.refl _ _)); (try go_simp))
  (refine textB_det ?_ rfl rfl ?_ (fun W hS => ?_) ?_; rotate_left; (focus go_simp); (focus (obtain ⟨hc, hf⟩ := bcell hS; go_simp; first | (refine ⟨?_, Below.refl _ _⟩; rfl) | rfl | exact Below.refl _ _)); (try go_simp))
  (refine textB_det ?_ rfl rfl ?_ (fun W hS => ?_) ?_; rotate_left; (focus go_simp); (focus (obtain ⟨hc, hf⟩ := bcell hS; go_simp; first | (refine ⟨?_, Below.refl _ _⟩; rfl) | rfl | exact Below.refl _ _)); (try go_simp))
  (refine textB_det ?_ rfl rfl ?_ (fun W hS => ?_) ?_; rotate_left; (focus go_simp); (focus (obtain ⟨hc, hf⟩ := bcell hS; go_simp; first | (refine ⟨?_, Below.refl _ _⟩; rfl) | rfl | exact Below.refl _ _)); (try go_simp))
  (refine textB_det ?_ rfl rfl ?_ (fun W hS => ?_) ?_; rotate_left; (focus go_simp); (focus (obtain ⟨hc, hf⟩ := bcell hS; go_simp; first | (refine ⟨?_, Below.refl _ _⟩; rfl) | rfl | exact Below.refl _ _)); (try go_simp))
  (refine textB_det ?_ rfl rfl ?_ (fun W hS => ?_) ?_; rotate_left; (focus go_simp); (focus (obtain ⟨hc, hf⟩ := bcell hS; go_simp; first | (refine ⟨?_, Below.refl _ _⟩; rfl) | rfl | exact Below.refl _ _)); (try go_simp))
  (refine textB_det ?_ rfl rfl ?_ (fun W hS => ?_) ?_; rotate_left; (focus go_simp); (focus (obtain ⟨hc, hf⟩ := bcell hS; go_simp; first | (refine ⟨?_, Below.refl _ _⟩; rfl) | rfl | exact Below.refl _ _)); (try go_simp))
  (refine textB_det ?_ rfl rfl ?_ (fun W hS => ?_) ?_; rotate_left; (focus go_simp); (focus (obtain ⟨hc, hf⟩ := bcell hS; go_simp; first | (refine ⟨?_, Below.refl _ _⟩; rfl) | rfl | exact Below.refl _ _)); (try go_simp))
  (refine textB_det ?_ rfl rfl ?_ (fun W hS => ?_) ?_; rotate_left; (focus go_simp); (focus (obtain ⟨hc, hf⟩ := bcell hS; go_simp; first | (refine ⟨?_, Below.refl _ _⟩; rfl) | rfl | exact Below.refl _ _)); (try go_simp))
  (refine textB_det ?_ rfl rfl ?_ (fun W hS => ?_) ?_; rotate_left; (focus go_simp); (focus (obtain ⟨hc, hf⟩ := bcell hS; go_simp; first | (refine ⟨?_, Below.refl _ _⟩; rfl) | rfl | exact Below.refl _ _)); (try go_simp))
  (refine textB_det ?_ rfl rfl ?_ (fun W hS => ?_) ?_; rotate_left; (focus go_simp); (focus (obtain ⟨hc, hf⟩ := bcell hS; go_simp; first | (refine ⟨?_, Below.refl _ _⟩; rfl) | rfl | exact Below.refl _ _)); (try go_simp))
  (refine textB_det ?_ rfl rfl ?_ (fun W hS => ?_) ?_; rotate_left; (focus go_simp); (focus (obtain ⟨hc, hf⟩ := bcell hS; go_simp; refine (kS.out _).mono ?_; rintro e w1 ⟨rfl, hb⟩; refine ⟨?_, hb⟩; rfl)); (try go_simp))
  (refine textB_det ?_ rfl rfl ?_ (fun W hS => ?_) ?_; rotate_left; (focus go_simp); (focus (obtain ⟨hc, hf⟩ := bcell hS; go_simp; first | (refine ⟨?_, Below.refl _ _⟩; rfl) | rfl | exact Below.refl _ _)); (try go_simp))
  (refine textB_det ?_ rfl rfl ?_ (fun W hS => ?_) ?_; rotate_left; (focus go_simp); (focus (obtain ⟨hc, hf⟩ := bcell hS; go_simp; first | (refine ⟨?_, Below.refl _ _⟩; rfl) | rfl | exact Below.refl _ _)); (try go_simp))
  (refine textB_det ?_ rfl rfl ?_ (fun W hS => ?_) ?_; rotate_left; (focus go_simp); (focus (obtain ⟨hc, hf⟩ := bcell hS; go_simp; first | (refine ⟨?_, Below.refl _ _⟩; rfl) | rfl | exact Below.refl _ _)); (try go_simp))
  (refine textB_det ?_ rfl rfl ?_ (fun W hS => ?_) ?_; rotate_left; (focus go_simp); (focus (obtain ⟨hc, hf⟩ := bcell hS; go_simp; first | (refine ⟨?_, Below.refl _ _⟩; rfl) | rfl | exact Below.refl _ _)); (try go_simp))
  (refine textB_det ?_ rfl rfl ?_ (fun W hS => ?_) ?_; rotate_left; (focus go_simp); (focus (obtain ⟨hc, hf⟩ := bcell hS; go_simp; refine (share_one _).mono ?_; rintro e w1 ⟨rfl, hb⟩; refine ⟨?_, hb⟩; rfl)); (try go_simp))
  (refine textB_det ?_ rfl rfl ?_ (fun W hS => ?_) ?_; rotate_left; (focus go_simp); (focus (obtain ⟨hc, hf⟩ := bcell hS; go_simp; first | (refine ⟨?_, Below.refl _ _⟩; rfl) | rfl | exact Below.refl _ _)); (try go_simp))
  (refine textB_det ?_ rfl rfl ?_ (fun W hS => ?_) ?_; rotate_left; (focus go_simp); (focus (obtain ⟨hc, hf⟩ := bcell hS; go_simp; first | (refine ⟨?_, Below.refl _ _⟩; rfl) | rfl | exact Below.refl _ _)); (try go_simp))
  intro blk w7 hb7 hn1 hn2
  clear hn1 hn2
  simp only [List.map_nil, putAll]
  clear blk
  go_wp2_with fail
  go_ret
  exact ⟨rfl, hx6.out.trans (hb7.mono hx6.out.size)⟩
end Go.Proofs.Ytnmhdodcfbjalaa
