/- What the known nodes come to (one), where the names are laid. -/
import Derived.Test.YtcmmfpfdjhfdaaaDoorHealthT
import Derived.Test.YtcmmfpfdjhfdaaaDoorBoxC
namespace Go.Proofs.YtcmmfpfdjhfdaaaDoor
set_option linter.unusedVariables false
open Go.ChangeShapes Go.WideShapes Go.ChangeAt Go.RowKit
attribute [local go_sem ↓] Go.wp_at_zero Go.wp_at_succ comesTo_value_eq comesTo_skip_eq comesTo_enter_eq

theorem next_is {t m b S D P k : Int} (x0 x1 x2 : Int) (h : nextI t m b S D P k = (x0, x1, x2)) (w : World) :
    Calls Tryd.prog 11 #[.agg #[.int .i64 t, .int .i64 m, .int .i64 b], .agg #[.int .i64 S, .int .i64 D, .int .i64 P], .int .i64 k] w fun e w' => e = .returned (.agg #[.int .i64 x0, .int .i64 x1, .int .i64 x2]) ∧ Below w.heap.size w w' := by
  have := next_any t m b S D P k w
  rw [h] at this
  exact this

set_option maxHeartbeats 4000000 in
set_option maxRecDepth 100000 in
theorem one_any (w : World) (hN : NamesAt w) :
    Calls Tryd.prog 8 #[] w fun e w' => e = .returned (.bool true) ∧ Below w.heap.size w w' := by
  have HN := Lib.hid hN
  clear hN
  have n1 := Lib.hid (fun W => next_is (t := 0) (m := 0) (b := 0) (S := 2) (D := 4) (P := 3) (k := 1) 0 1 0 (by decide) W)
  have n2 := Lib.hid (fun W => next_is (t := 0) (m := 1) (b := 0) (S := 2) (D := 4) (P := 3) (k := 1) 1 2 0 (by decide) W)
  have n3 := Lib.hid (fun W => next_is (t := 1) (m := 2) (b := 0) (S := 2) (D := 4) (P := 3) (k := 0) 1 2 1 (by decide) W)
  have n4 := Lib.hid (fun W => next_is (t := 1) (m := 2) (b := 1) (S := 2) (D := 4) (P := 3) (k := 0) 1 2 2 (by decide) W)
  have n5 := Lib.hid (fun W => next_is (t := 1) (m := 2) (b := 2) (S := 2) (D := 4) (P := 3) (k := 0) 0 0 0 (by decide) W)
  have nr := Lib.hid (fun W => rightR_any 2 4 3 W)
  rw [show rightR 2 4 3 = true by decide] at nr
  go_enter Tryd.func8, Tryd.ntmps8
  go_wp2_with fail
  generalize hW : w.alloc (.cells #[.int .i64 2, .int .i64 4, .int .i64 3] 28) = W0
  have c0 : W0.cell? ⟨w.heap.size, 0, none⟩ = some (.int .i64 2) := by subst hW; go_simp
  have c1 : W0.cell? ⟨w.heap.size, 1, none⟩ = some (.int .i64 4) := by subst hW; go_simp
  have c2 : W0.cell? ⟨w.heap.size, 2, none⟩ = some (.int .i64 3) := by subst hW; go_simp
  have HX := Lib.hid (show Below w.heap.size w W0 by rw [← hW]; exact (by repeat (first | exact Below.refl _ _ | assumption | refine below_drewN ?_ _ | refine Below.drew ?_ | refine below_alloc ?_ _ | refine Below.alloc ?_ (by first | omega | (simp; done) | (simp; omega)) _ | refine Below.setCell ?_ (Below.size (by assumption)) _ | refine Below.setCell ?_ (by first | omega | (simp; done) | (simp; omega)) _ | (refine Below.trans ?_ (Below.mono (by assumption) (by first | omega | (simp; done) | (simp; omega)))) | refine below_next ?_ (by assumption))))
  clear hW
  have l0 : w.heap.size < W0.heap.size := World.block_lt_of_cell? W0 _ c0
  refine wp_region_boxes W0 (by kernel_rfl) (by kernel_rfl) (Below.refl _ _) ?_
  (refine textB_det ?_ rfl rfl ?_ (fun W hS => ?_) ?_; rotate_left; (focus go_simp); (focus (obtain ⟨hc, hf⟩ := bcell hS; go_simp; first | (refine ⟨?_, Below.refl _ _⟩; rfl) | rfl | exact Below.refl _ _)); (try go_simp))
  (refine textB_det ?_ rfl rfl ?_ (fun W hS => ?_) ?_; rotate_left; (focus go_simp); (focus (obtain ⟨hc, hf⟩ := bcell hS; go_simp; first | (refine ⟨?_, Below.refl _ _⟩; rfl) | rfl | exact Below.refl _ _)); (try go_simp))
  (refine textB_det ?_ rfl rfl ?_ (fun W hS => ?_) ?_; rotate_left; (focus go_simp); (focus (obtain ⟨hc, hf⟩ := bcell hS; go_simp; refine (n1.out _).mono ?_; rintro e w1 ⟨rfl, hb⟩; refine ⟨?_, hb⟩; rfl)); (try go_simp))
  (refine textB_det ?_ rfl rfl ?_ (fun W hS => ?_) ?_; rotate_left; (focus go_simp); (focus (obtain ⟨hc, hf⟩ := bcell hS; go_simp; first | (refine ⟨?_, Below.refl _ _⟩; rfl) | rfl | exact Below.refl _ _)); (try go_simp))
  (refine textB_det ?_ rfl rfl ?_ (fun W hS => ?_) ?_; rotate_left; (focus go_simp); (focus (obtain ⟨hc, hf⟩ := bcell hS; go_simp; refine (n2.out _).mono ?_; rintro e w1 ⟨rfl, hb⟩; refine ⟨?_, hb⟩; rfl)); (try go_simp))
  (refine textB_al _ (31) (#[.int .i64 0, .int .i64 0, .int .i64 0]) rfl rfl rfl (fun ρ W => ?_) ?_; (focus (first | rfl | (go_simp; done) | (go_simp; rfl))); (try go_simp))
  (refine textB_st _ _ _ (#[.int .i64 1, .int .i64 2, .int .i64 0]) rfl rfl rfl rfl (fun b W hb => ?_) ?_; (focus (have c0 := cell_of_block (o := 0) hb rfl; have f0 := free_of_block 0 hb; have c1 := cell_of_block (o := 1) hb rfl; have f1 := free_of_block 1 hb; have c2 := cell_of_block (o := 2) hb rfl; have f2 := free_of_block 2 hb; refine ⟨_, (by first | (go_simp; done) | (go_simp; rfl)), (((wrote_refl hb).set 0 (.int .i64 1)).set 1 (.int .i64 2)).set 2 (.int .i64 0)⟩)); (try go_simp))
  intro blk w2 hb2 hbx hbd
  have hp := hbx _ List.mem_cons_self
  dsimp only at hp
  simp only [List.map_cons, List.map_nil, putAll]
  obtain ⟨hp1, hp2⟩ := hp
  clear hbx hbd
  generalize blk 2 = bp at *
  clear blk
  have p0 := cell_of_block (o := 0) hp2 rfl
  have p1 := cell_of_block (o := 1) hp2 rfl
  have p2 := cell_of_block (o := 2) hp2 rfl
  obtain ⟨hc, hf⟩ := bcell hb2
  have d0 := (hc _ 0 l0).trans c0
  have d1 := (hc _ 1 l0).trans c1
  have d2 := (hc _ 2 l0).trans c2
  have lp := blk_lt hp2
  have l1 : w.heap.size < w2.heap.size := Nat.lt_of_lt_of_le l0 hb2.size
  have HX2 := Lib.hid (HX.out.trans (hb2.mono HX.out.size))
  clear hc hf c0 c1 c2 l0 HX hb2 hp2 hp1
  clear W0
  go_simp
  go_wp2_with fail
  refine wp_region_boxes w2 (by kernel_rfl) (by kernel_rfl) (Below.refl _ _) ?_
  (refine textB_det ?_ rfl rfl ?_ (fun W hS => ?_) ?_; rotate_left; (focus go_simp); (focus (obtain ⟨hc, hf⟩ := bcell hS; go_simp; first | (refine ⟨?_, Below.refl _ _⟩; rfl) | rfl | exact Below.refl _ _)); (try go_simp))
  (refine textB_det ?_ rfl rfl ?_ (fun W hS => ?_) ?_; rotate_left; (focus go_simp); (focus (obtain ⟨hc, hf⟩ := bcell hS; go_simp; first | (refine ⟨?_, Below.refl _ _⟩; rfl) | rfl | exact Below.refl _ _)); (try go_simp))
  (refine textB_det ?_ rfl rfl ?_ (fun W hS => ?_) ?_; rotate_left; (focus go_simp); (focus (obtain ⟨hc, hf⟩ := bcell hS; go_simp; refine (n3.out _).mono ?_; rintro e w1 ⟨rfl, hb⟩; refine ⟨?_, hb⟩; rfl)); (try go_simp))
  (refine textB_det ?_ rfl rfl ?_ (fun W hS => ?_) ?_; rotate_left; (focus go_simp); (focus (obtain ⟨hc, hf⟩ := bcell hS; go_simp; first | (refine ⟨?_, Below.refl _ _⟩; rfl) | rfl | exact Below.refl _ _)); (try go_simp))
  (refine textB_det ?_ rfl rfl ?_ (fun W hS => ?_) ?_; rotate_left; (focus go_simp); (focus (obtain ⟨hc, hf⟩ := bcell hS; go_simp; refine (n4.out _).mono ?_; rintro e w1 ⟨rfl, hb⟩; refine ⟨?_, hb⟩; rfl)); (try go_simp))
  (refine textB_det ?_ rfl rfl ?_ (fun W hS => ?_) ?_; rotate_left; (focus go_simp); (focus (obtain ⟨hc, hf⟩ := bcell hS; go_simp; first | (refine ⟨?_, Below.refl _ _⟩; rfl) | rfl | exact Below.refl _ _)); (try go_simp))
  (refine textB_det ?_ rfl rfl ?_ (fun W hS => ?_) ?_; rotate_left; (focus go_simp); (focus (obtain ⟨hc, hf⟩ := bcell hS; go_simp; refine (n5.out _).mono ?_; rintro e w1 ⟨rfl, hb⟩; refine ⟨?_, hb⟩; rfl)); (try go_simp))
  (refine textB_al _ (31) (#[.int .i64 0, .int .i64 0, .int .i64 0]) rfl rfl rfl (fun ρ W => ?_) ?_; (focus (first | rfl | (go_simp; done) | (go_simp; rfl))); (try go_simp))
  (refine textB_st _ _ _ (#[.int .i64 0, .int .i64 0, .int .i64 0]) rfl rfl rfl rfl (fun b W hb => ?_) ?_; (focus (have c0 := cell_of_block (o := 0) hb rfl; have f0 := free_of_block 0 hb; have c1 := cell_of_block (o := 1) hb rfl; have f1 := free_of_block 1 hb; have c2 := cell_of_block (o := 2) hb rfl; have f2 := free_of_block 2 hb; refine ⟨_, (by first | (go_simp; done) | (go_simp; rfl)), (((wrote_refl hb).set 0 (.int .i64 0)).set 1 (.int .i64 0)).set 2 (.int .i64 0)⟩)); (try go_simp))
  intro blk w3 hb3 hbx hbd
  have hq := hbx _ List.mem_cons_self
  dsimp only at hq
  simp only [List.map_cons, List.map_nil, putAll]
  obtain ⟨hq1, hq2⟩ := hq
  clear hbx hbd
  generalize blk 3 = bq at *
  clear blk
  have q0 := cell_of_block (o := 0) hq2 rfl
  have q1 := cell_of_block (o := 1) hq2 rfl
  have q2 := cell_of_block (o := 2) hq2 rfl
  obtain ⟨hc, hf⟩ := bcell hb3
  have e0 := (hc _ 0 l1).trans d0
  have e1 := (hc _ 1 l1).trans d1
  have e2 := (hc _ 2 l1).trans d2
  have r0 := (hc _ 0 lp).trans p0
  have r1 := (hc _ 1 lp).trans p1
  have r2 := (hc _ 2 lp).trans p2
  have HX3 := Lib.hid (HX2.out.trans (hb3.mono HX2.out.size))
  clear hc hf d0 d1 d2 p0 p1 p2 l1 lp HX2 hb3 hq2 hq1
  clear w2
  go_simp
  go_wp2_with (first | (go_at_call 9; refine (nr.out _).mono ?_; rintro e w4 ⟨rfl, hb4⟩) | (go_at_call 6; refine (text_3 _ ((HN.out.below HX3.out).below hb4)).mono ?_; rintro e w5 ⟨rfl, rfl⟩))
  go_ret
  exact ⟨rfl, below_next HX3.out hb4⟩
end Go.Proofs.YtcmmfpfdjhfdaaaDoor
