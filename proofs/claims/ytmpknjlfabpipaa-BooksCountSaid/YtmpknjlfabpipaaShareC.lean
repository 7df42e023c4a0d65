/- The contract of Charge (share). No condition but that arguments fit their kinds. -/
import Derived.Test.YtmpknjlfabpipaaShareOne
namespace Go.Proofs.Ytmpknjlfabpipaa
set_option linter.unusedVariables false
open Go.ChangeShapes Go.WideShapes Go.ChangeAt Go.RowKit
attribute [local go_sem ↓] Go.wp_at_zero Go.wp_at_succ comesTo_value_eq comesTo_skip_eq comesTo_enter_eq

theorem clamp_below (n : Int) (w : World) : Calls Try.prog 31 #[.int .i64 n] w fun e w' => e = .returned (.int .i64 (clampI n)) ∧ Below w.heap.size w w' :=
  (clamp_any n w).mono fun _ _ ⟨h1, h2⟩ => ⟨h1, by subst h2; exact Below.refl _ _⟩
theorem counts_below (n : Int) (w : World) : Calls Try.prog 43 #[.int .i64 n] w fun e w' => e = .returned (.int .i64 (cntI n)) ∧ Below w.heap.size w w' :=
  (counts_any n w).mono fun _ _ ⟨h1, h2⟩ => ⟨h1, by subst h2; exact Below.refl _ _⟩
/-- with so much more used -/
def chargeI (u s n h x : Int) : Int × Int :=
  (cntI ((atI u s n h).1 + cntI x), if (atI u s n h).1 = 0 ∧ (atI u s n h).2 = clampI s then max (atI u s n h).2 (clampI n) else (atI u s n h).2)

set_option maxRecDepth 100000 in
set_option maxHeartbeats 4000000 in
theorem charge_any (u s n h x : Int) (w : World) :
    Calls Try.prog 32 #[.agg #[.int .i64 u, .int .i64 s], .int .i64 n, .int .i64 h, .int .i64 x] w fun e w' => e = .returned (.agg #[.int .i64 (chargeI u s n h x).1, .int .i64 (chargeI u s n h x).2]) ∧ Below w.heap.size w w' := by
  have hb := (atI_bd u s n h).1
  have hb2 := (atI_bd u s n h).2.1
  have hbx := cntI_bd x
  have hbs := clampI_bd s
  have hbn := clampI_bd n
  have kA := Lib.hid (fun W => at_any u s n h W)
  have E := Lib.hid (show chargeI u s n h x = (cntI ((atI u s n h).1 + cntI x), if (atI u s n h).1 = 0 ∧ (atI u s n h).2 = clampI s then max (atI u s n h).2 (clampI n) else (atI u s n h).2) from rfl)
  generalize chargeI u s n h x = R at *
  generalize (atI u s n h).1 = P1 at *
  generalize (atI u s n h).2 = P2 at *
  by_cases hz : P1 = 0 ∧ P2 = clampI s
  · by_cases hmx : P2 < clampI n
    · have hR : R = (cntI (cntI x), clampI n) := by rw [E.out, if_pos hz, hz.1, Int.zero_add]; rw [Int.max_eq_right (by omega)]
      clear E
      subst hR
      obtain ⟨rfl, hz2⟩ := hz
      have eb : (P2 == clampI s) = true := by simpa using hz2
      clear hz2
      go_enter Try.func32, Try.ntmps32
      go_wp2_with (first | (go_at_call 29; refine (kA.out _).mono ?_; rintro e w1 ⟨rfl, hb1⟩))
      obtain ⟨hc, hf⟩ := bcell hb1
      have hx1 := Lib.hid (show Below w.heap.size w w1 from Below.trans (by exact (by repeat (first | exact Below.refl _ _ | assumption | refine below_drewN ?_ _ | refine Below.drew ?_ | refine below_alloc ?_ _ | refine Below.alloc ?_ (by first | omega | (simp; done) | (simp; omega)) _ | refine Below.setCell ?_ (Below.size (by assumption)) _ | refine Below.setCell ?_ (by first | omega | (simp; done) | (simp; omega)) _ | (refine Below.trans ?_ (Below.mono (by assumption) (by first | omega | (simp; done) | (simp; omega)))) | refine below_next ?_ (by assumption)))) (hb1.mono (by simp; omega)))
      have l1 : w.heap.size + 1 < w1.heap.size := by have := hb1.size; simp at this; omega
      have l1' : w.heap.size < w1.heap.size := by omega
      have a1 : w1.cell? ⟨w.heap.size, 1, none⟩ = some (.int .i64 s) := (hc _ 1 (by simp; omega)).trans (by go_simp)
      have r0 : w1.cell? ⟨w.heap.size + 1, 0, none⟩ = some (.int .i64 0) := (hc _ 0 (by simp)).trans (by go_simp)
      have r1 : w1.cell? ⟨w.heap.size + 1, 1, none⟩ = some (.int .i64 0) := (hc _ 1 (by simp)).trans (by go_simp)
      have r2 : w1.frozen? ⟨w.heap.size + 1, 0, none⟩ = false := (hf _ 0 (by simp)).trans (by go_simp)
      have r3 : w1.frozen? ⟨w.heap.size + 1, 1, none⟩ = false := (hf _ 1 (by simp)).trans (by go_simp)
      clear hc hf hb1
      generalize hW : w1.alloc (.cells #[.int .i64 0, .int .i64 P2] 31) = W0
      have l2 : w1.heap.size < W0.heap.size := by rw [← hW]; simp
      have c1 : W0.cell? ⟨w.heap.size, 1, none⟩ = some (.int .i64 s) := by subst hW; go_simp
      have d0 : W0.cell? ⟨w.heap.size + 1, 0, none⟩ = some (.int .i64 0) := by subst hW; go_simp
      have d1 : W0.cell? ⟨w.heap.size + 1, 1, none⟩ = some (.int .i64 0) := by subst hW; go_simp
      have d2 : W0.frozen? ⟨w.heap.size + 1, 0, none⟩ = false := by subst hW; go_simp
      have d3 : W0.frozen? ⟨w.heap.size + 1, 1, none⟩ = false := by subst hW; go_simp
      have e0 : W0.cell? ⟨w1.heap.size, 0, none⟩ = some (.int .i64 0) := by subst hW; go_simp
      have e1 : W0.cell? ⟨w1.heap.size, 1, none⟩ = some (.int .i64 P2) := by subst hW; go_simp
      have e2 : W0.frozen? ⟨w1.heap.size, 0, none⟩ = false := by subst hW; go_simp
      have e3 : W0.frozen? ⟨w1.heap.size, 1, none⟩ = false := by subst hW; go_simp
      have hx0 := Lib.hid (show Below w.heap.size w W0 by rw [← hW]; exact hx1.out.alloc hx1.out.size _)
      have l3' : w.heap.size < W0.heap.size := World.block_lt_of_cell? _ _ c1
      clear hW a1 r0 r1 r2 r3 hx1
      generalize w1.heap.size = q at *
      clear w1
      refine wp_region_boxes W0 (by kernel_rfl) (by kernel_rfl) (Below.refl _ _) ?_
      (refine textB_det ?_ rfl rfl ?_ (fun W hS => ?_) ?_; rotate_left; (focus go_simp); (focus (obtain ⟨hc, hf⟩ := bcell hS; go_simp; first | (refine ⟨?_, Below.refl _ _⟩; rfl) | rfl | exact Below.refl _ _)); (try go_simp))
      (refine textB_det ?_ rfl rfl ?_ (fun W hS => ?_) ?_; rotate_left; (focus go_simp); (focus (obtain ⟨hc, hf⟩ := bcell hS; go_simp; first | (refine ⟨?_, Below.refl _ _⟩; rfl) | rfl | exact Below.refl _ _)); (try go_simp))
      (refine textB_det ?_ rfl rfl ?_ (fun W hS => ?_) ?_; rotate_left; (focus go_simp); (focus (obtain ⟨hc, hf⟩ := bcell hS; go_simp; first | (refine ⟨?_, Below.refl _ _⟩; rfl) | rfl | exact Below.refl _ _)); (try go_simp))
      (refine textB_det ?_ rfl rfl ?_ (fun W hS => ?_) ?_; rotate_left; (focus go_simp); (focus (obtain ⟨hc, hf⟩ := bcell hS; go_simp; refine (clamp_any _ _).mono ?_; rintro e w1 ⟨rfl, rfl⟩; refine ⟨?_, Below.refl _ _⟩; rfl)); (try go_simp))
      (refine textB_det ?_ rfl rfl ?_ (fun W hS => ?_) ?_; rotate_left; (focus go_simp); (focus (obtain ⟨hc, hf⟩ := bcell hS; go_simp; first | (refine ⟨?_, Below.refl _ _⟩; rfl) | rfl | exact Below.refl _ _)); (try go_simp))
      (refine textB_det ?_ rfl rfl ?_ (fun W hS => ?_) ?_; rotate_left; (focus go_simp); (focus (obtain ⟨hc, hf⟩ := bcell hS; go_simp; first | (refine ⟨?_, Below.refl _ _⟩; rfl) | rfl | exact Below.refl _ _)); (try go_simp))
      intro blk w2 hb2 hn1 hn2
      clear hn1 hn2
      simp only [List.map_nil, putAll]
      clear blk
      obtain ⟨hc, hf⟩ := bcell hb2
      have l0 : w.heap.size + 1 < W0.heap.size := by omega
      replace d0 := (hc _ 0 l0).trans d0
      replace d1 := (hc _ 1 l0).trans d1
      replace d2 := (hf _ 0 l0).trans d2
      replace d3 := (hf _ 1 l0).trans d3
      replace e0 := (hc _ 0 l2).trans e0
      replace e1 := (hc _ 1 l2).trans e1
      replace e2 := (hf _ 0 l2).trans e2
      replace e3 := (hf _ 1 l2).trans e3
      have hx2 := Lib.hid (hx0.out.trans (hb2.mono hx0.out.size))
      have m1 : w.heap.size + 1 < w2.heap.size := Nat.lt_of_lt_of_le l0 hb2.size
      have m2 : q < w2.heap.size := Nat.lt_of_lt_of_le l2 hb2.size
      clear hc hf c1 l0 l3' l2 hx0 hb2
      clear W0
      go_wp2_with fail
      refine wp_region_grow_tail 6 (Below w2.heap.size w2) (by kernel_rfl) (by kernel_rfl) (Below.refl _ _).drew ?_
      simp only [List.take_succ_cons, List.take_zero, List.drop_succ_cons, List.drop_zero]
      (refine textS_run ?_ ?_ (fun W hS => ?_) ?_; rotate_left; (focus go_simp); (focus (obtain ⟨hc, hf⟩ := bcell hS; go_simp; first | rfl | exact ⟨rfl, hS⟩ | exact hS)); (try go_simp))
      (refine textS_run ?_ ?_ (fun W hS => ?_) ?_; rotate_left; (focus go_simp); (focus (obtain ⟨hc, hf⟩ := bcell hS; go_simp; first | rfl | exact ⟨rfl, hS⟩ | exact hS)); (try go_simp))
      (refine textS_run ?_ ?_ (fun W hS => ?_) ?_; rotate_left; (focus go_simp); (focus (obtain ⟨hc, hf⟩ := bcell hS; go_simp; first | rfl | exact ⟨rfl, hS⟩ | exact hS)); (try go_simp))
      (refine textS_run ?_ ?_ (fun W hS => ?_) ?_; rotate_left; (focus go_simp); (focus (obtain ⟨hc, hf⟩ := bcell hS; go_simp; refine (clamp_below _ _).mono ?_; rintro e w1 ⟨rfl, hb⟩; refine ⟨?_, hS.trans (hb.mono hS.size)⟩; rfl)); (try go_simp))
      (refine textS_run ?_ ?_ (fun W hS => ?_) ?_; rotate_left; (focus go_simp); (focus (obtain ⟨hc, hf⟩ := bcell hS; go_simp; first | rfl | exact ⟨rfl, hS⟩ | exact hS)); (try go_simp))
      (refine textS_run ?_ ?_ (fun W hS => ?_) ?_; rotate_left; (focus go_simp); (focus (obtain ⟨hc, hf⟩ := bcell hS; go_simp; first | rfl | exact ⟨rfl, hS⟩ | exact hS)); (try go_simp))
      refine textS_nil ?_
      intro w3 hb3
      obtain ⟨hc, hf⟩ := bcell hb3
      replace d0 := (hc _ 0 m1).trans d0
      replace d1 := (hc _ 1 m1).trans d1
      replace d2 := (hf _ 0 m1).trans d2
      replace d3 := (hf _ 1 m1).trans d3
      replace e0 := (hc _ 0 m2).trans e0
      replace e1 := (hc _ 1 m2).trans e1
      replace e2 := (hf _ 0 m2).trans e2
      replace e3 := (hf _ 1 m2).trans e3
      have hx3 := Lib.hid (hx2.out.trans (hb3.mono hx2.out.size))
      replace m1 : w.heap.size + 1 < w3.heap.size := Nat.lt_of_lt_of_le m1 hb3.size
      replace m2 : q < w3.heap.size := Nat.lt_of_lt_of_le m2 hb3.size
      clear hc hf hx2 hb3
      clear w2
      go_wp2_with fail
      generalize hW : w3.setCell ⟨q, 1, none⟩ (.int .i64 (clampI n)) = W4
      have hq : w.heap.size + 1 ≠ q := by omega
      have g0 : W4.cell? ⟨w.heap.size + 1, 0, none⟩ = some (.int .i64 0) := by subst hW; go_simp
      have g1 : W4.cell? ⟨w.heap.size + 1, 1, none⟩ = some (.int .i64 0) := by subst hW; go_simp
      have g2 : W4.frozen? ⟨w.heap.size + 1, 0, none⟩ = false := by subst hW; go_simp
      have g3 : W4.frozen? ⟨w.heap.size + 1, 1, none⟩ = false := by subst hW; go_simp
      have k0 : W4.cell? ⟨q, 0, none⟩ = some (.int .i64 0) := by subst hW; go_simp
      have k1 : W4.cell? ⟨q, 1, none⟩ = some (.int .i64 (clampI n)) := by subst hW; go_simp
      have k2 : W4.frozen? ⟨q, 0, none⟩ = false := by subst hW; go_simp
      have k3 : W4.frozen? ⟨q, 1, none⟩ = false := by subst hW; go_simp
      have m1' : w.heap.size + 1 < W4.heap.size := World.block_lt_of_cell? _ _ g0
      have m2' : q < W4.heap.size := World.block_lt_of_cell? _ _ k0
      have hx4 := Lib.hid (show Below w.heap.size w W4 by rw [← hW]; exact hx3.out.setCell (by show w.heap.size ≤ q; omega) _)
      clear hW d0 d1 d2 d3 e0 e1 e2 e3 m1 m2 hx3
      clear w3
      have d0 := g0; have d1 := g1; have d2 := g2; have d3 := g3; have e0 := k0; have e1 := k1; have e2 := k2; have e3 := k3; have m1 := m1'; have m2 := m2'
      clear g0 g1 g2 g3 k0 k1 k2 k3 m1' m2' hq
      refine wp_region_grow_tail 7 (Below W4.heap.size W4) (by kernel_rfl) (by kernel_rfl) (Below.refl _ _).drew ?_
      simp only [List.take_succ_cons, List.take_zero, List.drop_succ_cons, List.drop_zero]
      (refine textS_run ?_ ?_ (fun W hS => ?_) ?_; rotate_left; (focus go_simp); (focus (obtain ⟨hc, hf⟩ := bcell hS; go_simp; first | rfl | exact ⟨rfl, hS⟩ | exact hS)); (try go_simp))
      (refine textS_run ?_ ?_ (fun W hS => ?_) ?_; rotate_left; (focus go_simp); (focus (obtain ⟨hc, hf⟩ := bcell hS; go_simp; first | rfl | exact ⟨rfl, hS⟩ | exact hS)); (try go_simp))
      (refine textS_run ?_ ?_ (fun W hS => ?_) ?_; rotate_left; (focus go_simp); (focus (obtain ⟨hc, hf⟩ := bcell hS; go_simp; first | rfl | exact ⟨rfl, hS⟩ | exact hS)); (try go_simp))
      (refine textS_run ?_ ?_ (fun W hS => ?_) ?_; rotate_left; (focus go_simp); (focus (obtain ⟨hc, hf⟩ := bcell hS; go_simp; refine (counts_below _ _).mono ?_; rintro e w1 ⟨rfl, hb⟩; refine ⟨?_, hS.trans (hb.mono hS.size)⟩; rfl)); (try go_simp))
      (refine textS_run ?_ ?_ (fun W hS => ?_) ?_; rotate_left; (focus go_simp); (focus (obtain ⟨hc, hf⟩ := bcell hS; go_simp; first | rfl | exact ⟨rfl, hS⟩ | exact hS)); (try go_simp))
      (refine textS_run ?_ ?_ (fun W hS => ?_) ?_; rotate_left; (focus go_simp); (focus (obtain ⟨hc, hf⟩ := bcell hS; go_simp; refine (counts_below _ _).mono ?_; rintro e w1 ⟨rfl, hb⟩; refine ⟨?_, hS.trans (hb.mono hS.size)⟩; rfl)); (try go_simp))
      (refine textS_run ?_ ?_ (fun W hS => ?_) ?_; rotate_left; (focus go_simp); (focus (obtain ⟨hc, hf⟩ := bcell hS; go_simp; first | rfl | exact ⟨rfl, hS⟩ | exact hS)); (try go_simp))
      refine textS_nil ?_
      intro w5 hb5
      obtain ⟨hc, hf⟩ := bcell hb5
      replace d0 := (hc _ 0 m1).trans d0
      replace d1 := (hc _ 1 m1).trans d1
      replace d2 := (hf _ 0 m1).trans d2
      replace d3 := (hf _ 1 m1).trans d3
      replace e0 := (hc _ 0 m2).trans e0
      replace e1 := (hc _ 1 m2).trans e1
      replace e2 := (hf _ 0 m2).trans e2
      replace e3 := (hf _ 1 m2).trans e3
      have hx5 := Lib.hid (hx4.out.trans (hb5.mono hx4.out.size))
      replace m1 : w.heap.size + 1 < w5.heap.size := Nat.lt_of_lt_of_le m1 hb5.size
      replace m2 : q < w5.heap.size := Nat.lt_of_lt_of_le m2 hb5.size
      clear hc hf hx4 hb5
      clear W4
      go_wp2
      exact bodyPost_ret (v := .agg #[.int .i64 (cntI (cntI x)), .int .i64 (clampI n)]) (by simp only [results, Try.results32]; go_simp) rfl ⟨rfl, by first | exact hx5.out | (refine Below.setCell (Below.setCell (Below.setCell ?_ ?_ _) ?_ _) ?_ _ <;> first | exact hx5.out | (show w.heap.size ≤ q; omega) | (show w.heap.size ≤ w.heap.size + 1; omega))⟩
    · have hR : R = (cntI (cntI x), P2) := by rw [E.out, if_pos hz, hz.1, Int.zero_add]; rw [Int.max_eq_left (by omega)]
      have hmx' : clampI n ≤ P2 := by omega
      clear hmx
      clear E
      subst hR
      obtain ⟨rfl, hz2⟩ := hz
      have eb : (P2 == clampI s) = true := by simpa using hz2
      clear hz2
      go_enter Try.func32, Try.ntmps32
      go_wp2_with (first | (go_at_call 29; refine (kA.out _).mono ?_; rintro e w1 ⟨rfl, hb1⟩))
      obtain ⟨hc, hf⟩ := bcell hb1
      have hx1 := Lib.hid (show Below w.heap.size w w1 from Below.trans (by exact (by repeat (first | exact Below.refl _ _ | assumption | refine below_drewN ?_ _ | refine Below.drew ?_ | refine below_alloc ?_ _ | refine Below.alloc ?_ (by first | omega | (simp; done) | (simp; omega)) _ | refine Below.setCell ?_ (Below.size (by assumption)) _ | refine Below.setCell ?_ (by first | omega | (simp; done) | (simp; omega)) _ | (refine Below.trans ?_ (Below.mono (by assumption) (by first | omega | (simp; done) | (simp; omega)))) | refine below_next ?_ (by assumption)))) (hb1.mono (by simp; omega)))
      have l1 : w.heap.size + 1 < w1.heap.size := by have := hb1.size; simp at this; omega
      have l1' : w.heap.size < w1.heap.size := by omega
      have a1 : w1.cell? ⟨w.heap.size, 1, none⟩ = some (.int .i64 s) := (hc _ 1 (by simp; omega)).trans (by go_simp)
      have r0 : w1.cell? ⟨w.heap.size + 1, 0, none⟩ = some (.int .i64 0) := (hc _ 0 (by simp)).trans (by go_simp)
      have r1 : w1.cell? ⟨w.heap.size + 1, 1, none⟩ = some (.int .i64 0) := (hc _ 1 (by simp)).trans (by go_simp)
      have r2 : w1.frozen? ⟨w.heap.size + 1, 0, none⟩ = false := (hf _ 0 (by simp)).trans (by go_simp)
      have r3 : w1.frozen? ⟨w.heap.size + 1, 1, none⟩ = false := (hf _ 1 (by simp)).trans (by go_simp)
      clear hc hf hb1
      generalize hW : w1.alloc (.cells #[.int .i64 0, .int .i64 P2] 31) = W0
      have l2 : w1.heap.size < W0.heap.size := by rw [← hW]; simp
      have c1 : W0.cell? ⟨w.heap.size, 1, none⟩ = some (.int .i64 s) := by subst hW; go_simp
      have d0 : W0.cell? ⟨w.heap.size + 1, 0, none⟩ = some (.int .i64 0) := by subst hW; go_simp
      have d1 : W0.cell? ⟨w.heap.size + 1, 1, none⟩ = some (.int .i64 0) := by subst hW; go_simp
      have d2 : W0.frozen? ⟨w.heap.size + 1, 0, none⟩ = false := by subst hW; go_simp
      have d3 : W0.frozen? ⟨w.heap.size + 1, 1, none⟩ = false := by subst hW; go_simp
      have e0 : W0.cell? ⟨w1.heap.size, 0, none⟩ = some (.int .i64 0) := by subst hW; go_simp
      have e1 : W0.cell? ⟨w1.heap.size, 1, none⟩ = some (.int .i64 P2) := by subst hW; go_simp
      have e2 : W0.frozen? ⟨w1.heap.size, 0, none⟩ = false := by subst hW; go_simp
      have e3 : W0.frozen? ⟨w1.heap.size, 1, none⟩ = false := by subst hW; go_simp
      have hx0 := Lib.hid (show Below w.heap.size w W0 by rw [← hW]; exact hx1.out.alloc hx1.out.size _)
      have l3' : w.heap.size < W0.heap.size := World.block_lt_of_cell? _ _ c1
      clear hW a1 r0 r1 r2 r3 hx1
      generalize w1.heap.size = q at *
      clear w1
      refine wp_region_boxes W0 (by kernel_rfl) (by kernel_rfl) (Below.refl _ _) ?_
      (refine textB_det ?_ rfl rfl ?_ (fun W hS => ?_) ?_; rotate_left; (focus go_simp); (focus (obtain ⟨hc, hf⟩ := bcell hS; go_simp; first | (refine ⟨?_, Below.refl _ _⟩; rfl) | rfl | exact Below.refl _ _)); (try go_simp))
      (refine textB_det ?_ rfl rfl ?_ (fun W hS => ?_) ?_; rotate_left; (focus go_simp); (focus (obtain ⟨hc, hf⟩ := bcell hS; go_simp; first | (refine ⟨?_, Below.refl _ _⟩; rfl) | rfl | exact Below.refl _ _)); (try go_simp))
      (refine textB_det ?_ rfl rfl ?_ (fun W hS => ?_) ?_; rotate_left; (focus go_simp); (focus (obtain ⟨hc, hf⟩ := bcell hS; go_simp; first | (refine ⟨?_, Below.refl _ _⟩; rfl) | rfl | exact Below.refl _ _)); (try go_simp))
      (refine textB_det ?_ rfl rfl ?_ (fun W hS => ?_) ?_; rotate_left; (focus go_simp); (focus (obtain ⟨hc, hf⟩ := bcell hS; go_simp; refine (clamp_any _ _).mono ?_; rintro e w1 ⟨rfl, rfl⟩; refine ⟨?_, Below.refl _ _⟩; rfl)); (try go_simp))
      (refine textB_det ?_ rfl rfl ?_ (fun W hS => ?_) ?_; rotate_left; (focus go_simp); (focus (obtain ⟨hc, hf⟩ := bcell hS; go_simp; first | (refine ⟨?_, Below.refl _ _⟩; rfl) | rfl | exact Below.refl _ _)); (try go_simp))
      (refine textB_det ?_ rfl rfl ?_ (fun W hS => ?_) ?_; rotate_left; (focus go_simp); (focus (obtain ⟨hc, hf⟩ := bcell hS; go_simp; first | (refine ⟨?_, Below.refl _ _⟩; rfl) | rfl | exact Below.refl _ _)); (try go_simp))
      intro blk w2 hb2 hn1 hn2
      clear hn1 hn2
      simp only [List.map_nil, putAll]
      clear blk
      obtain ⟨hc, hf⟩ := bcell hb2
      have l0 : w.heap.size + 1 < W0.heap.size := by omega
      replace d0 := (hc _ 0 l0).trans d0
      replace d1 := (hc _ 1 l0).trans d1
      replace d2 := (hf _ 0 l0).trans d2
      replace d3 := (hf _ 1 l0).trans d3
      replace e0 := (hc _ 0 l2).trans e0
      replace e1 := (hc _ 1 l2).trans e1
      replace e2 := (hf _ 0 l2).trans e2
      replace e3 := (hf _ 1 l2).trans e3
      have hx2 := Lib.hid (hx0.out.trans (hb2.mono hx0.out.size))
      have m1 : w.heap.size + 1 < w2.heap.size := Nat.lt_of_lt_of_le l0 hb2.size
      have m2 : q < w2.heap.size := Nat.lt_of_lt_of_le l2 hb2.size
      clear hc hf c1 l0 l3' l2 hx0 hb2
      clear W0
      go_wp2_with fail
      refine wp_region_grow_tail 6 (Below w2.heap.size w2) (by kernel_rfl) (by kernel_rfl) (Below.refl _ _).drew ?_
      simp only [List.take_succ_cons, List.take_zero, List.drop_succ_cons, List.drop_zero]
      (refine textS_run ?_ ?_ (fun W hS => ?_) ?_; rotate_left; (focus go_simp); (focus (obtain ⟨hc, hf⟩ := bcell hS; go_simp; first | rfl | exact ⟨rfl, hS⟩ | exact hS)); (try go_simp))
      (refine textS_run ?_ ?_ (fun W hS => ?_) ?_; rotate_left; (focus go_simp); (focus (obtain ⟨hc, hf⟩ := bcell hS; go_simp; first | rfl | exact ⟨rfl, hS⟩ | exact hS)); (try go_simp))
      (refine textS_run ?_ ?_ (fun W hS => ?_) ?_; rotate_left; (focus go_simp); (focus (obtain ⟨hc, hf⟩ := bcell hS; go_simp; first | rfl | exact ⟨rfl, hS⟩ | exact hS)); (try go_simp))
      (refine textS_run ?_ ?_ (fun W hS => ?_) ?_; rotate_left; (focus go_simp); (focus (obtain ⟨hc, hf⟩ := bcell hS; go_simp; refine (clamp_below _ _).mono ?_; rintro e w1 ⟨rfl, hb⟩; refine ⟨?_, hS.trans (hb.mono hS.size)⟩; rfl)); (try go_simp))
      (refine textS_run ?_ ?_ (fun W hS => ?_) ?_; rotate_left; (focus go_simp); (focus (obtain ⟨hc, hf⟩ := bcell hS; go_simp; first | rfl | exact ⟨rfl, hS⟩ | exact hS)); (try go_simp))
      (refine textS_run ?_ ?_ (fun W hS => ?_) ?_; rotate_left; (focus go_simp); (focus (obtain ⟨hc, hf⟩ := bcell hS; go_simp; first | rfl | exact ⟨rfl, hS⟩ | exact hS)); (try go_simp))
      refine textS_nil ?_
      intro w3 hb3
      obtain ⟨hc, hf⟩ := bcell hb3
      replace d0 := (hc _ 0 m1).trans d0
      replace d1 := (hc _ 1 m1).trans d1
      replace d2 := (hf _ 0 m1).trans d2
      replace d3 := (hf _ 1 m1).trans d3
      replace e0 := (hc _ 0 m2).trans e0
      replace e1 := (hc _ 1 m2).trans e1
      replace e2 := (hf _ 0 m2).trans e2
      replace e3 := (hf _ 1 m2).trans e3
      have hx3 := Lib.hid (hx2.out.trans (hb3.mono hx2.out.size))
      replace m1 : w.heap.size + 1 < w3.heap.size := Nat.lt_of_lt_of_le m1 hb3.size
      replace m2 : q < w3.heap.size := Nat.lt_of_lt_of_le m2 hb3.size
      clear hc hf hx2 hb3
      clear w2
      go_wp2_with fail
      generalize hW : w3.setCell ⟨q, 1, none⟩ (.int .i64 (P2)) = W4
      have hq : w.heap.size + 1 ≠ q := by omega
      have g0 : W4.cell? ⟨w.heap.size + 1, 0, none⟩ = some (.int .i64 0) := by subst hW; go_simp
      have g1 : W4.cell? ⟨w.heap.size + 1, 1, none⟩ = some (.int .i64 0) := by subst hW; go_simp
      have g2 : W4.frozen? ⟨w.heap.size + 1, 0, none⟩ = false := by subst hW; go_simp
      have g3 : W4.frozen? ⟨w.heap.size + 1, 1, none⟩ = false := by subst hW; go_simp
      have k0 : W4.cell? ⟨q, 0, none⟩ = some (.int .i64 0) := by subst hW; go_simp
      have k1 : W4.cell? ⟨q, 1, none⟩ = some (.int .i64 (P2)) := by subst hW; go_simp
      have k2 : W4.frozen? ⟨q, 0, none⟩ = false := by subst hW; go_simp
      have k3 : W4.frozen? ⟨q, 1, none⟩ = false := by subst hW; go_simp
      have m1' : w.heap.size + 1 < W4.heap.size := World.block_lt_of_cell? _ _ g0
      have m2' : q < W4.heap.size := World.block_lt_of_cell? _ _ k0
      have hx4 := Lib.hid (show Below w.heap.size w W4 by rw [← hW]; exact hx3.out.setCell (by show w.heap.size ≤ q; omega) _)
      clear hW d0 d1 d2 d3 e0 e1 e2 e3 m1 m2 hx3
      clear w3
      have d0 := g0; have d1 := g1; have d2 := g2; have d3 := g3; have e0 := k0; have e1 := k1; have e2 := k2; have e3 := k3; have m1 := m1'; have m2 := m2'
      clear g0 g1 g2 g3 k0 k1 k2 k3 m1' m2' hq
      refine wp_region_grow_tail 7 (Below W4.heap.size W4) (by kernel_rfl) (by kernel_rfl) (Below.refl _ _).drew ?_
      simp only [List.take_succ_cons, List.take_zero, List.drop_succ_cons, List.drop_zero]
      (refine textS_run ?_ ?_ (fun W hS => ?_) ?_; rotate_left; (focus go_simp); (focus (obtain ⟨hc, hf⟩ := bcell hS; go_simp; first | rfl | exact ⟨rfl, hS⟩ | exact hS)); (try go_simp))
      (refine textS_run ?_ ?_ (fun W hS => ?_) ?_; rotate_left; (focus go_simp); (focus (obtain ⟨hc, hf⟩ := bcell hS; go_simp; first | rfl | exact ⟨rfl, hS⟩ | exact hS)); (try go_simp))
      (refine textS_run ?_ ?_ (fun W hS => ?_) ?_; rotate_left; (focus go_simp); (focus (obtain ⟨hc, hf⟩ := bcell hS; go_simp; first | rfl | exact ⟨rfl, hS⟩ | exact hS)); (try go_simp))
      (refine textS_run ?_ ?_ (fun W hS => ?_) ?_; rotate_left; (focus go_simp); (focus (obtain ⟨hc, hf⟩ := bcell hS; go_simp; refine (counts_below _ _).mono ?_; rintro e w1 ⟨rfl, hb⟩; refine ⟨?_, hS.trans (hb.mono hS.size)⟩; rfl)); (try go_simp))
      (refine textS_run ?_ ?_ (fun W hS => ?_) ?_; rotate_left; (focus go_simp); (focus (obtain ⟨hc, hf⟩ := bcell hS; go_simp; first | rfl | exact ⟨rfl, hS⟩ | exact hS)); (try go_simp))
      (refine textS_run ?_ ?_ (fun W hS => ?_) ?_; rotate_left; (focus go_simp); (focus (obtain ⟨hc, hf⟩ := bcell hS; go_simp; refine (counts_below _ _).mono ?_; rintro e w1 ⟨rfl, hb⟩; refine ⟨?_, hS.trans (hb.mono hS.size)⟩; rfl)); (try go_simp))
      (refine textS_run ?_ ?_ (fun W hS => ?_) ?_; rotate_left; (focus go_simp); (focus (obtain ⟨hc, hf⟩ := bcell hS; go_simp; first | rfl | exact ⟨rfl, hS⟩ | exact hS)); (try go_simp))
      refine textS_nil ?_
      intro w5 hb5
      obtain ⟨hc, hf⟩ := bcell hb5
      replace d0 := (hc _ 0 m1).trans d0
      replace d1 := (hc _ 1 m1).trans d1
      replace d2 := (hf _ 0 m1).trans d2
      replace d3 := (hf _ 1 m1).trans d3
      replace e0 := (hc _ 0 m2).trans e0
      replace e1 := (hc _ 1 m2).trans e1
      replace e2 := (hf _ 0 m2).trans e2
      replace e3 := (hf _ 1 m2).trans e3
      have hx5 := Lib.hid (hx4.out.trans (hb5.mono hx4.out.size))
      replace m1 : w.heap.size + 1 < w5.heap.size := Nat.lt_of_lt_of_le m1 hb5.size
      replace m2 : q < w5.heap.size := Nat.lt_of_lt_of_le m2 hb5.size
      clear hc hf hx4 hb5
      clear W4
      go_wp2
      exact bodyPost_ret (v := .agg #[.int .i64 (cntI (cntI x)), .int .i64 (P2)]) (by simp only [results, Try.results32]; go_simp) rfl ⟨rfl, by first | exact hx5.out | (refine Below.setCell (Below.setCell (Below.setCell ?_ ?_ _) ?_ _) ?_ _ <;> first | exact hx5.out | (show w.heap.size ≤ q; omega) | (show w.heap.size ≤ w.heap.size + 1; omega))⟩
  · have hR : R = (cntI (P1 + cntI x), P2) := by rw [E.out, if_neg hz]
    clear E
    subst hR
    by_cases hp : P1 = 0
    · have hn : ¬ P2 = clampI s := fun h => hz ⟨hp, h⟩
      have hn' : ¬ clampI s = P2 := fun h => hn h.symm
      clear hz
      subst hp
      simp only [Int.zero_add]
      go_enter Try.func32, Try.ntmps32
      go_wp2_with (first | (go_at_call 29; refine (kA.out _).mono ?_; rintro e w1 ⟨rfl, hb1⟩))
      obtain ⟨hc, hf⟩ := bcell hb1
      have hx1 := Lib.hid (show Below w.heap.size w w1 from Below.trans (by exact (by repeat (first | exact Below.refl _ _ | assumption | refine below_drewN ?_ _ | refine Below.drew ?_ | refine below_alloc ?_ _ | refine Below.alloc ?_ (by first | omega | (simp; done) | (simp; omega)) _ | refine Below.setCell ?_ (Below.size (by assumption)) _ | refine Below.setCell ?_ (by first | omega | (simp; done) | (simp; omega)) _ | (refine Below.trans ?_ (Below.mono (by assumption) (by first | omega | (simp; done) | (simp; omega)))) | refine below_next ?_ (by assumption)))) (hb1.mono (by simp; omega)))
      have l1 : w.heap.size + 1 < w1.heap.size := by have := hb1.size; simp at this; omega
      have l1' : w.heap.size < w1.heap.size := by omega
      have a1 : w1.cell? ⟨w.heap.size, 1, none⟩ = some (.int .i64 s) := (hc _ 1 (by simp; omega)).trans (by go_simp)
      have r0 : w1.cell? ⟨w.heap.size + 1, 0, none⟩ = some (.int .i64 0) := (hc _ 0 (by simp)).trans (by go_simp)
      have r1 : w1.cell? ⟨w.heap.size + 1, 1, none⟩ = some (.int .i64 0) := (hc _ 1 (by simp)).trans (by go_simp)
      have r2 : w1.frozen? ⟨w.heap.size + 1, 0, none⟩ = false := (hf _ 0 (by simp)).trans (by go_simp)
      have r3 : w1.frozen? ⟨w.heap.size + 1, 1, none⟩ = false := (hf _ 1 (by simp)).trans (by go_simp)
      clear hc hf hb1
      generalize hW : w1.alloc (.cells #[.int .i64 0, .int .i64 P2] 31) = W0
      have l2 : w1.heap.size < W0.heap.size := by rw [← hW]; simp
      have c1 : W0.cell? ⟨w.heap.size, 1, none⟩ = some (.int .i64 s) := by subst hW; go_simp
      have d0 : W0.cell? ⟨w.heap.size + 1, 0, none⟩ = some (.int .i64 0) := by subst hW; go_simp
      have d1 : W0.cell? ⟨w.heap.size + 1, 1, none⟩ = some (.int .i64 0) := by subst hW; go_simp
      have d2 : W0.frozen? ⟨w.heap.size + 1, 0, none⟩ = false := by subst hW; go_simp
      have d3 : W0.frozen? ⟨w.heap.size + 1, 1, none⟩ = false := by subst hW; go_simp
      have e0 : W0.cell? ⟨w1.heap.size, 0, none⟩ = some (.int .i64 0) := by subst hW; go_simp
      have e1 : W0.cell? ⟨w1.heap.size, 1, none⟩ = some (.int .i64 P2) := by subst hW; go_simp
      have e2 : W0.frozen? ⟨w1.heap.size, 0, none⟩ = false := by subst hW; go_simp
      have e3 : W0.frozen? ⟨w1.heap.size, 1, none⟩ = false := by subst hW; go_simp
      have hx0 := Lib.hid (show Below w.heap.size w W0 by rw [← hW]; exact hx1.out.alloc hx1.out.size _)
      have l3' : w.heap.size < W0.heap.size := World.block_lt_of_cell? _ _ c1
      clear hW a1 r0 r1 r2 r3 hx1
      generalize w1.heap.size = q at *
      clear w1
      refine wp_region_boxes W0 (by kernel_rfl) (by kernel_rfl) (Below.refl _ _) ?_
      (refine textB_det ?_ rfl rfl ?_ (fun W hS => ?_) ?_; rotate_left; (focus go_simp); (focus (obtain ⟨hc, hf⟩ := bcell hS; go_simp; first | (refine ⟨?_, Below.refl _ _⟩; rfl) | rfl | exact Below.refl _ _)); (try go_simp))
      (refine textB_det ?_ rfl rfl ?_ (fun W hS => ?_) ?_; rotate_left; (focus go_simp); (focus (obtain ⟨hc, hf⟩ := bcell hS; go_simp; first | (refine ⟨?_, Below.refl _ _⟩; rfl) | rfl | exact Below.refl _ _)); (try go_simp))
      (refine textB_det ?_ rfl rfl ?_ (fun W hS => ?_) ?_; rotate_left; (focus go_simp); (focus (obtain ⟨hc, hf⟩ := bcell hS; go_simp; first | (refine ⟨?_, Below.refl _ _⟩; rfl) | rfl | exact Below.refl _ _)); (try go_simp))
      (refine textB_det ?_ rfl rfl ?_ (fun W hS => ?_) ?_; rotate_left; (focus go_simp); (focus (obtain ⟨hc, hf⟩ := bcell hS; go_simp; refine (clamp_any _ _).mono ?_; rintro e w1 ⟨rfl, rfl⟩; refine ⟨?_, Below.refl _ _⟩; rfl)); (try go_simp))
      (refine textB_det ?_ rfl rfl ?_ (fun W hS => ?_) ?_; rotate_left; (focus go_simp); (focus (obtain ⟨hc, hf⟩ := bcell hS; go_simp; first | (refine ⟨?_, Below.refl _ _⟩; rfl) | rfl | exact Below.refl _ _)); (try go_simp))
      (refine textB_det ?_ rfl rfl ?_ (fun W hS => ?_) ?_; rotate_left; (focus go_simp); (focus (obtain ⟨hc, hf⟩ := bcell hS; go_simp; first | (refine ⟨?_, Below.refl _ _⟩; rfl) | rfl | exact Below.refl _ _)); (try go_simp))
      intro blk w2 hb2 hn1 hn2
      clear hn1 hn2
      simp only [List.map_nil, putAll]
      clear blk
      obtain ⟨hc, hf⟩ := bcell hb2
      have l0 : w.heap.size + 1 < W0.heap.size := by omega
      replace d0 := (hc _ 0 l0).trans d0
      replace d1 := (hc _ 1 l0).trans d1
      replace d2 := (hf _ 0 l0).trans d2
      replace d3 := (hf _ 1 l0).trans d3
      replace e0 := (hc _ 0 l2).trans e0
      replace e1 := (hc _ 1 l2).trans e1
      replace e2 := (hf _ 0 l2).trans e2
      replace e3 := (hf _ 1 l2).trans e3
      have hx2 := Lib.hid (hx0.out.trans (hb2.mono hx0.out.size))
      have m1 : w.heap.size + 1 < w2.heap.size := Nat.lt_of_lt_of_le l0 hb2.size
      have m2 : q < w2.heap.size := Nat.lt_of_lt_of_le l2 hb2.size
      clear hc hf c1 l0 l3' l2 hx0 hb2
      clear W0
      go_wp2_with fail
      refine wp_region_grow_tail 7 (Below w2.heap.size w2) (by kernel_rfl) (by kernel_rfl) (Below.refl _ _).drew ?_
      simp only [List.take_succ_cons, List.take_zero, List.drop_succ_cons, List.drop_zero]
      (refine textS_run ?_ ?_ (fun W hS => ?_) ?_; rotate_left; (focus go_simp); (focus (obtain ⟨hc, hf⟩ := bcell hS; go_simp; first | rfl | exact ⟨rfl, hS⟩ | exact hS)); (try go_simp))
      (refine textS_run ?_ ?_ (fun W hS => ?_) ?_; rotate_left; (focus go_simp); (focus (obtain ⟨hc, hf⟩ := bcell hS; go_simp; first | rfl | exact ⟨rfl, hS⟩ | exact hS)); (try go_simp))
      (refine textS_run ?_ ?_ (fun W hS => ?_) ?_; rotate_left; (focus go_simp); (focus (obtain ⟨hc, hf⟩ := bcell hS; go_simp; first | rfl | exact ⟨rfl, hS⟩ | exact hS)); (try go_simp))
      (refine textS_run ?_ ?_ (fun W hS => ?_) ?_; rotate_left; (focus go_simp); (focus (obtain ⟨hc, hf⟩ := bcell hS; go_simp; refine (counts_below _ _).mono ?_; rintro e w1 ⟨rfl, hb⟩; refine ⟨?_, hS.trans (hb.mono hS.size)⟩; rfl)); (try go_simp))
      (refine textS_run ?_ ?_ (fun W hS => ?_) ?_; rotate_left; (focus go_simp); (focus (obtain ⟨hc, hf⟩ := bcell hS; go_simp; first | rfl | exact ⟨rfl, hS⟩ | exact hS)); (try go_simp))
      (refine textS_run ?_ ?_ (fun W hS => ?_) ?_; rotate_left; (focus go_simp); (focus (obtain ⟨hc, hf⟩ := bcell hS; go_simp; refine (counts_below _ _).mono ?_; rintro e w1 ⟨rfl, hb⟩; refine ⟨?_, hS.trans (hb.mono hS.size)⟩; rfl)); (try go_simp))
      (refine textS_run ?_ ?_ (fun W hS => ?_) ?_; rotate_left; (focus go_simp); (focus (obtain ⟨hc, hf⟩ := bcell hS; go_simp; first | rfl | exact ⟨rfl, hS⟩ | exact hS)); (try go_simp))
      refine textS_nil ?_
      intro w5 hb5
      obtain ⟨hc, hf⟩ := bcell hb5
      replace d0 := (hc _ 0 m1).trans d0
      replace d1 := (hc _ 1 m1).trans d1
      replace d2 := (hf _ 0 m1).trans d2
      replace d3 := (hf _ 1 m1).trans d3
      replace e0 := (hc _ 0 m2).trans e0
      replace e1 := (hc _ 1 m2).trans e1
      replace e2 := (hf _ 0 m2).trans e2
      replace e3 := (hf _ 1 m2).trans e3
      have hx5 := Lib.hid (hx2.out.trans (hb5.mono hx2.out.size))
      replace m1 : w.heap.size + 1 < w5.heap.size := Nat.lt_of_lt_of_le m1 hb5.size
      replace m2 : q < w5.heap.size := Nat.lt_of_lt_of_le m2 hb5.size
      clear hc hf hx2 hb5
      clear w2
      go_wp2
      exact bodyPost_ret (v := .agg #[.int .i64 (cntI (cntI x)), .int .i64 (P2)]) (by simp only [results, Try.results32]; go_simp) rfl ⟨rfl, by first | exact hx5.out | (refine Below.setCell (Below.setCell (Below.setCell ?_ ?_ _) ?_ _) ?_ _ <;> first | exact hx5.out | (show w.heap.size ≤ q; omega) | (show w.heap.size ≤ w.heap.size + 1; omega))⟩
    · clear hz
      go_enter Try.func32, Try.ntmps32
      go_wp2_with (first | (go_at_call 29; refine (kA.out _).mono ?_; rintro e w1 ⟨rfl, hb1⟩))
      obtain ⟨hc, hf⟩ := bcell hb1
      have hx1 := Lib.hid (show Below w.heap.size w w1 from Below.trans (by exact (by repeat (first | exact Below.refl _ _ | assumption | refine below_drewN ?_ _ | refine Below.drew ?_ | refine below_alloc ?_ _ | refine Below.alloc ?_ (by first | omega | (simp; done) | (simp; omega)) _ | refine Below.setCell ?_ (Below.size (by assumption)) _ | refine Below.setCell ?_ (by first | omega | (simp; done) | (simp; omega)) _ | (refine Below.trans ?_ (Below.mono (by assumption) (by first | omega | (simp; done) | (simp; omega)))) | refine below_next ?_ (by assumption)))) (hb1.mono (by simp; omega)))
      have l1 : w.heap.size + 1 < w1.heap.size := by have := hb1.size; simp at this; omega
      have l1' : w.heap.size < w1.heap.size := by omega
      have a1 : w1.cell? ⟨w.heap.size, 1, none⟩ = some (.int .i64 s) := (hc _ 1 (by simp; omega)).trans (by go_simp)
      have r0 : w1.cell? ⟨w.heap.size + 1, 0, none⟩ = some (.int .i64 0) := (hc _ 0 (by simp)).trans (by go_simp)
      have r1 : w1.cell? ⟨w.heap.size + 1, 1, none⟩ = some (.int .i64 0) := (hc _ 1 (by simp)).trans (by go_simp)
      have r2 : w1.frozen? ⟨w.heap.size + 1, 0, none⟩ = false := (hf _ 0 (by simp)).trans (by go_simp)
      have r3 : w1.frozen? ⟨w.heap.size + 1, 1, none⟩ = false := (hf _ 1 (by simp)).trans (by go_simp)
      clear hc hf hb1
      generalize hW : w1.alloc (.cells #[.int .i64 P1, .int .i64 P2] 31) = W0
      have l2 : w1.heap.size < W0.heap.size := by rw [← hW]; simp
      have c1 : W0.cell? ⟨w.heap.size, 1, none⟩ = some (.int .i64 s) := by subst hW; go_simp
      have d0 : W0.cell? ⟨w.heap.size + 1, 0, none⟩ = some (.int .i64 0) := by subst hW; go_simp
      have d1 : W0.cell? ⟨w.heap.size + 1, 1, none⟩ = some (.int .i64 0) := by subst hW; go_simp
      have d2 : W0.frozen? ⟨w.heap.size + 1, 0, none⟩ = false := by subst hW; go_simp
      have d3 : W0.frozen? ⟨w.heap.size + 1, 1, none⟩ = false := by subst hW; go_simp
      have e0 : W0.cell? ⟨w1.heap.size, 0, none⟩ = some (.int .i64 P1) := by subst hW; go_simp
      have e1 : W0.cell? ⟨w1.heap.size, 1, none⟩ = some (.int .i64 P2) := by subst hW; go_simp
      have e2 : W0.frozen? ⟨w1.heap.size, 0, none⟩ = false := by subst hW; go_simp
      have e3 : W0.frozen? ⟨w1.heap.size, 1, none⟩ = false := by subst hW; go_simp
      have hx0 := Lib.hid (show Below w.heap.size w W0 by rw [← hW]; exact hx1.out.alloc hx1.out.size _)
      have l3' : w.heap.size < W0.heap.size := World.block_lt_of_cell? _ _ c1
      clear hW a1 r0 r1 r2 r3 hx1
      generalize w1.heap.size = q at *
      clear w1
      refine wp_region_boxes W0 (by kernel_rfl) (by kernel_rfl) (Below.refl _ _) ?_
      (refine textB_det ?_ rfl rfl ?_ (fun W hS => ?_) ?_; rotate_left; (focus go_simp); (focus (obtain ⟨hc, hf⟩ := bcell hS; go_simp; first | (refine ⟨?_, Below.refl _ _⟩; rfl) | rfl | exact Below.refl _ _)); (try go_simp))
      (refine textB_det ?_ rfl rfl ?_ (fun W hS => ?_) ?_; rotate_left; (focus go_simp); (focus (obtain ⟨hc, hf⟩ := bcell hS; go_simp; first | (refine ⟨?_, Below.refl _ _⟩; rfl) | rfl | exact Below.refl _ _)); (try go_simp))
      (refine textB_det ?_ rfl rfl ?_ (fun W hS => ?_) ?_; rotate_left; (focus go_simp); (focus (obtain ⟨hc, hf⟩ := bcell hS; go_simp; first | (refine ⟨?_, Below.refl _ _⟩; rfl) | rfl | exact Below.refl _ _)); (try go_simp))
      (refine textB_det ?_ rfl rfl ?_ (fun W hS => ?_) ?_; rotate_left; (focus go_simp); (focus (obtain ⟨hc, hf⟩ := bcell hS; go_simp; refine (clamp_any _ _).mono ?_; rintro e w1 ⟨rfl, rfl⟩; refine ⟨?_, Below.refl _ _⟩; rfl)); (try go_simp))
      (refine textB_det ?_ rfl rfl ?_ (fun W hS => ?_) ?_; rotate_left; (focus go_simp); (focus (obtain ⟨hc, hf⟩ := bcell hS; go_simp; first | (refine ⟨?_, Below.refl _ _⟩; rfl) | rfl | exact Below.refl _ _)); (try go_simp))
      (refine textB_det ?_ rfl rfl ?_ (fun W hS => ?_) ?_; rotate_left; (focus go_simp); (focus (obtain ⟨hc, hf⟩ := bcell hS; go_simp; first | (refine ⟨?_, Below.refl _ _⟩; rfl) | rfl | exact Below.refl _ _)); (try go_simp))
      intro blk w2 hb2 hn1 hn2
      clear hn1 hn2
      simp only [List.map_nil, putAll]
      clear blk
      obtain ⟨hc, hf⟩ := bcell hb2
      have l0 : w.heap.size + 1 < W0.heap.size := by omega
      replace d0 := (hc _ 0 l0).trans d0
      replace d1 := (hc _ 1 l0).trans d1
      replace d2 := (hf _ 0 l0).trans d2
      replace d3 := (hf _ 1 l0).trans d3
      replace e0 := (hc _ 0 l2).trans e0
      replace e1 := (hc _ 1 l2).trans e1
      replace e2 := (hf _ 0 l2).trans e2
      replace e3 := (hf _ 1 l2).trans e3
      have hx2 := Lib.hid (hx0.out.trans (hb2.mono hx0.out.size))
      have m1 : w.heap.size + 1 < w2.heap.size := Nat.lt_of_lt_of_le l0 hb2.size
      have m2 : q < w2.heap.size := Nat.lt_of_lt_of_le l2 hb2.size
      clear hc hf c1 l0 l3' l2 hx0 hb2
      clear W0
      go_wp2_with fail
      refine wp_region_grow_tail 7 (Below w2.heap.size w2) (by kernel_rfl) (by kernel_rfl) (Below.refl _ _).drew ?_
      simp only [List.take_succ_cons, List.take_zero, List.drop_succ_cons, List.drop_zero]
      (refine textS_run ?_ ?_ (fun W hS => ?_) ?_; rotate_left; (focus go_simp); (focus (obtain ⟨hc, hf⟩ := bcell hS; go_simp; first | rfl | exact ⟨rfl, hS⟩ | exact hS)); (try go_simp))
      (refine textS_run ?_ ?_ (fun W hS => ?_) ?_; rotate_left; (focus go_simp); (focus (obtain ⟨hc, hf⟩ := bcell hS; go_simp; first | rfl | exact ⟨rfl, hS⟩ | exact hS)); (try go_simp))
      (refine textS_run ?_ ?_ (fun W hS => ?_) ?_; rotate_left; (focus go_simp); (focus (obtain ⟨hc, hf⟩ := bcell hS; go_simp; first | rfl | exact ⟨rfl, hS⟩ | exact hS)); (try go_simp))
      (refine textS_run ?_ ?_ (fun W hS => ?_) ?_; rotate_left; (focus go_simp); (focus (obtain ⟨hc, hf⟩ := bcell hS; go_simp; refine (counts_below _ _).mono ?_; rintro e w1 ⟨rfl, hb⟩; refine ⟨?_, hS.trans (hb.mono hS.size)⟩; rfl)); (try go_simp))
      (refine textS_run ?_ ?_ (fun W hS => ?_) ?_; rotate_left; (focus go_simp); (focus (obtain ⟨hc, hf⟩ := bcell hS; go_simp; first | rfl | exact ⟨rfl, hS⟩ | exact hS)); (try go_simp))
      (refine textS_run ?_ ?_ (fun W hS => ?_) ?_; rotate_left; (focus go_simp); (focus (obtain ⟨hc, hf⟩ := bcell hS; go_simp; refine (counts_below _ _).mono ?_; rintro e w1 ⟨rfl, hb⟩; refine ⟨?_, hS.trans (hb.mono hS.size)⟩; rfl)); (try go_simp))
      (refine textS_run ?_ ?_ (fun W hS => ?_) ?_; rotate_left; (focus go_simp); (focus (obtain ⟨hc, hf⟩ := bcell hS; go_simp; first | rfl | exact ⟨rfl, hS⟩ | exact hS)); (try go_simp))
      refine textS_nil ?_
      intro w5 hb5
      obtain ⟨hc, hf⟩ := bcell hb5
      replace d0 := (hc _ 0 m1).trans d0
      replace d1 := (hc _ 1 m1).trans d1
      replace d2 := (hf _ 0 m1).trans d2
      replace d3 := (hf _ 1 m1).trans d3
      replace e0 := (hc _ 0 m2).trans e0
      replace e1 := (hc _ 1 m2).trans e1
      replace e2 := (hf _ 0 m2).trans e2
      replace e3 := (hf _ 1 m2).trans e3
      have hx5 := Lib.hid (hx2.out.trans (hb5.mono hx2.out.size))
      replace m1 : w.heap.size + 1 < w5.heap.size := Nat.lt_of_lt_of_le m1 hb5.size
      replace m2 : q < w5.heap.size := Nat.lt_of_lt_of_le m2 hb5.size
      clear hc hf hx2 hb5
      clear w2
      go_wp2
      exact bodyPost_ret (v := .agg #[.int .i64 (cntI (P1 + cntI x)), .int .i64 (P2)]) (by simp only [results, Try.results32]; go_simp) rfl ⟨rfl, by first | exact hx5.out | (refine Below.setCell (Below.setCell (Below.setCell ?_ ?_ _) ?_ _) ?_ _ <;> first | exact hx5.out | (show w.heap.size ≤ q; omega) | (show w.heap.size ≤ w.heap.size + 1; omega))⟩
end Go.Proofs.Ytmpknjlfabpipaa
