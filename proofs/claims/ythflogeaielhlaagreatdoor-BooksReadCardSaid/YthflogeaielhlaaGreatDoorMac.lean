/- Laws that belong together: The contract of Factor (share), where what was used is no more than 2^50; of math/bits.Mul64 and Div64 as far as it needs them.; What the known share comes to (one); At where its answer is known.; The contract of Charge (share). No condition but that arguments fit their kinds.; Contracts of the reference's functions of layer 12 (share). No condition but that arguments fit their kinds.; Rows of shares, of the call's own and such as came in. No condition but lengths.; Contracts of Total, Decay and what they hand to each (share). No condition but lengths.; The walk of ShareSplits. No condition but that arguments fit their kinds. -/
import Derived.Test.YthflogeaielhlaaGreatDoorMShare
import Derived.Deep.QuietTactic
import Derived.BigQuiet
import Derived.Laws.Bits64b
import Derived.Laws.OwnMore
import Derived.Laws.AppendOwn
import Derived.OwnWalk
import Derived.Test.YthflogeaielhlaaGreatDoorMask
namespace Go.Proofs.YthflogeaielhlaaGreatDoor
set_option linter.unusedVariables false
open Go.ChangeShapes Go.WideShapes Go.ChangeAt Go.RowKit
attribute [local go_sem ↓] Go.wp_at_zero Go.wp_at_succ

theorem and_mask32 (x : Int) (h0 : 0 ≤ x) (h1 : x ≤ 9223372036854775807) : bits .and .u64 x 4294967295 = x % 4294967296 := by
  obtain ⟨n, rfl⟩ := Int.eq_ofNat_of_zero_le h0
  have h := bits_and_u64_nat n 4294967295 (by omega) (by omega)
  have e : n &&& 4294967295 = n % 4294967296 := Nat.and_two_pow_sub_one_eq_mod n 32
  rw [e] at h
  have h' : bits .and .u64 (n : Int) 4294967295 = ((n % 4294967296 : Nat) : Int) := h
  rw [h']
  omega
theorem mul_key (x : Int) (h0 : 0 ≤ x) (h1 : x ≤ 1125899906842624) : IntKind.u64.wrap (1000 * (x % 4294967296) / 4294967296 / 4294967296 + (1000 * (x % 4294967296) / 4294967296 + 1000 * (x / 4294967296)) / 4294967296) = 0 := by
  have he : 0 ≤ 1000 * (x % 4294967296) / 4294967296 ∧ 1000 * (x % 4294967296) / 4294967296 ≤ 1000 := by omega
  have hf : 0 ≤ x / 4294967296 ∧ x / 4294967296 ≤ 262144 := by omega
  generalize 1000 * (x % 4294967296) / 4294967296 = e at *
  generalize x / 4294967296 = f at *
  have h2 : e / 4294967296 = 0 := by omega
  have h3 : (e + 1000 * f) / 4294967296 = 0 := by omega
  rw [h2, h3]
  rfl
theorem ret_tup2 {k : IntKind} {a b c d : Int} (h1 : a = c) (h2 : b = d) : Ending.returned (.tuple #[.int k a, .int k b]) = .returned (.tuple #[.int k c, .int k d]) := by rw [h1, h2]
set_option maxHeartbeats 1000000 in
theorem mul64_small (x : Int) (h0 : 0 ≤ x) (h1 : x ≤ 1125899906842624) (w : World) :
    Calls Tryz.prog 54 #[.int .u64 1000, .int .u64 x] w fun e w' => e = .returned (.tuple #[.int .u64 0, .int .u64 (1000 * x)]) ∧ w = w' := by
  have key := Lib.hid (show IntKind.u64.wrap (1000 * (x % 4294967296) / 4294967296 / 4294967296 + (1000 * (x % 4294967296) / 4294967296 + 1000 * (x / 4294967296)) / 4294967296) = 0 from mul_key x h0 h1)
  have hm : bits .and .u64 x 4294967295 = x % 4294967296 := and_mask32 x h0 (by omega)
  have hm2 : bits .and .u64 (1000 * (x % 4294967296) / 4294967296) 4294967295 = 1000 * (x % 4294967296) / 4294967296 := by rw [and_mask32 _ (by omega) (by omega)]; omega
  have hk : bits .and .u64 1000 4294967295 = 1000 := by decide
  go_enter Tryz.func54, Tryz.ntmps54
  go_wp2
  go_ret2
  exact ⟨ret_tup2 key.out rfl, rfl⟩
set_option maxHeartbeats 1000000 in
theorem div64_small (x t : Int) (h0 : 0 ≤ x) (h1 : x ≤ 1125899906842624000) (t0 : 1 ≤ t) (t1 : t ≤ 9223372036854775807) (w : World) :
    Calls Tryz.prog 55 #[.int .u64 0, .int .u64 x, .int .u64 t] w fun e w' => e = .returned (.tuple #[.int .u64 (x / t), .int .u64 (x % t)]) ∧ ∃ n, w' = w.drewN n := by
  go_enter Tryz.func55, Tryz.ntmps55
  go_wp2_with fail
  go_quiet (fail)
  go_wp2
  go_ret2
  exact ⟨rfl, nq, rfl⟩

theorem below_drewK {W0 W : World} (h : Below W0.heap.size W0 W) (n : Nat) : Below W0.heap.size W0 (W.drewN n) := ⟨h.os, h.tape, h.output, h.size, h.block⟩
set_option maxHeartbeats 1000000 in
theorem factor_any (u t : Int) (u1 : u ≤ 1125899906842624) (t1 : t ≤ 9223372036854775807) (w : World) :
    Calls Tryz.prog 44 #[.int .i64 u, .int .i64 t] w fun e w' => e = .returned (.int .i64 (factI u t)) ∧ Below w.heap.size w w' := by
  by_cases h1 : t ≤ 0
  · have e : factI u t = 1000 := by unfold factI; rw [if_pos h1]
    rw [e]; clear e
    go_enter Tryz.func44, Tryz.ntmps44
    go_wp2
    go_ret
    exact ⟨rfl, Below.refl _ _⟩
  by_cases h2 : u ≤ 0
  · have e : factI u t = 1000 := by unfold factI; rw [if_neg h1, if_pos h2]
    rw [e]; clear e
    go_enter Tryz.func44, Tryz.ntmps44
    go_wp2
    go_ret
    exact ⟨rfl, Below.refl _ _⟩
  by_cases h3 : t ≤ u
  · have e : factI u t = 0 := by unfold factI; rw [if_neg h1, if_neg h2, if_pos h3]
    rw [e]; clear e
    go_enter Tryz.func44, Tryz.ntmps44
    go_wp2
    go_ret
    exact ⟨rfl, Below.refl _ _⟩
  · have e : factI u t = 1000 - 1000 * u / t := by unfold factI; rw [if_neg h1, if_neg h2, if_neg h3]
    have q0 : 0 ≤ 1000 * u / t := Int.ediv_nonneg (by omega) (by omega)
    have q1 : 1000 * u / t ≤ 1000 := by
      have := Int.ediv_le_ediv (show 0 < t by omega) (show 1000 * u ≤ 1000 * t by omega)
      rwa [Int.mul_ediv_cancel _ (by omega)] at this
    rw [e]; clear e
    go_enter Tryz.func44, Tryz.ntmps44
    go_wp2_with (first | (go_at_call 54; refine (mul64_small _ (by omega) (by omega) _).mono ?_; rintro e w' ⟨rfl, rfl⟩) | (go_at_call 55; refine (div64_small _ _ (by omega) (by omega) (by omega) (by omega) _).mono ?_; rintro e w' ⟨rfl, nq, rfl⟩))
    go_ret
    exact ⟨rfl, below_drewK (Below.refl _ _) _⟩
end Go.Proofs.YthflogeaielhlaaGreatDoor
namespace Go.Proofs.YthflogeaielhlaaGreatDoor
set_option linter.unusedVariables false
open Go.ChangeShapes Go.WideShapes Go.ChangeAt Go.RowKit
attribute [local go_sem ↓] Go.wp_at_zero Go.wp_at_succ

theorem at_is {u s n h : Int} (x0 x1 : Int) (e : atI u s n h = (x0, x1)) (w : World) :
    Calls Tryz.prog 45 #[.agg #[.int .i64 u, .int .i64 s], .int .i64 n, .int .i64 h] w fun e w' => e = .returned (.agg #[.int .i64 x0, .int .i64 x1]) ∧ Below w.heap.size w w' := by
  have := at_any u s n h w
  rw [e] at this
  exact this
theorem factor_is {u t : Int} (x : Int) (e : factI u t = x) (u1 : u ≤ 1125899906842624) (t1 : t ≤ 9223372036854775807) (w : World) :
    Calls Tryz.prog 44 #[.int .i64 u, .int .i64 t] w fun e w' => e = .returned (.int .i64 x) ∧ Below w.heap.size w w' := by
  have := factor_any u t u1 t1 w
  rw [e] at this
  exact this
end Go.Proofs.YthflogeaielhlaaGreatDoor
namespace Go.Proofs.YthflogeaielhlaaGreatDoor
set_option linter.unusedVariables false
open Go.ChangeShapes Go.WideShapes Go.ChangeAt Go.RowKit
attribute [local go_sem ↓] Go.wp_at_zero Go.wp_at_succ comesTo_value_eq comesTo_skip_eq comesTo_enter_eq

theorem clamp_below (n : Int) (w : World) : Calls Tryz.prog 52 #[.int .i64 n] w fun e w' => e = .returned (.int .i64 (clampI n)) ∧ Below w.heap.size w w' :=
  (clamp_any n w).mono fun _ _ ⟨h1, h2⟩ => ⟨h1, by subst h2; exact Below.refl _ _⟩
theorem counts_below (n : Int) (w : World) : Calls Tryz.prog 59 #[.int .i64 n] w fun e w' => e = .returned (.int .i64 (cntI n)) ∧ Below w.heap.size w w' :=
  (counts_any n w).mono fun _ _ ⟨h1, h2⟩ => ⟨h1, by subst h2; exact Below.refl _ _⟩
/-- with so much more used -/
def chargeI (u s n h x : Int) : Int × Int :=
  (cntI ((atI u s n h).1 + cntI x), if (atI u s n h).1 = 0 ∧ (atI u s n h).2 = clampI s then max (atI u s n h).2 (clampI n) else (atI u s n h).2)

set_option maxRecDepth 100000 in
set_option maxHeartbeats 4000000 in
theorem charge_any (u s n h x : Int) (w : World) :
    Calls Tryz.prog 53 #[.agg #[.int .i64 u, .int .i64 s], .int .i64 n, .int .i64 h, .int .i64 x] w fun e w' => e = .returned (.agg #[.int .i64 (chargeI u s n h x).1, .int .i64 (chargeI u s n h x).2]) ∧ Below w.heap.size w w' := by
  have hb := (atI_bd u s n h).1
  have hb2 := (atI_bd u s n h).2.1
  have hbx := cntI_bd x
  have hbs := clampI_bd s
  have hbn := clampI_bd n
  have kA := Lib.hid (fun W => at_any u s n h W)
  have E := Lib.hid (show chargeI u s n h x = (cntI ((atI u s n h).1 + cntI x), if (atI u s n h).1 = 0 ∧ (atI u s n h).2 = clampI s then max (atI u s n h).2 (clampI n) else (atI u s n h).2) from rfl)
  generalize chargeI u s n h x = R at *
  generalize (atI u s n h).1 = P1 at *
  generalize (atI u s n h).2 = P2 at *
  by_cases hz : P1 = 0 ∧ P2 = clampI s
  · by_cases hmx : P2 < clampI n
    · have hR : R = (cntI (cntI x), clampI n) := by rw [E.out, if_pos hz, hz.1, Int.zero_add]; rw [Int.max_eq_right (by omega)]
      clear E
      subst hR
      obtain ⟨rfl, hz2⟩ := hz
      have eb : (P2 == clampI s) = true := by simpa using hz2
      clear hz2
      go_enter Tryz.func53, Tryz.ntmps53
      go_wp2_with (first | (go_at_call 45; refine (kA.out _).mono ?_; rintro e w1 ⟨rfl, hb1⟩))
      obtain ⟨hc, hf⟩ := bcell hb1
      have hx1 := Lib.hid (show Below w.heap.size w w1 from Below.trans (by exact (by repeat (first | exact Below.refl _ _ | assumption | refine below_drewN ?_ _ | refine Below.drew ?_ | refine below_alloc ?_ _ | refine Below.alloc ?_ (by first | omega | (simp; done) | (simp; omega)) _ | refine Below.setCell ?_ (Below.size (by assumption)) _ | refine Below.setCell ?_ (by first | omega | (simp; done) | (simp; omega)) _ | (refine Below.trans ?_ (Below.mono (by assumption) (by first | omega | (simp; done) | (simp; omega)))) | refine below_next ?_ (by assumption)))) (hb1.mono (by simp; omega)))
      have l1 : w.heap.size + 1 < w1.heap.size := by have := hb1.size; simp at this; omega
      have l1' : w.heap.size < w1.heap.size := by omega
      have a1 : w1.cell? ⟨w.heap.size, 1, none⟩ = some (.int .i64 s) := (hc _ 1 (by simp; omega)).trans (by go_simp)
      have r0 : w1.cell? ⟨w.heap.size + 1, 0, none⟩ = some (.int .i64 0) := (hc _ 0 (by simp)).trans (by go_simp)
      have r1 : w1.cell? ⟨w.heap.size + 1, 1, none⟩ = some (.int .i64 0) := (hc _ 1 (by simp)).trans (by go_simp)
      have r2 : w1.frozen? ⟨w.heap.size + 1, 0, none⟩ = false := (hf _ 0 (by simp)).trans (by go_simp)
      have r3 : w1.frozen? ⟨w.heap.size + 1, 1, none⟩ = false := (hf _ 1 (by simp)).trans (by go_simp)
      clear hc hf hb1
      generalize hW : w1.alloc (.cells #[.int .i64 0, .int .i64 P2] 44) = W0
      have l2 : w1.heap.size < W0.heap.size := by rw [← hW]; simp
      have c1 : W0.cell? ⟨w.heap.size, 1, none⟩ = some (.int .i64 s) := by subst hW; go_simp
      have d0 : W0.cell? ⟨w.heap.size + 1, 0, none⟩ = some (.int .i64 0) := by subst hW; go_simp
      have d1 : W0.cell? ⟨w.heap.size + 1, 1, none⟩ = some (.int .i64 0) := by subst hW; go_simp
      have d2 : W0.frozen? ⟨w.heap.size + 1, 0, none⟩ = false := by subst hW; go_simp
      have d3 : W0.frozen? ⟨w.heap.size + 1, 1, none⟩ = false := by subst hW; go_simp
      have e0 : W0.cell? ⟨w1.heap.size, 0, none⟩ = some (.int .i64 0) := by subst hW; go_simp
      have e1 : W0.cell? ⟨w1.heap.size, 1, none⟩ = some (.int .i64 P2) := by subst hW; go_simp
      have e2 : W0.frozen? ⟨w1.heap.size, 0, none⟩ = false := by subst hW; go_simp
      have e3 : W0.frozen? ⟨w1.heap.size, 1, none⟩ = false := by subst hW; go_simp
      have hx0 := Lib.hid (show Below w.heap.size w W0 by rw [← hW]; exact hx1.out.alloc hx1.out.size _)
      have l3' : w.heap.size < W0.heap.size := World.block_lt_of_cell? _ _ c1
      clear hW a1 r0 r1 r2 r3 hx1
      generalize w1.heap.size = q at *
      clear w1
      refine wp_region_boxes W0 (by kernel_rfl) (by kernel_rfl) (Below.refl _ _) ?_
      (refine textB_det ?_ rfl rfl ?_ (fun W hS => ?_) ?_; rotate_left; (focus go_simp); (focus (obtain ⟨hc, hf⟩ := bcell hS; go_simp; first | (refine ⟨?_, Below.refl _ _⟩; rfl) | rfl | exact Below.refl _ _)); (try go_simp))
      (refine textB_det ?_ rfl rfl ?_ (fun W hS => ?_) ?_; rotate_left; (focus go_simp); (focus (obtain ⟨hc, hf⟩ := bcell hS; go_simp; first | (refine ⟨?_, Below.refl _ _⟩; rfl) | rfl | exact Below.refl _ _)); (try go_simp))
      (refine textB_det ?_ rfl rfl ?_ (fun W hS => ?_) ?_; rotate_left; (focus go_simp); (focus (obtain ⟨hc, hf⟩ := bcell hS; go_simp; first | (refine ⟨?_, Below.refl _ _⟩; rfl) | rfl | exact Below.refl _ _)); (try go_simp))
      (refine textB_det ?_ rfl rfl ?_ (fun W hS => ?_) ?_; rotate_left; (focus go_simp); (focus (obtain ⟨hc, hf⟩ := bcell hS; go_simp; refine (clamp_any _ _).mono ?_; rintro e w1 ⟨rfl, rfl⟩; refine ⟨?_, Below.refl _ _⟩; rfl)); (try go_simp))
      (refine textB_det ?_ rfl rfl ?_ (fun W hS => ?_) ?_; rotate_left; (focus go_simp); (focus (obtain ⟨hc, hf⟩ := bcell hS; go_simp; first | (refine ⟨?_, Below.refl _ _⟩; rfl) | rfl | exact Below.refl _ _)); (try go_simp))
      (refine textB_det ?_ rfl rfl ?_ (fun W hS => ?_) ?_; rotate_left; (focus go_simp); (focus (obtain ⟨hc, hf⟩ := bcell hS; go_simp; first | (refine ⟨?_, Below.refl _ _⟩; rfl) | rfl | exact Below.refl _ _)); (try go_simp))
      intro blk w2 hb2 hn1 hn2
      clear hn1 hn2
      simp only [List.map_nil, putAll]
      clear blk
      obtain ⟨hc, hf⟩ := bcell hb2
      have l0 : w.heap.size + 1 < W0.heap.size := by omega
      replace d0 := (hc _ 0 l0).trans d0
      replace d1 := (hc _ 1 l0).trans d1
      replace d2 := (hf _ 0 l0).trans d2
      replace d3 := (hf _ 1 l0).trans d3
      replace e0 := (hc _ 0 l2).trans e0
      replace e1 := (hc _ 1 l2).trans e1
      replace e2 := (hf _ 0 l2).trans e2
      replace e3 := (hf _ 1 l2).trans e3
      have hx2 := Lib.hid (hx0.out.trans (hb2.mono hx0.out.size))
      have m1 : w.heap.size + 1 < w2.heap.size := Nat.lt_of_lt_of_le l0 hb2.size
      have m2 : q < w2.heap.size := Nat.lt_of_lt_of_le l2 hb2.size
      clear hc hf c1 l0 l3' l2 hx0 hb2
      clear W0
      go_wp2_with fail
      refine wp_region_grow_tail 6 (Below w2.heap.size w2) (by kernel_rfl) (by kernel_rfl) (Below.refl _ _).drew ?_
      simp only [List.take_succ_cons, List.take_zero, List.drop_succ_cons, List.drop_zero]
      (refine textS_run ?_ ?_ (fun W hS => ?_) ?_; rotate_left; (focus go_simp); (focus (obtain ⟨hc, hf⟩ := bcell hS; go_simp; first | rfl | exact ⟨rfl, hS⟩ | exact hS)); (try go_simp))
      (refine textS_run ?_ ?_ (fun W hS => ?_) ?_; rotate_left; (focus go_simp); (focus (obtain ⟨hc, hf⟩ := bcell hS; go_simp; first | rfl | exact ⟨rfl, hS⟩ | exact hS)); (try go_simp))
      (refine textS_run ?_ ?_ (fun W hS => ?_) ?_; rotate_left; (focus go_simp); (focus (obtain ⟨hc, hf⟩ := bcell hS; go_simp; first | rfl | exact ⟨rfl, hS⟩ | exact hS)); (try go_simp))
      (refine textS_run ?_ ?_ (fun W hS => ?_) ?_; rotate_left; (focus go_simp); (focus (obtain ⟨hc, hf⟩ := bcell hS; go_simp; refine (clamp_below _ _).mono ?_; rintro e w1 ⟨rfl, hb⟩; refine ⟨?_, hS.trans (hb.mono hS.size)⟩; rfl)); (try go_simp))
      (refine textS_run ?_ ?_ (fun W hS => ?_) ?_; rotate_left; (focus go_simp); (focus (obtain ⟨hc, hf⟩ := bcell hS; go_simp; first | rfl | exact ⟨rfl, hS⟩ | exact hS)); (try go_simp))
      (refine textS_run ?_ ?_ (fun W hS => ?_) ?_; rotate_left; (focus go_simp); (focus (obtain ⟨hc, hf⟩ := bcell hS; go_simp; first | rfl | exact ⟨rfl, hS⟩ | exact hS)); (try go_simp))
      refine textS_nil ?_
      intro w3 hb3
      obtain ⟨hc, hf⟩ := bcell hb3
      replace d0 := (hc _ 0 m1).trans d0
      replace d1 := (hc _ 1 m1).trans d1
      replace d2 := (hf _ 0 m1).trans d2
      replace d3 := (hf _ 1 m1).trans d3
      replace e0 := (hc _ 0 m2).trans e0
      replace e1 := (hc _ 1 m2).trans e1
      replace e2 := (hf _ 0 m2).trans e2
      replace e3 := (hf _ 1 m2).trans e3
      have hx3 := Lib.hid (hx2.out.trans (hb3.mono hx2.out.size))
      replace m1 : w.heap.size + 1 < w3.heap.size := Nat.lt_of_lt_of_le m1 hb3.size
      replace m2 : q < w3.heap.size := Nat.lt_of_lt_of_le m2 hb3.size
      clear hc hf hx2 hb3
      clear w2
      go_wp2_with fail
      generalize hW : w3.setCell ⟨q, 1, none⟩ (.int .i64 (clampI n)) = W4
      have hq : w.heap.size + 1 ≠ q := by omega
      have g0 : W4.cell? ⟨w.heap.size + 1, 0, none⟩ = some (.int .i64 0) := by subst hW; go_simp
      have g1 : W4.cell? ⟨w.heap.size + 1, 1, none⟩ = some (.int .i64 0) := by subst hW; go_simp
      have g2 : W4.frozen? ⟨w.heap.size + 1, 0, none⟩ = false := by subst hW; go_simp
      have g3 : W4.frozen? ⟨w.heap.size + 1, 1, none⟩ = false := by subst hW; go_simp
      have k0 : W4.cell? ⟨q, 0, none⟩ = some (.int .i64 0) := by subst hW; go_simp
      have k1 : W4.cell? ⟨q, 1, none⟩ = some (.int .i64 (clampI n)) := by subst hW; go_simp
      have k2 : W4.frozen? ⟨q, 0, none⟩ = false := by subst hW; go_simp
      have k3 : W4.frozen? ⟨q, 1, none⟩ = false := by subst hW; go_simp
      have m1' : w.heap.size + 1 < W4.heap.size := World.block_lt_of_cell? _ _ g0
      have m2' : q < W4.heap.size := World.block_lt_of_cell? _ _ k0
      have hx4 := Lib.hid (show Below w.heap.size w W4 by rw [← hW]; exact hx3.out.setCell (by show w.heap.size ≤ q; omega) _)
      clear hW d0 d1 d2 d3 e0 e1 e2 e3 m1 m2 hx3
      clear w3
      have d0 := g0; have d1 := g1; have d2 := g2; have d3 := g3; have e0 := k0; have e1 := k1; have e2 := k2; have e3 := k3; have m1 := m1'; have m2 := m2'
      clear g0 g1 g2 g3 k0 k1 k2 k3 m1' m2' hq
      refine wp_region_grow_tail 7 (Below W4.heap.size W4) (by kernel_rfl) (by kernel_rfl) (Below.refl _ _).drew ?_
      simp only [List.take_succ_cons, List.take_zero, List.drop_succ_cons, List.drop_zero]
      (refine textS_run ?_ ?_ (fun W hS => ?_) ?_; rotate_left; (focus go_simp); (focus (obtain ⟨hc, hf⟩ := bcell hS; go_simp; first | rfl | exact ⟨rfl, hS⟩ | exact hS)); (try go_simp))
      (refine textS_run ?_ ?_ (fun W hS => ?_) ?_; rotate_left; (focus go_simp); (focus (obtain ⟨hc, hf⟩ := bcell hS; go_simp; first | rfl | exact ⟨rfl, hS⟩ | exact hS)); (try go_simp))
      (refine textS_run ?_ ?_ (fun W hS => ?_) ?_; rotate_left; (focus go_simp); (focus (obtain ⟨hc, hf⟩ := bcell hS; go_simp; first | rfl | exact ⟨rfl, hS⟩ | exact hS)); (try go_simp))
      (refine textS_run ?_ ?_ (fun W hS => ?_) ?_; rotate_left; (focus go_simp); (focus (obtain ⟨hc, hf⟩ := bcell hS; go_simp; refine (counts_below _ _).mono ?_; rintro e w1 ⟨rfl, hb⟩; refine ⟨?_, hS.trans (hb.mono hS.size)⟩; rfl)); (try go_simp))
      (refine textS_run ?_ ?_ (fun W hS => ?_) ?_; rotate_left; (focus go_simp); (focus (obtain ⟨hc, hf⟩ := bcell hS; go_simp; first | rfl | exact ⟨rfl, hS⟩ | exact hS)); (try go_simp))
      (refine textS_run ?_ ?_ (fun W hS => ?_) ?_; rotate_left; (focus go_simp); (focus (obtain ⟨hc, hf⟩ := bcell hS; go_simp; refine (counts_below _ _).mono ?_; rintro e w1 ⟨rfl, hb⟩; refine ⟨?_, hS.trans (hb.mono hS.size)⟩; rfl)); (try go_simp))
      (refine textS_run ?_ ?_ (fun W hS => ?_) ?_; rotate_left; (focus go_simp); (focus (obtain ⟨hc, hf⟩ := bcell hS; go_simp; first | rfl | exact ⟨rfl, hS⟩ | exact hS)); (try go_simp))
      refine textS_nil ?_
      intro w5 hb5
      obtain ⟨hc, hf⟩ := bcell hb5
      replace d0 := (hc _ 0 m1).trans d0
      replace d1 := (hc _ 1 m1).trans d1
      replace d2 := (hf _ 0 m1).trans d2
      replace d3 := (hf _ 1 m1).trans d3
      replace e0 := (hc _ 0 m2).trans e0
      replace e1 := (hc _ 1 m2).trans e1
      replace e2 := (hf _ 0 m2).trans e2
      replace e3 := (hf _ 1 m2).trans e3
      have hx5 := Lib.hid (hx4.out.trans (hb5.mono hx4.out.size))
      replace m1 : w.heap.size + 1 < w5.heap.size := Nat.lt_of_lt_of_le m1 hb5.size
      replace m2 : q < w5.heap.size := Nat.lt_of_lt_of_le m2 hb5.size
      clear hc hf hx4 hb5
      clear W4
      go_wp2
      exact bodyPost_ret (v := .agg #[.int .i64 (cntI (cntI x)), .int .i64 (clampI n)]) (by simp only [results, Tryz.results53]; go_simp) rfl ⟨rfl, by first | exact hx5.out | (refine Below.setCell (Below.setCell (Below.setCell ?_ ?_ _) ?_ _) ?_ _ <;> first | exact hx5.out | (show w.heap.size ≤ q; omega) | (show w.heap.size ≤ w.heap.size + 1; omega))⟩
    · have hR : R = (cntI (cntI x), P2) := by rw [E.out, if_pos hz, hz.1, Int.zero_add]; rw [Int.max_eq_left (by omega)]
      have hmx' : clampI n ≤ P2 := by omega
      clear hmx
      clear E
      subst hR
      obtain ⟨rfl, hz2⟩ := hz
      have eb : (P2 == clampI s) = true := by simpa using hz2
      clear hz2
      go_enter Tryz.func53, Tryz.ntmps53
      go_wp2_with (first | (go_at_call 45; refine (kA.out _).mono ?_; rintro e w1 ⟨rfl, hb1⟩))
      obtain ⟨hc, hf⟩ := bcell hb1
      have hx1 := Lib.hid (show Below w.heap.size w w1 from Below.trans (by exact (by repeat (first | exact Below.refl _ _ | assumption | refine below_drewN ?_ _ | refine Below.drew ?_ | refine below_alloc ?_ _ | refine Below.alloc ?_ (by first | omega | (simp; done) | (simp; omega)) _ | refine Below.setCell ?_ (Below.size (by assumption)) _ | refine Below.setCell ?_ (by first | omega | (simp; done) | (simp; omega)) _ | (refine Below.trans ?_ (Below.mono (by assumption) (by first | omega | (simp; done) | (simp; omega)))) | refine below_next ?_ (by assumption)))) (hb1.mono (by simp; omega)))
      have l1 : w.heap.size + 1 < w1.heap.size := by have := hb1.size; simp at this; omega
      have l1' : w.heap.size < w1.heap.size := by omega
      have a1 : w1.cell? ⟨w.heap.size, 1, none⟩ = some (.int .i64 s) := (hc _ 1 (by simp; omega)).trans (by go_simp)
      have r0 : w1.cell? ⟨w.heap.size + 1, 0, none⟩ = some (.int .i64 0) := (hc _ 0 (by simp)).trans (by go_simp)
      have r1 : w1.cell? ⟨w.heap.size + 1, 1, none⟩ = some (.int .i64 0) := (hc _ 1 (by simp)).trans (by go_simp)
      have r2 : w1.frozen? ⟨w.heap.size + 1, 0, none⟩ = false := (hf _ 0 (by simp)).trans (by go_simp)
      have r3 : w1.frozen? ⟨w.heap.size + 1, 1, none⟩ = false := (hf _ 1 (by simp)).trans (by go_simp)
      clear hc hf hb1
      generalize hW : w1.alloc (.cells #[.int .i64 0, .int .i64 P2] 44) = W0
      have l2 : w1.heap.size < W0.heap.size := by rw [← hW]; simp
      have c1 : W0.cell? ⟨w.heap.size, 1, none⟩ = some (.int .i64 s) := by subst hW; go_simp
      have d0 : W0.cell? ⟨w.heap.size + 1, 0, none⟩ = some (.int .i64 0) := by subst hW; go_simp
      have d1 : W0.cell? ⟨w.heap.size + 1, 1, none⟩ = some (.int .i64 0) := by subst hW; go_simp
      have d2 : W0.frozen? ⟨w.heap.size + 1, 0, none⟩ = false := by subst hW; go_simp
      have d3 : W0.frozen? ⟨w.heap.size + 1, 1, none⟩ = false := by subst hW; go_simp
      have e0 : W0.cell? ⟨w1.heap.size, 0, none⟩ = some (.int .i64 0) := by subst hW; go_simp
      have e1 : W0.cell? ⟨w1.heap.size, 1, none⟩ = some (.int .i64 P2) := by subst hW; go_simp
      have e2 : W0.frozen? ⟨w1.heap.size, 0, none⟩ = false := by subst hW; go_simp
      have e3 : W0.frozen? ⟨w1.heap.size, 1, none⟩ = false := by subst hW; go_simp
      have hx0 := Lib.hid (show Below w.heap.size w W0 by rw [← hW]; exact hx1.out.alloc hx1.out.size _)
      have l3' : w.heap.size < W0.heap.size := World.block_lt_of_cell? _ _ c1
      clear hW a1 r0 r1 r2 r3 hx1
      generalize w1.heap.size = q at *
      clear w1
      refine wp_region_boxes W0 (by kernel_rfl) (by kernel_rfl) (Below.refl _ _) ?_
      (refine textB_det ?_ rfl rfl ?_ (fun W hS => ?_) ?_; rotate_left; (focus go_simp); (focus (obtain ⟨hc, hf⟩ := bcell hS; go_simp; first | (refine ⟨?_, Below.refl _ _⟩; rfl) | rfl | exact Below.refl _ _)); (try go_simp))
      (refine textB_det ?_ rfl rfl ?_ (fun W hS => ?_) ?_; rotate_left; (focus go_simp); (focus (obtain ⟨hc, hf⟩ := bcell hS; go_simp; first | (refine ⟨?_, Below.refl _ _⟩; rfl) | rfl | exact Below.refl _ _)); (try go_simp))
      (refine textB_det ?_ rfl rfl ?_ (fun W hS => ?_) ?_; rotate_left; (focus go_simp); (focus (obtain ⟨hc, hf⟩ := bcell hS; go_simp; first | (refine ⟨?_, Below.refl _ _⟩; rfl) | rfl | exact Below.refl _ _)); (try go_simp))
      (refine textB_det ?_ rfl rfl ?_ (fun W hS => ?_) ?_; rotate_left; (focus go_simp); (focus (obtain ⟨hc, hf⟩ := bcell hS; go_simp; refine (clamp_any _ _).mono ?_; rintro e w1 ⟨rfl, rfl⟩; refine ⟨?_, Below.refl _ _⟩; rfl)); (try go_simp))
      (refine textB_det ?_ rfl rfl ?_ (fun W hS => ?_) ?_; rotate_left; (focus go_simp); (focus (obtain ⟨hc, hf⟩ := bcell hS; go_simp; first | (refine ⟨?_, Below.refl _ _⟩; rfl) | rfl | exact Below.refl _ _)); (try go_simp))
      (refine textB_det ?_ rfl rfl ?_ (fun W hS => ?_) ?_; rotate_left; (focus go_simp); (focus (obtain ⟨hc, hf⟩ := bcell hS; go_simp; first | (refine ⟨?_, Below.refl _ _⟩; rfl) | rfl | exact Below.refl _ _)); (try go_simp))
      intro blk w2 hb2 hn1 hn2
      clear hn1 hn2
      simp only [List.map_nil, putAll]
      clear blk
      obtain ⟨hc, hf⟩ := bcell hb2
      have l0 : w.heap.size + 1 < W0.heap.size := by omega
      replace d0 := (hc _ 0 l0).trans d0
      replace d1 := (hc _ 1 l0).trans d1
      replace d2 := (hf _ 0 l0).trans d2
      replace d3 := (hf _ 1 l0).trans d3
      replace e0 := (hc _ 0 l2).trans e0
      replace e1 := (hc _ 1 l2).trans e1
      replace e2 := (hf _ 0 l2).trans e2
      replace e3 := (hf _ 1 l2).trans e3
      have hx2 := Lib.hid (hx0.out.trans (hb2.mono hx0.out.size))
      have m1 : w.heap.size + 1 < w2.heap.size := Nat.lt_of_lt_of_le l0 hb2.size
      have m2 : q < w2.heap.size := Nat.lt_of_lt_of_le l2 hb2.size
      clear hc hf c1 l0 l3' l2 hx0 hb2
      clear W0
      go_wp2_with fail
      refine wp_region_grow_tail 6 (Below w2.heap.size w2) (by kernel_rfl) (by kernel_rfl) (Below.refl _ _).drew ?_
      simp only [List.take_succ_cons, List.take_zero, List.drop_succ_cons, List.drop_zero]
      (refine textS_run ?_ ?_ (fun W hS => ?_) ?_; rotate_left; (focus go_simp); (focus (obtain ⟨hc, hf⟩ := bcell hS; go_simp; first | rfl | exact ⟨rfl, hS⟩ | exact hS)); (try go_simp))
      (refine textS_run ?_ ?_ (fun W hS => ?_) ?_; rotate_left; (focus go_simp); (focus (obtain ⟨hc, hf⟩ := bcell hS; go_simp; first | rfl | exact ⟨rfl, hS⟩ | exact hS)); (try go_simp))
      (refine textS_run ?_ ?_ (fun W hS => ?_) ?_; rotate_left; (focus go_simp); (focus (obtain ⟨hc, hf⟩ := bcell hS; go_simp; first | rfl | exact ⟨rfl, hS⟩ | exact hS)); (try go_simp))
      (refine textS_run ?_ ?_ (fun W hS => ?_) ?_; rotate_left; (focus go_simp); (focus (obtain ⟨hc, hf⟩ := bcell hS; go_simp; refine (clamp_below _ _).mono ?_; rintro e w1 ⟨rfl, hb⟩; refine ⟨?_, hS.trans (hb.mono hS.size)⟩; rfl)); (try go_simp))
      (refine textS_run ?_ ?_ (fun W hS => ?_) ?_; rotate_left; (focus go_simp); (focus (obtain ⟨hc, hf⟩ := bcell hS; go_simp; first | rfl | exact ⟨rfl, hS⟩ | exact hS)); (try go_simp))
      (refine textS_run ?_ ?_ (fun W hS => ?_) ?_; rotate_left; (focus go_simp); (focus (obtain ⟨hc, hf⟩ := bcell hS; go_simp; first | rfl | exact ⟨rfl, hS⟩ | exact hS)); (try go_simp))
      refine textS_nil ?_
      intro w3 hb3
      obtain ⟨hc, hf⟩ := bcell hb3
      replace d0 := (hc _ 0 m1).trans d0
      replace d1 := (hc _ 1 m1).trans d1
      replace d2 := (hf _ 0 m1).trans d2
      replace d3 := (hf _ 1 m1).trans d3
      replace e0 := (hc _ 0 m2).trans e0
      replace e1 := (hc _ 1 m2).trans e1
      replace e2 := (hf _ 0 m2).trans e2
      replace e3 := (hf _ 1 m2).trans e3
      have hx3 := Lib.hid (hx2.out.trans (hb3.mono hx2.out.size))
      replace m1 : w.heap.size + 1 < w3.heap.size := Nat.lt_of_lt_of_le m1 hb3.size
      replace m2 : q < w3.heap.size := Nat.lt_of_lt_of_le m2 hb3.size
      clear hc hf hx2 hb3
      clear w2
      go_wp2_with fail
      generalize hW : w3.setCell ⟨q, 1, none⟩ (.int .i64 (P2)) = W4
      have hq : w.heap.size + 1 ≠ q := by omega
      have g0 : W4.cell? ⟨w.heap.size + 1, 0, none⟩ = some (.int .i64 0) := by subst hW; go_simp
      have g1 : W4.cell? ⟨w.heap.size + 1, 1, none⟩ = some (.int .i64 0) := by subst hW; go_simp
      have g2 : W4.frozen? ⟨w.heap.size + 1, 0, none⟩ = false := by subst hW; go_simp
      have g3 : W4.frozen? ⟨w.heap.size + 1, 1, none⟩ = false := by subst hW; go_simp
      have k0 : W4.cell? ⟨q, 0, none⟩ = some (.int .i64 0) := by subst hW; go_simp
      have k1 : W4.cell? ⟨q, 1, none⟩ = some (.int .i64 (P2)) := by subst hW; go_simp
      have k2 : W4.frozen? ⟨q, 0, none⟩ = false := by subst hW; go_simp
      have k3 : W4.frozen? ⟨q, 1, none⟩ = false := by subst hW; go_simp
      have m1' : w.heap.size + 1 < W4.heap.size := World.block_lt_of_cell? _ _ g0
      have m2' : q < W4.heap.size := World.block_lt_of_cell? _ _ k0
      have hx4 := Lib.hid (show Below w.heap.size w W4 by rw [← hW]; exact hx3.out.setCell (by show w.heap.size ≤ q; omega) _)
      clear hW d0 d1 d2 d3 e0 e1 e2 e3 m1 m2 hx3
      clear w3
      have d0 := g0; have d1 := g1; have d2 := g2; have d3 := g3; have e0 := k0; have e1 := k1; have e2 := k2; have e3 := k3; have m1 := m1'; have m2 := m2'
      clear g0 g1 g2 g3 k0 k1 k2 k3 m1' m2' hq
      refine wp_region_grow_tail 7 (Below W4.heap.size W4) (by kernel_rfl) (by kernel_rfl) (Below.refl _ _).drew ?_
      simp only [List.take_succ_cons, List.take_zero, List.drop_succ_cons, List.drop_zero]
      (refine textS_run ?_ ?_ (fun W hS => ?_) ?_; rotate_left; (focus go_simp); (focus (obtain ⟨hc, hf⟩ := bcell hS; go_simp; first | rfl | exact ⟨rfl, hS⟩ | exact hS)); (try go_simp))
      (refine textS_run ?_ ?_ (fun W hS => ?_) ?_; rotate_left; (focus go_simp); (focus (obtain ⟨hc, hf⟩ := bcell hS; go_simp; first | rfl | exact ⟨rfl, hS⟩ | exact hS)); (try go_simp))
      (refine textS_run ?_ ?_ (fun W hS => ?_) ?_; rotate_left; (focus go_simp); (focus (obtain ⟨hc, hf⟩ := bcell hS; go_simp; first | rfl | exact ⟨rfl, hS⟩ | exact hS)); (try go_simp))
      (refine textS_run ?_ ?_ (fun W hS => ?_) ?_; rotate_left; (focus go_simp); (focus (obtain ⟨hc, hf⟩ := bcell hS; go_simp; refine (counts_below _ _).mono ?_; rintro e w1 ⟨rfl, hb⟩; refine ⟨?_, hS.trans (hb.mono hS.size)⟩; rfl)); (try go_simp))
      (refine textS_run ?_ ?_ (fun W hS => ?_) ?_; rotate_left; (focus go_simp); (focus (obtain ⟨hc, hf⟩ := bcell hS; go_simp; first | rfl | exact ⟨rfl, hS⟩ | exact hS)); (try go_simp))
      (refine textS_run ?_ ?_ (fun W hS => ?_) ?_; rotate_left; (focus go_simp); (focus (obtain ⟨hc, hf⟩ := bcell hS; go_simp; refine (counts_below _ _).mono ?_; rintro e w1 ⟨rfl, hb⟩; refine ⟨?_, hS.trans (hb.mono hS.size)⟩; rfl)); (try go_simp))
      (refine textS_run ?_ ?_ (fun W hS => ?_) ?_; rotate_left; (focus go_simp); (focus (obtain ⟨hc, hf⟩ := bcell hS; go_simp; first | rfl | exact ⟨rfl, hS⟩ | exact hS)); (try go_simp))
      refine textS_nil ?_
      intro w5 hb5
      obtain ⟨hc, hf⟩ := bcell hb5
      replace d0 := (hc _ 0 m1).trans d0
      replace d1 := (hc _ 1 m1).trans d1
      replace d2 := (hf _ 0 m1).trans d2
      replace d3 := (hf _ 1 m1).trans d3
      replace e0 := (hc _ 0 m2).trans e0
      replace e1 := (hc _ 1 m2).trans e1
      replace e2 := (hf _ 0 m2).trans e2
      replace e3 := (hf _ 1 m2).trans e3
      have hx5 := Lib.hid (hx4.out.trans (hb5.mono hx4.out.size))
      replace m1 : w.heap.size + 1 < w5.heap.size := Nat.lt_of_lt_of_le m1 hb5.size
      replace m2 : q < w5.heap.size := Nat.lt_of_lt_of_le m2 hb5.size
      clear hc hf hx4 hb5
      clear W4
      go_wp2
      exact bodyPost_ret (v := .agg #[.int .i64 (cntI (cntI x)), .int .i64 (P2)]) (by simp only [results, Tryz.results53]; go_simp) rfl ⟨rfl, by first | exact hx5.out | (refine Below.setCell (Below.setCell (Below.setCell ?_ ?_ _) ?_ _) ?_ _ <;> first | exact hx5.out | (show w.heap.size ≤ q; omega) | (show w.heap.size ≤ w.heap.size + 1; omega))⟩
  · have hR : R = (cntI (P1 + cntI x), P2) := by rw [E.out, if_neg hz]
    clear E
    subst hR
    by_cases hp : P1 = 0
    · have hn : ¬ P2 = clampI s := fun h => hz ⟨hp, h⟩
      have hn' : ¬ clampI s = P2 := fun h => hn h.symm
      clear hz
      subst hp
      simp only [Int.zero_add]
      go_enter Tryz.func53, Tryz.ntmps53
      go_wp2_with (first | (go_at_call 45; refine (kA.out _).mono ?_; rintro e w1 ⟨rfl, hb1⟩))
      obtain ⟨hc, hf⟩ := bcell hb1
      have hx1 := Lib.hid (show Below w.heap.size w w1 from Below.trans (by exact (by repeat (first | exact Below.refl _ _ | assumption | refine below_drewN ?_ _ | refine Below.drew ?_ | refine below_alloc ?_ _ | refine Below.alloc ?_ (by first | omega | (simp; done) | (simp; omega)) _ | refine Below.setCell ?_ (Below.size (by assumption)) _ | refine Below.setCell ?_ (by first | omega | (simp; done) | (simp; omega)) _ | (refine Below.trans ?_ (Below.mono (by assumption) (by first | omega | (simp; done) | (simp; omega)))) | refine below_next ?_ (by assumption)))) (hb1.mono (by simp; omega)))
      have l1 : w.heap.size + 1 < w1.heap.size := by have := hb1.size; simp at this; omega
      have l1' : w.heap.size < w1.heap.size := by omega
      have a1 : w1.cell? ⟨w.heap.size, 1, none⟩ = some (.int .i64 s) := (hc _ 1 (by simp; omega)).trans (by go_simp)
      have r0 : w1.cell? ⟨w.heap.size + 1, 0, none⟩ = some (.int .i64 0) := (hc _ 0 (by simp)).trans (by go_simp)
      have r1 : w1.cell? ⟨w.heap.size + 1, 1, none⟩ = some (.int .i64 0) := (hc _ 1 (by simp)).trans (by go_simp)
      have r2 : w1.frozen? ⟨w.heap.size + 1, 0, none⟩ = false := (hf _ 0 (by simp)).trans (by go_simp)
      have r3 : w1.frozen? ⟨w.heap.size + 1, 1, none⟩ = false := (hf _ 1 (by simp)).trans (by go_simp)
      clear hc hf hb1
      generalize hW : w1.alloc (.cells #[.int .i64 0, .int .i64 P2] 44) = W0
      have l2 : w1.heap.size < W0.heap.size := by rw [← hW]; simp
      have c1 : W0.cell? ⟨w.heap.size, 1, none⟩ = some (.int .i64 s) := by subst hW; go_simp
      have d0 : W0.cell? ⟨w.heap.size + 1, 0, none⟩ = some (.int .i64 0) := by subst hW; go_simp
      have d1 : W0.cell? ⟨w.heap.size + 1, 1, none⟩ = some (.int .i64 0) := by subst hW; go_simp
      have d2 : W0.frozen? ⟨w.heap.size + 1, 0, none⟩ = false := by subst hW; go_simp
      have d3 : W0.frozen? ⟨w.heap.size + 1, 1, none⟩ = false := by subst hW; go_simp
      have e0 : W0.cell? ⟨w1.heap.size, 0, none⟩ = some (.int .i64 0) := by subst hW; go_simp
      have e1 : W0.cell? ⟨w1.heap.size, 1, none⟩ = some (.int .i64 P2) := by subst hW; go_simp
      have e2 : W0.frozen? ⟨w1.heap.size, 0, none⟩ = false := by subst hW; go_simp
      have e3 : W0.frozen? ⟨w1.heap.size, 1, none⟩ = false := by subst hW; go_simp
      have hx0 := Lib.hid (show Below w.heap.size w W0 by rw [← hW]; exact hx1.out.alloc hx1.out.size _)
      have l3' : w.heap.size < W0.heap.size := World.block_lt_of_cell? _ _ c1
      clear hW a1 r0 r1 r2 r3 hx1
      generalize w1.heap.size = q at *
      clear w1
      refine wp_region_boxes W0 (by kernel_rfl) (by kernel_rfl) (Below.refl _ _) ?_
      (refine textB_det ?_ rfl rfl ?_ (fun W hS => ?_) ?_; rotate_left; (focus go_simp); (focus (obtain ⟨hc, hf⟩ := bcell hS; go_simp; first | (refine ⟨?_, Below.refl _ _⟩; rfl) | rfl | exact Below.refl _ _)); (try go_simp))
      (refine textB_det ?_ rfl rfl ?_ (fun W hS => ?_) ?_; rotate_left; (focus go_simp); (focus (obtain ⟨hc, hf⟩ := bcell hS; go_simp; first | (refine ⟨?_, Below.refl _ _⟩; rfl) | rfl | exact Below.refl _ _)); (try go_simp))
      (refine textB_det ?_ rfl rfl ?_ (fun W hS => ?_) ?_; rotate_left; (focus go_simp); (focus (obtain ⟨hc, hf⟩ := bcell hS; go_simp; first | (refine ⟨?_, Below.refl _ _⟩; rfl) | rfl | exact Below.refl _ _)); (try go_simp))
      (refine textB_det ?_ rfl rfl ?_ (fun W hS => ?_) ?_; rotate_left; (focus go_simp); (focus (obtain ⟨hc, hf⟩ := bcell hS; go_simp; refine (clamp_any _ _).mono ?_; rintro e w1 ⟨rfl, rfl⟩; refine ⟨?_, Below.refl _ _⟩; rfl)); (try go_simp))
      (refine textB_det ?_ rfl rfl ?_ (fun W hS => ?_) ?_; rotate_left; (focus go_simp); (focus (obtain ⟨hc, hf⟩ := bcell hS; go_simp; first | (refine ⟨?_, Below.refl _ _⟩; rfl) | rfl | exact Below.refl _ _)); (try go_simp))
      (refine textB_det ?_ rfl rfl ?_ (fun W hS => ?_) ?_; rotate_left; (focus go_simp); (focus (obtain ⟨hc, hf⟩ := bcell hS; go_simp; first | (refine ⟨?_, Below.refl _ _⟩; rfl) | rfl | exact Below.refl _ _)); (try go_simp))
      intro blk w2 hb2 hn1 hn2
      clear hn1 hn2
      simp only [List.map_nil, putAll]
      clear blk
      obtain ⟨hc, hf⟩ := bcell hb2
      have l0 : w.heap.size + 1 < W0.heap.size := by omega
      replace d0 := (hc _ 0 l0).trans d0
      replace d1 := (hc _ 1 l0).trans d1
      replace d2 := (hf _ 0 l0).trans d2
      replace d3 := (hf _ 1 l0).trans d3
      replace e0 := (hc _ 0 l2).trans e0
      replace e1 := (hc _ 1 l2).trans e1
      replace e2 := (hf _ 0 l2).trans e2
      replace e3 := (hf _ 1 l2).trans e3
      have hx2 := Lib.hid (hx0.out.trans (hb2.mono hx0.out.size))
      have m1 : w.heap.size + 1 < w2.heap.size := Nat.lt_of_lt_of_le l0 hb2.size
      have m2 : q < w2.heap.size := Nat.lt_of_lt_of_le l2 hb2.size
      clear hc hf c1 l0 l3' l2 hx0 hb2
      clear W0
      go_wp2_with fail
      refine wp_region_grow_tail 7 (Below w2.heap.size w2) (by kernel_rfl) (by kernel_rfl) (Below.refl _ _).drew ?_
      simp only [List.take_succ_cons, List.take_zero, List.drop_succ_cons, List.drop_zero]
      (refine textS_run ?_ ?_ (fun W hS => ?_) ?_; rotate_left; (focus go_simp); (focus (obtain ⟨hc, hf⟩ := bcell hS; go_simp; first | rfl | exact ⟨rfl, hS⟩ | exact hS)); (try go_simp))
      (refine textS_run ?_ ?_ (fun W hS => ?_) ?_; rotate_left; (focus go_simp); (focus (obtain ⟨hc, hf⟩ := bcell hS; go_simp; first | rfl | exact ⟨rfl, hS⟩ | exact hS)); (try go_simp))
      (refine textS_run ?_ ?_ (fun W hS => ?_) ?_; rotate_left; (focus go_simp); (focus (obtain ⟨hc, hf⟩ := bcell hS; go_simp; first | rfl | exact ⟨rfl, hS⟩ | exact hS)); (try go_simp))
      (refine textS_run ?_ ?_ (fun W hS => ?_) ?_; rotate_left; (focus go_simp); (focus (obtain ⟨hc, hf⟩ := bcell hS; go_simp; refine (counts_below _ _).mono ?_; rintro e w1 ⟨rfl, hb⟩; refine ⟨?_, hS.trans (hb.mono hS.size)⟩; rfl)); (try go_simp))
      (refine textS_run ?_ ?_ (fun W hS => ?_) ?_; rotate_left; (focus go_simp); (focus (obtain ⟨hc, hf⟩ := bcell hS; go_simp; first | rfl | exact ⟨rfl, hS⟩ | exact hS)); (try go_simp))
      (refine textS_run ?_ ?_ (fun W hS => ?_) ?_; rotate_left; (focus go_simp); (focus (obtain ⟨hc, hf⟩ := bcell hS; go_simp; refine (counts_below _ _).mono ?_; rintro e w1 ⟨rfl, hb⟩; refine ⟨?_, hS.trans (hb.mono hS.size)⟩; rfl)); (try go_simp))
      (refine textS_run ?_ ?_ (fun W hS => ?_) ?_; rotate_left; (focus go_simp); (focus (obtain ⟨hc, hf⟩ := bcell hS; go_simp; first | rfl | exact ⟨rfl, hS⟩ | exact hS)); (try go_simp))
      refine textS_nil ?_
      intro w5 hb5
      obtain ⟨hc, hf⟩ := bcell hb5
      replace d0 := (hc _ 0 m1).trans d0
      replace d1 := (hc _ 1 m1).trans d1
      replace d2 := (hf _ 0 m1).trans d2
      replace d3 := (hf _ 1 m1).trans d3
      replace e0 := (hc _ 0 m2).trans e0
      replace e1 := (hc _ 1 m2).trans e1
      replace e2 := (hf _ 0 m2).trans e2
      replace e3 := (hf _ 1 m2).trans e3
      have hx5 := Lib.hid (hx2.out.trans (hb5.mono hx2.out.size))
      replace m1 : w.heap.size + 1 < w5.heap.size := Nat.lt_of_lt_of_le m1 hb5.size
      replace m2 : q < w5.heap.size := Nat.lt_of_lt_of_le m2 hb5.size
      clear hc hf hx2 hb5
      clear w2
      go_wp2
      exact bodyPost_ret (v := .agg #[.int .i64 (cntI (cntI x)), .int .i64 (P2)]) (by simp only [results, Tryz.results53]; go_simp) rfl ⟨rfl, by first | exact hx5.out | (refine Below.setCell (Below.setCell (Below.setCell ?_ ?_ _) ?_ _) ?_ _ <;> first | exact hx5.out | (show w.heap.size ≤ q; omega) | (show w.heap.size ≤ w.heap.size + 1; omega))⟩
    · clear hz
      go_enter Tryz.func53, Tryz.ntmps53
      go_wp2_with (first | (go_at_call 45; refine (kA.out _).mono ?_; rintro e w1 ⟨rfl, hb1⟩))
      obtain ⟨hc, hf⟩ := bcell hb1
      have hx1 := Lib.hid (show Below w.heap.size w w1 from Below.trans (by exact (by repeat (first | exact Below.refl _ _ | assumption | refine below_drewN ?_ _ | refine Below.drew ?_ | refine below_alloc ?_ _ | refine Below.alloc ?_ (by first | omega | (simp; done) | (simp; omega)) _ | refine Below.setCell ?_ (Below.size (by assumption)) _ | refine Below.setCell ?_ (by first | omega | (simp; done) | (simp; omega)) _ | (refine Below.trans ?_ (Below.mono (by assumption) (by first | omega | (simp; done) | (simp; omega)))) | refine below_next ?_ (by assumption)))) (hb1.mono (by simp; omega)))
      have l1 : w.heap.size + 1 < w1.heap.size := by have := hb1.size; simp at this; omega
      have l1' : w.heap.size < w1.heap.size := by omega
      have a1 : w1.cell? ⟨w.heap.size, 1, none⟩ = some (.int .i64 s) := (hc _ 1 (by simp; omega)).trans (by go_simp)
      have r0 : w1.cell? ⟨w.heap.size + 1, 0, none⟩ = some (.int .i64 0) := (hc _ 0 (by simp)).trans (by go_simp)
      have r1 : w1.cell? ⟨w.heap.size + 1, 1, none⟩ = some (.int .i64 0) := (hc _ 1 (by simp)).trans (by go_simp)
      have r2 : w1.frozen? ⟨w.heap.size + 1, 0, none⟩ = false := (hf _ 0 (by simp)).trans (by go_simp)
      have r3 : w1.frozen? ⟨w.heap.size + 1, 1, none⟩ = false := (hf _ 1 (by simp)).trans (by go_simp)
      clear hc hf hb1
      generalize hW : w1.alloc (.cells #[.int .i64 P1, .int .i64 P2] 44) = W0
      have l2 : w1.heap.size < W0.heap.size := by rw [← hW]; simp
      have c1 : W0.cell? ⟨w.heap.size, 1, none⟩ = some (.int .i64 s) := by subst hW; go_simp
      have d0 : W0.cell? ⟨w.heap.size + 1, 0, none⟩ = some (.int .i64 0) := by subst hW; go_simp
      have d1 : W0.cell? ⟨w.heap.size + 1, 1, none⟩ = some (.int .i64 0) := by subst hW; go_simp
      have d2 : W0.frozen? ⟨w.heap.size + 1, 0, none⟩ = false := by subst hW; go_simp
      have d3 : W0.frozen? ⟨w.heap.size + 1, 1, none⟩ = false := by subst hW; go_simp
      have e0 : W0.cell? ⟨w1.heap.size, 0, none⟩ = some (.int .i64 P1) := by subst hW; go_simp
      have e1 : W0.cell? ⟨w1.heap.size, 1, none⟩ = some (.int .i64 P2) := by subst hW; go_simp
      have e2 : W0.frozen? ⟨w1.heap.size, 0, none⟩ = false := by subst hW; go_simp
      have e3 : W0.frozen? ⟨w1.heap.size, 1, none⟩ = false := by subst hW; go_simp
      have hx0 := Lib.hid (show Below w.heap.size w W0 by rw [← hW]; exact hx1.out.alloc hx1.out.size _)
      have l3' : w.heap.size < W0.heap.size := World.block_lt_of_cell? _ _ c1
      clear hW a1 r0 r1 r2 r3 hx1
      generalize w1.heap.size = q at *
      clear w1
      refine wp_region_boxes W0 (by kernel_rfl) (by kernel_rfl) (Below.refl _ _) ?_
      (refine textB_det ?_ rfl rfl ?_ (fun W hS => ?_) ?_; rotate_left; (focus go_simp); (focus (obtain ⟨hc, hf⟩ := bcell hS; go_simp; first | (refine ⟨?_, Below.refl _ _⟩; rfl) | rfl | exact Below.refl _ _)); (try go_simp))
      (refine textB_det ?_ rfl rfl ?_ (fun W hS => ?_) ?_; rotate_left; (focus go_simp); (focus (obtain ⟨hc, hf⟩ := bcell hS; go_simp; first | (refine ⟨?_, Below.refl _ _⟩; rfl) | rfl | exact Below.refl _ _)); (try go_simp))
      (refine textB_det ?_ rfl rfl ?_ (fun W hS => ?_) ?_; rotate_left; (focus go_simp); (focus (obtain ⟨hc, hf⟩ := bcell hS; go_simp; first | (refine ⟨?_, Below.refl _ _⟩; rfl) | rfl | exact Below.refl _ _)); (try go_simp))
      (refine textB_det ?_ rfl rfl ?_ (fun W hS => ?_) ?_; rotate_left; (focus go_simp); (focus (obtain ⟨hc, hf⟩ := bcell hS; go_simp; refine (clamp_any _ _).mono ?_; rintro e w1 ⟨rfl, rfl⟩; refine ⟨?_, Below.refl _ _⟩; rfl)); (try go_simp))
      (refine textB_det ?_ rfl rfl ?_ (fun W hS => ?_) ?_; rotate_left; (focus go_simp); (focus (obtain ⟨hc, hf⟩ := bcell hS; go_simp; first | (refine ⟨?_, Below.refl _ _⟩; rfl) | rfl | exact Below.refl _ _)); (try go_simp))
      (refine textB_det ?_ rfl rfl ?_ (fun W hS => ?_) ?_; rotate_left; (focus go_simp); (focus (obtain ⟨hc, hf⟩ := bcell hS; go_simp; first | (refine ⟨?_, Below.refl _ _⟩; rfl) | rfl | exact Below.refl _ _)); (try go_simp))
      intro blk w2 hb2 hn1 hn2
      clear hn1 hn2
      simp only [List.map_nil, putAll]
      clear blk
      obtain ⟨hc, hf⟩ := bcell hb2
      have l0 : w.heap.size + 1 < W0.heap.size := by omega
      replace d0 := (hc _ 0 l0).trans d0
      replace d1 := (hc _ 1 l0).trans d1
      replace d2 := (hf _ 0 l0).trans d2
      replace d3 := (hf _ 1 l0).trans d3
      replace e0 := (hc _ 0 l2).trans e0
      replace e1 := (hc _ 1 l2).trans e1
      replace e2 := (hf _ 0 l2).trans e2
      replace e3 := (hf _ 1 l2).trans e3
      have hx2 := Lib.hid (hx0.out.trans (hb2.mono hx0.out.size))
      have m1 : w.heap.size + 1 < w2.heap.size := Nat.lt_of_lt_of_le l0 hb2.size
      have m2 : q < w2.heap.size := Nat.lt_of_lt_of_le l2 hb2.size
      clear hc hf c1 l0 l3' l2 hx0 hb2
      clear W0
      go_wp2_with fail
      refine wp_region_grow_tail 7 (Below w2.heap.size w2) (by kernel_rfl) (by kernel_rfl) (Below.refl _ _).drew ?_
      simp only [List.take_succ_cons, List.take_zero, List.drop_succ_cons, List.drop_zero]
      (refine textS_run ?_ ?_ (fun W hS => ?_) ?_; rotate_left; (focus go_simp); (focus (obtain ⟨hc, hf⟩ := bcell hS; go_simp; first | rfl | exact ⟨rfl, hS⟩ | exact hS)); (try go_simp))
      (refine textS_run ?_ ?_ (fun W hS => ?_) ?_; rotate_left; (focus go_simp); (focus (obtain ⟨hc, hf⟩ := bcell hS; go_simp; first | rfl | exact ⟨rfl, hS⟩ | exact hS)); (try go_simp))
      (refine textS_run ?_ ?_ (fun W hS => ?_) ?_; rotate_left; (focus go_simp); (focus (obtain ⟨hc, hf⟩ := bcell hS; go_simp; first | rfl | exact ⟨rfl, hS⟩ | exact hS)); (try go_simp))
      (refine textS_run ?_ ?_ (fun W hS => ?_) ?_; rotate_left; (focus go_simp); (focus (obtain ⟨hc, hf⟩ := bcell hS; go_simp; refine (counts_below _ _).mono ?_; rintro e w1 ⟨rfl, hb⟩; refine ⟨?_, hS.trans (hb.mono hS.size)⟩; rfl)); (try go_simp))
      (refine textS_run ?_ ?_ (fun W hS => ?_) ?_; rotate_left; (focus go_simp); (focus (obtain ⟨hc, hf⟩ := bcell hS; go_simp; first | rfl | exact ⟨rfl, hS⟩ | exact hS)); (try go_simp))
      (refine textS_run ?_ ?_ (fun W hS => ?_) ?_; rotate_left; (focus go_simp); (focus (obtain ⟨hc, hf⟩ := bcell hS; go_simp; refine (counts_below _ _).mono ?_; rintro e w1 ⟨rfl, hb⟩; refine ⟨?_, hS.trans (hb.mono hS.size)⟩; rfl)); (try go_simp))
      (refine textS_run ?_ ?_ (fun W hS => ?_) ?_; rotate_left; (focus go_simp); (focus (obtain ⟨hc, hf⟩ := bcell hS; go_simp; first | rfl | exact ⟨rfl, hS⟩ | exact hS)); (try go_simp))
      refine textS_nil ?_
      intro w5 hb5
      obtain ⟨hc, hf⟩ := bcell hb5
      replace d0 := (hc _ 0 m1).trans d0
      replace d1 := (hc _ 1 m1).trans d1
      replace d2 := (hf _ 0 m1).trans d2
      replace d3 := (hf _ 1 m1).trans d3
      replace e0 := (hc _ 0 m2).trans e0
      replace e1 := (hc _ 1 m2).trans e1
      replace e2 := (hf _ 0 m2).trans e2
      replace e3 := (hf _ 1 m2).trans e3
      have hx5 := Lib.hid (hx2.out.trans (hb5.mono hx2.out.size))
      replace m1 : w.heap.size + 1 < w5.heap.size := Nat.lt_of_lt_of_le m1 hb5.size
      replace m2 : q < w5.heap.size := Nat.lt_of_lt_of_le m2 hb5.size
      clear hc hf hx2 hb5
      clear w2
      go_wp2
      exact bodyPost_ret (v := .agg #[.int .i64 (cntI (P1 + cntI x)), .int .i64 (P2)]) (by simp only [results, Tryz.results53]; go_simp) rfl ⟨rfl, by first | exact hx5.out | (refine Below.setCell (Below.setCell (Below.setCell ?_ ?_ _) ?_ _) ?_ _ <;> first | exact hx5.out | (show w.heap.size ≤ q; omega) | (show w.heap.size ≤ w.heap.size + 1; omega))⟩
end Go.Proofs.YthflogeaielhlaaGreatDoor
namespace Go.Proofs.YthflogeaielhlaaGreatDoor
set_option linter.unusedVariables false
open Go.ChangeShapes Go.WideShapes Go.ChangeAt Go.RowKit
attribute [local go_sem ↓] Go.wp_at_zero Go.wp_at_succ comesTo_value_eq comesTo_skip_eq comesTo_enter_eq

/-- the share at work, and the answer's place -/
structure AtBox (w0 : World) (g : Nat) (x0 x1 : Int) (wr : World) : Prop where
  c0 : wr.cell? ⟨g, 0, none⟩ = some (.int .i64 x0)
  c1 : wr.cell? ⟨g, 1, none⟩ = some (.int .i64 x1)
  f0 : wr.frozen? ⟨g, 0, none⟩ = false
  f1 : wr.frozen? ⟨g, 1, none⟩ = false
  d0 : wr.cell? ⟨g + 1, 0, none⟩ = some (.int .i64 0)
  d1 : wr.cell? ⟨g + 1, 1, none⟩ = some (.int .i64 0)
  e0 : wr.frozen? ⟨g + 1, 0, none⟩ = false
  e1 : wr.frozen? ⟨g + 1, 1, none⟩ = false
  bel : Below w0.heap.size w0 wr
theorem AtBox.below {w0 wr w1 : World} {g : Nat} {x0 x1 : Int} (h : AtBox w0 g x0 x1 wr) (hb : Below wr.heap.size wr w1) : AtBox w0 g x0 x1 w1 := by
  have l0 := World.block_lt_of_cell? _ _ h.c0
  have l1 := World.block_lt_of_cell? _ _ h.d0
  obtain ⟨hc, hf⟩ := bcell hb
  exact ⟨(hc _ 0 l0).trans h.c0, (hc _ 1 l0).trans h.c1, (hf _ 0 l0).trans h.f0, (hf _ 1 l0).trans h.f1, (hc _ 0 l1).trans h.d0, (hc _ 1 l1).trans h.d1, (hf _ 0 l1).trans h.e0, (hf _ 1 l1).trans h.e1, below_next h.bel hb⟩
theorem AtBox.store {w0 wr : World} {x0 x1 : Int} (h : AtBox w0 w0.heap.size x0 x1 wr) (y0 y1 : Int) : AtBox w0 w0.heap.size y0 y1 ((wr.setCell ⟨w0.heap.size, 0, none⟩ (.int .i64 y0)).setCell ⟨w0.heap.size, 1, none⟩ (.int .i64 y1)) := by
  obtain ⟨c0, c1, f0, f1, d0, d1, e0, e1, hx⟩ := h
  exact ⟨by go_simp, by go_simp, by go_simp, by go_simp, by go_simp, by go_simp, by go_simp, by go_simp, (hx.setCell (Nat.le_refl _) _).setCell (Nat.le_refl _) _⟩
theorem AtBox.store1 {w0 wr : World} {x0 x1 : Int} (h : AtBox w0 w0.heap.size x0 x1 wr) (y1 : Int) : AtBox w0 w0.heap.size x0 y1 (wr.setCell ⟨w0.heap.size, 1, none⟩ (.int .i64 y1)) := by
  obtain ⟨c0, c1, f0, f1, d0, d1, e0, e1, hx⟩ := h
  exact ⟨by go_simp, by go_simp, by go_simp, by go_simp, by go_simp, by go_simp, by go_simp, by go_simp, hx.setCell (Nat.le_refl _) _⟩
theorem AtBox.drewN {w0 wr : World} {g : Nat} {x0 x1 : Int} (h : AtBox w0 g x0 x1 wr) (n : Nat) : AtBox w0 g x0 x1 (wr.drewN n) := h.below (below_drewK (Below.refl _ _) n)
/-- plain: so many half-lives, one by one -/
theorem half_step (U : Int) (j : Nat) (h0 : 0 ≤ U) : U / 2 ^ j / 2 = U / 2 ^ (j + 1) := by
  rw [Int.ediv_ediv_of_nonneg (by have := pow_pos64 j; omega), Int.pow_succ]
theorem kI_more {S N H : Int} (H0 : 1 ≤ H) (j : Nat) (hj : (j : Int) ≤ kI S N H) (h0 : 0 ≤ kI S N H) : (H ≤ N - (S + j * H)) ↔ (j : Int) + 1 ≤ kI S N H := by
  unfold kI at *
  by_cases h : N ≤ S
  · simp only [if_pos h] at *
    have : j = 0 := by omega
    subst this
    simp
    omega
  · simp only [if_neg h] at *
    rw [Int.le_ediv_iff_mul_le (by omega), Int.add_mul]
    omega

end Go.Proofs.YthflogeaielhlaaGreatDoor
namespace Go.Proofs.YthflogeaielhlaaGreatDoor
set_option linter.unusedVariables false
open Go.ChangeShapes Go.WideShapes Go.ChangeAt Go.RowKit

theorem info_share : (Tryz.prog.info? 44).map (fun i => (i.zero, i.size, i.bytes)) = some (some (.agg #[.int .i64 0, .int .i64 0]), 2, 16) := by kernel_rfl
/-- shares as cells -/
def flatH : List (Int × Int) → List Value
  | [] => []
  | p :: r => .int .i64 p.1 :: .int .i64 p.2 :: flatH r
theorem flatH_length : ∀ l, (flatH l).length = l.length * 2
  | [] => rfl
  | p :: r => by simp [flatH, flatH_length r]; omega
theorem flatH_append : ∀ l m, flatH (l ++ m) = flatH l ++ flatH m
  | [], _ => rfl
  | p :: r, m => by simp [flatH, flatH_append r m]
theorem flatH_get0 : ∀ (l : List (Int × Int)) (k : Nat), k < l.length → (flatH l)[k * 2]? = some (.int .i64 (l.getD k (0, 0)).1)
  | p :: r, 0, _ => by simp [flatH]
  | p :: r, k + 1, h => by
    have := flatH_get0 r k (by simpa using h)
    rw [show (k + 1) * 2 = k * 2 + 1 + 1 by omega]
    simpa [flatH] using this
theorem flatH_get1 : ∀ (l : List (Int × Int)) (k : Nat), k < l.length → (flatH l)[k * 2 + 1]? = some (.int .i64 (l.getD k (0, 0)).2)
  | p :: r, 0, _ => by simp [flatH]
  | p :: r, k + 1, h => by
    have := flatH_get1 r k (by simpa using h)
    rw [show (k + 1) * 2 + 1 = k * 2 + 1 + 1 + 1 by omega]
    simpa [flatH] using this
/-- a row of shares of the call's own, from block B on -/
def OwnH (w : World) (B : Nat) (v : Value) (l : List (Int × Int)) : Prop := w.ownsRow B 44 2 v l.length (flatH l)
theorem OwnH.below {w w' : World} {B : Nat} {v : Value} {l : List (Int × Int)} (h : OwnH w B v l) (hb : Below w.heap.size w w') : OwnH w' B v l := by
  refine ⟨h.1, ?_⟩
  rcases h.2 with hn | ⟨g, cap, cur, hv, hB, hg, rest⟩
  · exact .inl hn
  · refine .inr ⟨g, cap, cur, hv, hB, ?_, rest⟩
    have hlt : g < w.heap.size := by
      rcases Nat.lt_or_ge g w.heap.size with h | h
      · exact h
      · rw [Array.getElem?_eq_none h] at hg; cases hg
    rw [hb.block g hlt]; exact hg
theorem OwnH.nil {w : World} {B : Nat} : OwnH w B (.slice none 0 0) [] := ⟨rfl, .inl ⟨rfl, rfl⟩⟩

section
variable {ops : Array Oper} {rest : List Oper} {o : Oper} {a : Act} {w : World} {Q : Exit → Act → World → Prop}
/-- APPEND of one share -/
theorem wpList_append_share (hgd : o.guard = none) (s x : Operand)
    (ho : o.op = .call { callee := .builtin .append, args := #[s, x], argTypes := #[93, 93] })
    (B : Nat) (v : Value) (l : List (Int × Int)) (hs : a.eval s = v) (hown : OwnH w B v l) (g c : Nat) (p : Int × Int) (hx : a.eval x = .slice (some ⟨g, 0, none⟩) 1 c)
    (c0 : w.cell? ⟨g, 0, none⟩ = some (.int .i64 p.1)) (c1 : w.cell? ⟨g, 1, none⟩ = some (.int .i64 p.2)) (h63 : l.length + 1 ≤ 1099511627776) (hB : B ≤ w.heap.size)
    (h' : ∀ (ad : Option Addr) (n c : Nat) (w' : World), OwnH w' B (.slice ad n c) (l ++ [p]) → Below B w w' → wpList Tryz.prog ops Q rest (a.put o.dst (.slice ad n c)) w') : wpList Tryz.prog ops Q (o :: rest) a w := by
  have h : ∀ v' w', OwnH w' B v' (l ++ [p]) → Below B w w' → wpList Tryz.prog ops Q rest (a.put o.dst v') w' := fun v' w' h1 h2 => by
    rcases h1.2 with ⟨e, _⟩ | ⟨g, cap, cur, e, _⟩
    · subst e; exact h' none 0 0 w' h1 h2
    · subst e; exact h' _ _ cap w' h1 h2
  obtain ⟨i0, hi, hz0, hz1, hz2⟩ := info_parts info_share
  have hblk : ∀ k, v.ownBlock = some k → B ≤ k := fun k hk => by
    rcases hown.2 with ⟨rfl, _⟩ | ⟨g, cap, cur, rfl, hg, _⟩
    · cases hk
    · simp only [Value.ownBlock, Option.some.injEq] at hk; omega
  refine wpList_append_own _ hgd s x 93 ho B 44 i0 (.agg #[.int .i64 0, .int .i64 0]) 2 16 Tryz.underlying93 hi hz0 hz1 hz2 rfl (by decide) v l.length (flatH l) hs hown
      ⟨g, 0, none⟩ 1 c (flatH [p]) hx rfl (fun j u hj => ?_) (fun u hu => ?_) (by unfold maxLen; omega) (by omega) hB (fun v' w' h1 h2 _ => ?_)
  · match j, hj with
    | 0, hj => simp [flatH] at hj; subst hj; simpa [Addr.add] using c0
    | 1, hj => simp [flatH] at hj; subst hj; simpa [Addr.add] using c1
    | j + 2, hj => simp [flatH] at hj
  · simp [flatH] at hu
    rcases hu with rfl | rfl <;> rfl
  · exact h v' w' (by unfold OwnH; rw [List.length_append, flatH_append]; exact h1) (Below.grown (Below.refl _ _) h2 hB hblk)
end

theorem OwnH.mono {w : World} {B B' : Nat} {v : Value} {l : List (Int × Int)} (h : OwnH w B v l) (hb : B' ≤ B) : OwnH w B' v l := by
  refine ⟨h.1, ?_⟩
  rcases h.2 with hn | ⟨g, cap, cur, hv, hB, rest⟩
  · exact .inl hn
  · exact .inr ⟨g, cap, cur, hv, by omega, rest⟩
/-- a row of shares in memory -/
structure ShRow (w : World) (b off : Nat) (l : List (Int × Int)) : Prop where
  c0 : ∀ k, k < l.length → w.cell? ⟨b, off + k * 2, none⟩ = some (.int .i64 (l.getD k (0, 0)).1)
  c1 : ∀ k, k < l.length → w.cell? ⟨b, off + k * 2 + 1, none⟩ = some (.int .i64 (l.getD k (0, 0)).2)
theorem ShRow.below {w w' : World} {b off : Nat} {l : List (Int × Int)} (h : ShRow w b off l) (hb : Below w.heap.size w w') : ShRow w' b off l :=
  ⟨fun k hk => (hb.cell (World.block_lt_of_cell? w _ (h.c0 k hk))).trans (h.c0 k hk), fun k hk => (hb.cell (World.block_lt_of_cell? w _ (h.c1 k hk))).trans (h.c1 k hk)⟩
theorem OwnH.row {w : World} {B g n c : Nat} {l : List (Int × Int)} (h : OwnH w B (.slice (some ⟨g, 0, none⟩) n c) l) : ShRow w g 0 l ∧ ∀ j, w.frozen? ⟨g, j, none⟩ = false := by
  have hn : n = l.length := by
    rcases h.2 with ⟨e, _⟩ | ⟨g', cap, cur, e, _⟩ <;> cases e <;> rfl
  subst hn
  refine ⟨⟨fun k hk => ?_, fun k hk => ?_⟩, fun j => h.frozenAt j⟩
  · rw [Nat.zero_add, h.cellAt (k * 2) (by omega), flatH_get0 l k hk]
  · rw [Nat.zero_add, h.cellAt (k * 2 + 1) (by omega), flatH_get1 l k hk]
theorem OwnH.form {w : World} {B : Nat} {v : Value} {l : List (Int × Int)} (h : OwnH w B v l) : ∃ ad c, v = .slice ad l.length c ∧ (0 < l.length → ∃ g, ad = some ⟨g, 0, none⟩ ∧ B ≤ g ∧ g < w.heap.size) := by
  rcases h.2 with ⟨e, h0⟩ | ⟨g, cap, cur, e, hB, hg, _⟩
  · exact ⟨none, 0, by rw [e, h0], fun h => by omega⟩
  · exact ⟨_, cap, e, fun _ => ⟨g, rfl, hB, (Array.getElem?_eq_some_iff.1 hg).1⟩⟩

theorem OwnH.under {w : World} {B q : Nat} {v : Value} {l : List (Int × Int)} (h : OwnH w B v l) (hq : q < B) (u : Value) : OwnH (w.setCell ⟨q, 0, none⟩ u) B v l := ownsRow_setCell_below h hq u
end Go.Proofs.YthflogeaielhlaaGreatDoor
namespace Go.Proofs.YthflogeaielhlaaGreatDoor
set_option linter.unusedVariables false
open Go.ChangeShapes Go.WideShapes Go.ChangeAt Go.RowKit
attribute [local go_sem ↓] Go.wp_at_zero Go.wp_at_succ comesTo_value_eq comesTo_skip_eq comesTo_enter_eq

/-- a slice of shares that came in, below block B -/
def SharesAt (w : World) (a : Option Addr) (B : Nat) (zs : List (Int × Int)) : Prop :=
  zs.length ≤ 1099511627776 ∧ (0 < zs.length → ∃ b off, a = some ⟨b, off, none⟩ ∧ b < B ∧ ShRow w b off zs)
theorem SharesAt.below {w w' : World} {a : Option Addr} {B q : Nat} {zs : List (Int × Int)} (h : SharesAt w a B zs) (hb : Below q w w') (hq : B ≤ q) : SharesAt w' a B zs :=
  ⟨h.1, fun h0 => by
    obtain ⟨b, off, h1, h2, h3⟩ := h.2 h0
    exact ⟨b, off, h1, h2, fun k hk => (hb.cell (p := ⟨b, off + k * 2, none⟩) (by show b < q; omega)).trans (h3.c0 k hk), fun k hk => (hb.cell (p := ⟨b, off + k * 2 + 1, none⟩) (by show b < q; omega)).trans (h3.c1 k hk)⟩⟩
def totI (n h : Int) (l : List (Int × Int)) : Int := l.foldl (fun s x => cntI (s + (atI x.1 x.2 n h).1)) 0
theorem totI_succ (n h : Int) (l : List (Int × Int)) (k : Nat) (hk : k < l.length) : totI n h (l.take (k + 1)) = cntI (totI n h (l.take k) + (atI (l.getD k (0, 0)).1 (l.getD k (0, 0)).2 n h).1) := by
  rw [List.take_succ_eq_append_getElem hk]
  unfold totI
  rw [List.foldl_append]
  simp [List.getD, hk]
theorem totI_bd (n h : Int) (l : List (Int × Int)) (k : Nat) : 0 ≤ totI n h (l.take k) ∧ totI n h (l.take k) ≤ 1125899906842624 := by
  induction k with
  | zero => simp [totI]
  | succ k ih =>
    by_cases hk : k < l.length
    · rw [totI_succ n h l k hk]; exact cntI_bd _
    · rw [List.take_of_length_le (by omega)]; rw [List.take_of_length_le (by omega)] at ih; exact ih
set_option maxHeartbeats 1000000 in
theorem tot1_any (u s A : Int) (q : Nat) (u0 : 0 ≤ u) (u1 : u ≤ 1125899906842624) (A0 : 0 ≤ A) (A1 : A ≤ 1125899906842624) (w : World) (hc : w.cell? ⟨q, 0, none⟩ = some (.int .i64 A)) (hf : w.frozen? ⟨q, 0, none⟩ = false) :
    Calls Tryz.prog 58 #[.agg #[.int .i64 u, .int .i64 s], .pointer (some ⟨q, 0, none⟩)] w fun e w' => e = .returned (.tuple #[]) ∧ Below q w w' ∧ w'.cell? ⟨q, 0, none⟩ = some (.int .i64 (cntI (A + u))) ∧ w'.frozen? ⟨q, 0, none⟩ = false := by
  have hq := World.block_lt_of_cell? _ _ hc
  have hq2 : q < w.heap.size := hq
  go_enter Tryz.func58, Tryz.ntmps58
  go_wp2_with (go_at_call 59; refine (counts_any _ _).mono ?_; rintro e w' ⟨rfl, rfl⟩)
  go_end0
  refine ⟨rfl, ?_, by go_simp, by go_simp⟩
  exact ((Below.refl q w).setCell (Nat.le_refl _) _).alloc (by simp [World.setCell]; omega) _
set_option maxRecDepth 100000 in
set_option maxHeartbeats 4000000 in
theorem each_total (a : Option Addr) (cap : Nat) (zs : List (Int × Int)) (n h : Int) (q B : Nat) (hB : B ≤ q) (w : World) (hz : SharesAt w a B zs) (hc : w.cell? ⟨q, 0, none⟩ = some (.int .i64 0)) (hf : w.frozen? ⟨q, 0, none⟩ = false) :
    Calls Tryz.prog 57 #[.slice a zs.length cap, .int .i64 n, .int .i64 h, .func (.func 58) #[] #[.pointer (some ⟨q, 0, none⟩)]] w fun e w' => e = .returned (.tuple #[]) ∧ Below q w w' ∧ w'.cell? ⟨q, 0, none⟩ = some (.int .i64 (totI n h zs)) := by
  have hlen := hz.1
  have HZ := Lib.hid hz
  have h0 := Lib.hid (And.intro hc hf)
  clear hz hc hf
  go_enter Tryz.func57, Tryz.ntmps57
  go_wp2_with fail
  go_loopw [12] (fun i wr => ∃ k : Nat, k ≤ zs.length ∧ i = .int .i64 k ∧ wr.cell? ⟨q, 0, none⟩ = some (.int .i64 (totI n h (zs.take k))) ∧ wr.frozen? ⟨q, 0, none⟩ = false ∧ Below q w wr) (fun i _ => zs.length - (intOf i).toNat)
  case atStart => exact ⟨0, Nat.zero_le _, rfl, h0.out.1, h0.out.2, Below.refl _ _⟩
  case round =>
    obtain ⟨k, hk, rfl, hc, hf, hbel⟩ := hrel
    by_cases hlt : k < zs.length
    · have hz := HZ.out.below hbel hB
      obtain ⟨b, off, rfl, hbB, hrow⟩ := hz.2 (by omega)
      have hc0 := hrow.c0 k hlt
      have hc1 := hrow.c1 k hlt
      have hltI : (k : Int) < (zs.length : Int) := by omega
      have hlo : (0 : Int) ≤ (k : Int) := by omega
      have hs := Lib.hid (totI_succ n h zs k hlt)
      have hbd := totI_bd n h zs k
      have hA := (atI_bd (zs.getD k (0, 0)).1 (zs.getD k (0, 0)).2 n h).1
      have HBel := Lib.hid hbel
      have lq : q < wr.heap.size := World.block_lt_of_cell? _ _ hc
      clear hz hrow hbel hk
      generalize totI n h (zs.take k) = A at *
      generalize (zs.getD k (0, 0)).1 = u at *
      generalize (zs.getD k (0, 0)).2 = s at *
      have kA := Lib.hid (fun W => at_any u s n h W)
      generalize (atI u s n h).1 = P1 at *
      generalize (atI u s n h).2 = P2 at *
      go_wp2_with fail
      refine (kA.out _).mono ?_
      rintro e w2 ⟨rfl, hb2⟩
      obtain ⟨g1, g2⟩ := bcell hb2
      have hc2 : w2.cell? ⟨q, 0, none⟩ = some (.int .i64 A) := (g1 _ 0 (by simp; omega)).trans (by go_simp)
      have hf2 : w2.frozen? ⟨q, 0, none⟩ = false := (g2 _ 0 (by simp; omega)).trans (by go_simp)
      have HB2 := Lib.hid (show Below q w w2 from HBel.out.trans (((Below.refl q _).alloc (by omega) _).trans (hb2.mono (by simp; omega))))
      clear g1 g2 hc hf hb2 hc0 hc1
      go_wp2_with fail
      refine (tot1_any _ _ A q hA.1 hA.2 hbd.1 hbd.2 _ hc2 hf2).mono ?_
      rintro e w3 ⟨rfl, hb3, hc3, hf3⟩
      have HB3 := Lib.hid (HB2.out.trans hb3)
      clear hb3 hc2 hf2
      go_wp2_with fail
      go_roundw
      case rel => exact ⟨k + 1, by omega, by go_num, by rw [hs.out]; exact hc3, hf3, HB3.out⟩
      case measure => simp [intOf]; omega
    · have hkz := Lib.hid (show zs.take k = zs by rw [List.take_of_length_le (by omega)])
      go_wp2_with fail
      go_end0
      exact ⟨rfl, hbel, by rw [← hkz.out]; exact hc⟩
theorem fits_mem {w : World} {a : Option Addr} {zs : List (Int × Int)} (hl : zs.length ≤ 1099511627776) (h : 0 < zs.length → ∃ b off, a = some ⟨b, off, none⟩ ∧ ShRow w b off zs) : SharesAt w a w.heap.size zs :=
  ⟨hl, fun h0 => by obtain ⟨b, off, h1, h2⟩ := h h0; exact ⟨b, off, h1, World.block_lt_of_cell? _ _ (h2.c0 0 h0), h2⟩⟩
set_option maxHeartbeats 1000000 in
theorem total_any (a : Option Addr) (cap : Nat) (zs : List (Int × Int)) (n h : Int) (w : World) (hz : SharesAt w a w.heap.size zs) :
    Calls Tryz.prog 46 #[.slice a zs.length cap, .int .i64 n, .int .i64 h] w fun e w' => e = .returned (.int .i64 (totI n h zs)) ∧ Below w.heap.size w w' := by
  have HZ := Lib.hid hz
  clear hz
  go_enter Tryz.func46, Tryz.ntmps46
  go_wp2_with fail
  refine (each_total a cap zs n h w.heap.size w.heap.size (Nat.le_refl _) _ (HZ.out.below (q := w.heap.size) ((Below.refl _ _).alloc (Nat.le_refl _) _) (Nat.le_refl _)) (by go_simp) (by go_simp)).mono ?_
  rintro e w1 ⟨rfl, hb1, hc1⟩
  have HB := Lib.hid (show Below w.heap.size w w1 from ((Below.refl _ _).alloc (Nat.le_refl _) _).trans hb1)
  clear hb1
  go_wp2_with fail
  go_ret
  exact ⟨rfl, HB.out⟩
def decI (n h : Int) (l : List (Int × Int)) : List (Int × Int) := l.map fun x => atI x.1 x.2 n h
theorem decI_succ (n h : Int) (l : List (Int × Int)) (k : Nat) (hk : k < l.length) : decI n h (l.take (k + 1)) = decI n h (l.take k) ++ [atI (l.getD k (0, 0)).1 (l.getD k (0, 0)).2 n h] := by
  rw [List.take_succ_eq_append_getElem hk]
  unfold decI
  rw [List.map_append]
  simp [List.getD, hk]
theorem decI_len (n h : Int) (l : List (Int × Int)) : (decI n h l).length = l.length := by simp [decI]
end Go.Proofs.YthflogeaielhlaaGreatDoor
namespace Go.Proofs.YthflogeaielhlaaGreatDoor
set_option linter.unusedVariables false
open Go.ChangeShapes Go.WideShapes Go.ChangeAt Go.RowKit
attribute [local go_sem ↓] Go.wp_at_zero Go.wp_at_succ comesTo_value_eq comesTo_skip_eq comesTo_enter_eq

theorem at_still {u s n h : Int} (u0 : 0 ≤ u) (u1 : u ≤ 1125899906842624) (s0 : 0 ≤ s) (s1 : s ≤ 1099511627776) (hn : clampI n - s < halfI h) : atI u s n h = (u, s) := by
  have hk : kI s (clampI n) (halfI h) = 0 := by
    unfold kI
    split
    · rfl
    · exact Int.ediv_eq_zero_of_lt (by omega) hn
  unfold atI
  rw [cntI_id u0 u1, clampI_id s0 s1, hk, shI_zero]
  simp
theorem at_near (u s n h : Int) : clampI n - (atI u s n h).2 < halfI h := by
  have hb := halfI_bd h
  show clampI n - (clampI s + kI (clampI s) (clampI n) (halfI h) * halfI h) < halfI h
  unfold kI
  split
  · simp; omega
  · have h1 := Int.emod_lt_of_pos (clampI n - clampI s) (show 0 < halfI h by omega)
    have h2 := Int.emod_add_mul_ediv (clampI n - clampI s) (halfI h)
    have h3 := Int.mul_comm (halfI h) ((clampI n - clampI s) / halfI h)
    omega
theorem charge_bd (u s n h x : Int) : (0 ≤ (chargeI u s n h x).1 ∧ (chargeI u s n h x).1 ≤ 1125899906842624) ∧ (0 ≤ (chargeI u s n h x).2 ∧ (chargeI u s n h x).2 ≤ 1099511627776) ∧ clampI n - (chargeI u s n h x).2 < halfI h ∧ (0 ≤ x → (atI u s n h).1 ≤ (chargeI u s n h x).1) ∧ (1 ≤ x → 1 ≤ (chargeI u s n h x).1) := by
  have h1 := cntI_bd ((atI u s n h).1 + cntI x)
  have h2 := (atI_bd u s n h).2.1
  have h3 := clampI_bd n
  have h4 := at_near u s n h
  have h5 := halfI_bd h
  have h6 := (atI_bd u s n h).1
  have h7 : 0 ≤ x → (atI u s n h).1 ≤ cntI ((atI u s n h).1 + cntI x) := fun hx => by unfold cntI; split <;> (try split) <;> (try split) <;> omega
  have h8 : 1 ≤ x → 1 ≤ cntI ((atI u s n h).1 + cntI x) := fun hx => by unfold cntI; split <;> (try split) <;> (try split) <;> omega
  unfold chargeI
  simp only
  refine ⟨h1, ?_, ?_, h7, h8⟩
  · split <;> omega
  · split <;> omega
theorem charge_twice (u s n h x y : Int) (hx : 1 ≤ x) (hx1 : x ≤ 16777216) (hy : 0 ≤ y) (hy1 : y ≤ 16777216) : chargeI (chargeI u s n h x).1 (chargeI u s n h x).2 n h y = chargeI u s n h (x + y) := by
  have hb := charge_bd u s n h x
  have e := at_still hb.1.1 hb.1.2 hb.2.1.1 hb.2.1.2 hb.2.2.1
  have h1 := hb.2.2.2.2 hx
  have ha := (atI_bd u s n h).1
  have hne : ¬ ((chargeI u s n h x).1 = 0 ∧ (chargeI u s n h x).2 = clampI (chargeI u s n h x).2) := by omega
  rw [chargeI, e]
  simp only
  rw [if_neg hne]
  unfold chargeI
  simp only
  refine Prod.ext ?_ rfl
  show cntI (cntI ((atI u s n h).1 + cntI x) + cntI y) = cntI ((atI u s n h).1 + cntI (x + y))
  rw [cntI_id (show 0 ≤ x by omega) (by omega), cntI_id hy (by omega), cntI_id (show 0 ≤ x + y by omega) (by omega)]
  unfold cntI
  repeat' split
  all_goals omega

end Go.Proofs.YthflogeaielhlaaGreatDoor
