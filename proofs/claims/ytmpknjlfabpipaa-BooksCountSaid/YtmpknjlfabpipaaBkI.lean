/- What nobody's books tell; the law's own run (layer 14). No condition. -/
import Derived.Test.YtmpknjlfabpipaaBkH
namespace Go.Proofs.Ytmpknjlfabpipaa
set_option linter.unusedVariables false
open Go.ChangeShapes Go.WideShapes Go.ChangeAt Go.RowKit Bk
attribute [local go_sem ↓] Go.wp_at_zero Go.wp_at_succ comesTo_value_eq comesTo_skip_eq comesTo_enter_eq

theorem lines_no {w : World} {v : Value} (hv : NoBk w v) : Calls Try.prog 8 #[v] w fun e w' => e = .returned (.slice none 0 0) ∧ Below w.heap.size w w' := by
  have KE := Lib.hid (fun X (hX : Below w.heap.size w X) f => each_no (hv.below hX) f)
  obtain ⟨pv, rfl⟩ : ∃ p, v = .pointer p := by rcases hv with rfl | ⟨g, rfl, _⟩ <;> exact ⟨_, rfl⟩
  clear hv
  have HB0 := Lib.hid (below_alloc (Below.refl _ w) (.cells #[.slice none 0 0] 39))
  have HN0 := Lib.hid (World.alloc_heap_new w (.cells #[.slice none 0 0] 39))
  go_enter Try.func8, Try.ntmps8
  go_upto_region 2 with fail
  generalize w.alloc (.cells #[.slice none 0 0] 39) = W0 at *
  obtain ⟨q, hqq⟩ : ∃ q, q = w.heap.size := ⟨_, rfl⟩
  rw [← hqq] at HN0 ⊢
  clear hqq
  have c0 : W0.cell? ⟨q, 0, none⟩ = some (.slice none 0 0) := cell_of_block (o := 0) HN0.out rfl
  go_wp2_with fail
  refine (KE.out _ HB0.out _).mono ?_
  rintro e w1 ⟨rfl, hww⟩
  obtain rfl := hww
  go_wp2_with fail
  go_ret
  exact ⟨rfl, HB0.out⟩
theorem put_no {w : World} {v : Value} (h : NoBk w v) : Calls Try.prog 9 #[v] w fun e w' => e = .returned (.slice none 0 0) ∧ w' = w := by
  have KT := Lib.hid (there_no h)
  obtain ⟨p, rfl⟩ : ∃ p, v = .pointer p := by rcases h with rfl | ⟨g, rfl, _⟩ <;> exact ⟨_, rfl⟩
  clear h
  go_enter Try.func9, Try.ntmps9
  go_wp2_with fail
  refine KT.out.mono ?_
  rintro e w1 ⟨rfl, hw⟩
  obtain rfl := hw
  go_wp2_with fail
  go_ret
  exact ⟨rfl, rfl⟩
theorem clone_no {w : World} {v : Value} (h : NoBk w v) : Calls Try.prog 10 #[v] w fun e w' => e = .returned (.pointer none) ∧ w' = w := by
  have KT := Lib.hid (there_no h)
  obtain ⟨p, rfl⟩ : ∃ p, v = .pointer p := by rcases h with rfl | ⟨g, rfl, _⟩ <;> exact ⟨_, rfl⟩
  clear h
  go_enter Try.func10, Try.ntmps10
  go_wp2_with fail
  refine KT.out.mono ?_
  rintro e w1 ⟨rfl, hw⟩
  obtain rfl := hw
  go_wp2_with fail
  go_ret
  exact ⟨rfl, rfl⟩
theorem one_L : chargedB [] 10 2 0 3 5 = [[2, 0, 0, 0, 0, 0, 15, 15, 0]] := by kernel_rfl
theorem one_f2 : factI (atI (shrL (lineB [[2, 0, 0, 0, 0, 0, 15, 15, 0]] 2)).1 (shrL (lineB [[2, 0, 0, 0, 0, 0, 15, 15, 0]] 2)).2 0 10).1 (totI 0 10 ([[2, 0, 0, 0, 0, 0, 15, 15, 0]].map shrL)) = 0 := by kernel_rfl
theorem one_f1 : factI (atI (shrL (lineB [[2, 0, 0, 0, 0, 0, 15, 15, 0]] 1)).1 (shrL (lineB [[2, 0, 0, 0, 0, 0, 15, 15, 0]] 1)).2 0 10).1 (totI 0 10 ([[2, 0, 0, 0, 0, 0, 15, 15, 0]].map shrL)) = 1000 := by kernel_rfl
theorem BN.nil : BN [] := fun _ h => by cases h
theorem below_grown {B m : Nat} {w w1 w2 : World} (h : Below B w w1) (g : w1.grownBy w2 (some m)) (hB : B ≤ m) (hs : B ≤ w.heap.size) : Below B w w2 :=
  ⟨g.os.trans h.os, g.tape.trans h.tape, g.output.trans h.output, Nat.le_trans h.size g.size, fun k hk => (g.block k (Nat.lt_of_lt_of_le hk (Nat.le_trans hs h.size)) (by intro e; injection e with e; omega)).trans (h.block k hk)⟩
set_option maxRecDepth 100000 in
set_option maxHeartbeats 4000000 in
theorem bone (w : World) : Calls Try.prog 13 #[] w fun e w' => e = .returned (.bool true) ∧ Below w.heap.size w w' := by
  have KN := Lib.hid (bnew_any 10 (by decide) (by decide) w)
  have KC := Lib.hid (fun X b m (h : BkAt X b m 10 []) => (show Calls Try.prog 7 #[.pointer (some ⟨b, 0, none⟩), .int .i64 2, .int .i64 0, .int .i64 3, .int .i64 5] X fun e w' => e = .returned (.int .i64 0) ∧ BkAt w' b m 10 [[2, 0, 0, 0, 0, 0, 15, 15, 0]] ∧ X.grownBy w' (some m) from by
    have := charge_ok h BN.nil (u := 2) (by decide) (by decide) (c := 3) (by decide) (by decide) 0 5
    rw [one_L] at this
    exact this))
  have KL := Lib.hid (fun X b m (h : BkAt X b m 10 [[2, 0, 0, 0, 0, 0, 15, 15, 0]]) => (show Calls Try.prog 5 #[.pointer (some ⟨b, 0, none⟩), .int .i64 2] X fun e w' => e = .returned (.tuple #[.agg #[.int .i64 2, .int .i64 0, .int .i64 0, .int .i64 0, .int .i64 0, .int .i64 0, .int .i64 15, .int .i64 15, .int .i64 0], .bool true]) ∧ Below X.heap.size X w' from line_bk h (u := 2) (by decide) (by decide)))
  have KF2 := Lib.hid (fun X b m (h : BkAt X b m 10 [[2, 0, 0, 0, 0, 0, 15, 15, 0]]) => (show Calls Try.prog 12 #[.pointer (some ⟨b, 0, none⟩), .int .i64 2, .int .i64 0] X fun e w' => e = .returned (.int .i64 0) ∧ Below X.heap.size X w' from by
    have := factor_bk h (u := 2) (n := 0) (by decide) (by decide)
    rw [one_f2] at this
    exact this))
  have KF1 := Lib.hid (fun X b m (h : BkAt X b m 10 [[2, 0, 0, 0, 0, 0, 15, 15, 0]]) => (show Calls Try.prog 12 #[.pointer (some ⟨b, 0, none⟩), .int .i64 1, .int .i64 0] X fun e w' => e = .returned (.int .i64 1000) ∧ Below X.heap.size X w' from by
    have := factor_bk h (u := 1) (n := 0) (by decide) (by decide)
    rw [one_f1] at this
    exact this))
  go_enter Try.func13, Try.ntmps13
  go_wp2_with fail
  refine KN.out.mono ?_
  rintro e w1 ⟨rfl, h1, b1⟩
  have H1 := Lib.hid h1
  have B1 := Lib.hid b1
  clear h1 b1
  obtain ⟨b, hb⟩ : ∃ b, b = w.heap.size + 1 := ⟨_, rfl⟩
  obtain ⟨m, hm⟩ : ∃ m, m = w.heap.size := ⟨_, rfl⟩
  rw [← hb] at H1 ⊢
  rw [← hm] at H1
  have HM := Lib.hid hm
  clear hb hm KN
  go_wp2_with fail
  refine (KC.out _ _ _ H1.out).mono ?_
  rintro e w2 ⟨rfl, h2, g2⟩
  have H2 := Lib.hid h2
  have B2 := Lib.hid (below_grown B1.out g2 (by have := HM.out; omega) (Nat.le_refl _))
  clear h2 g2 KC H1 B1
  go_wp2_with fail
  refine (KL.out _ _ _ H2.out).mono ?_
  rintro e w3 ⟨rfl, b3⟩
  have H3 := Lib.hid (H2.out.below b3)
  have B3 := Lib.hid (below_next B2.out b3)
  clear b3 KL H2 B2
  go_upto_region 4 with fail
  have b4 := below_alloc (Below.refl _ w3) (.cells #[.int .i64 2, .int .i64 0, .int .i64 0, .int .i64 0, .int .i64 0, .int .i64 0, .int .i64 15, .int .i64 15, .int .i64 0] 33)
  have HN4 := World.alloc_heap_new w3 (.cells #[.int .i64 2, .int .i64 0, .int .i64 0, .int .i64 0, .int .i64 0, .int .i64 0, .int .i64 15, .int .i64 15, .int .i64 0] 33)
  have H4 := Lib.hid (H3.out.below b4)
  have B4 := Lib.hid (below_next B3.out b4)
  clear b4 H3 B3
  generalize w3.alloc (.cells #[.int .i64 2, .int .i64 0, .int .i64 0, .int .i64 0, .int .i64 0, .int .i64 0, .int .i64 15, .int .i64 15, .int .i64 0] 33) = W4 at *
  generalize w3.heap.size = p at *
  have c6 : W4.cell? ⟨p, 6, none⟩ = some (.int .i64 15) := cell_of_block (o := 6) HN4 rfl
  have c7 : W4.cell? ⟨p, 7, none⟩ = some (.int .i64 15) := cell_of_block (o := 7) HN4 rfl
  clear HN4
  go_wp2_with fail
  refine (KF2.out _ _ _ H4.out).mono ?_
  rintro e w5 ⟨rfl, b5⟩
  have H5 := Lib.hid (H4.out.below b5)
  have B5 := Lib.hid (below_next B4.out b5)
  clear b5 c6 c7 H4 B4 KF2
  go_wp2_with fail
  refine (KF1.out _ _ _ H5.out).mono ?_
  rintro e w6 ⟨rfl, b6⟩
  have B6 := Lib.hid (below_next B5.out b6)
  clear b6 H5 B5 KF1
  go_wp2_with fail
  go_ret
  exact ⟨rfl, B6.out⟩
end Go.Proofs.Ytmpknjlfabpipaa
