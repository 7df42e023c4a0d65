/- The walk of BooksNobody (layer 14). No condition. -/
import Derived.Test.YtmpknjlfabpipaaBkI
namespace Go.Proofs.Ytmpknjlfabpipaa
set_option linter.unusedVariables false
open Go.ChangeShapes Go.WideShapes Go.ChangeAt Go.RowKit Bk
attribute [local go_sem ↓] Go.wp_at_zero Go.wp_at_succ comesTo_value_eq comesTo_skip_eq comesTo_enter_eq

theorem neq_zeroL (W : World) : (Op.equalIn 10000 33 (.agg #[.int .i64 0, .int .i64 0, .int .i64 0, .int .i64 0, .int .i64 0, .int .i64 0, .int .i64 0, .int .i64 0, .int .i64 0]) (.agg #[.int .i64 0, .int .i64 0, .int .i64 0, .int .i64 0, .int .i64 0, .int .i64 0, .int .i64 0, .int .i64 0, .int .i64 0])).run Try.prog W = .ok true W := by kernel_rfl
set_option maxRecDepth 100000 in
set_option maxHeartbeats 3000000 in
theorem bnobody_walk (k u x n y : Int) (w : World) : Calls Try.prog 3 #[.agg #[.int .i64 k, .int .i64 u, .int .i64 x, .int .i64 n, .int .i64 y]] w fun e w' => e = .returned (.bool true) ∧ Below w.heap.size w w' := by
  have HB0 := Lib.hid (below_alloc (Below.refl _ w) (.cells #[.int .i64 k, .int .i64 u, .int .i64 x, .int .i64 n, .int .i64 y] 24))
  have HN0 := Lib.hid (World.alloc_heap_new w (.cells #[.int .i64 k, .int .i64 u, .int .i64 x, .int .i64 n, .int .i64 y] 24))
  have KL := Lib.hid (fun X v (h : NoBk X v) => (show Calls Try.prog 5 #[v, .int .i64 u] X fun e w' => e = .returned (.tuple #[.agg #[.int .i64 0, .int .i64 0, .int .i64 0, .int .i64 0, .int .i64 0, .int .i64 0, .int .i64 0, .int .i64 0, .int .i64 0], .bool false]) ∧ Below X.heap.size X w' from line_no h u))
  have qz := neq_zeroL
  go_enter Try.func3, Try.ntmps3
  go_upto_region 1 with fail
  generalize w.alloc (.cells #[.int .i64 k, .int .i64 u, .int .i64 x, .int .i64 n, .int .i64 y] 24) = W1 at *
  obtain ⟨A, hA⟩ : ∃ A, A = w.heap.size := ⟨_, rfl⟩
  have HAW := Lib.hid hA
  rw [← hA] at HN0 ⊢
  clear hA
  go_wp2_with fail
  go_loopw [3] (fun i wr => ∃ j : Nat, j ≤ 2 ∧ i = .int .i64 j ∧ Below W1.heap.size W1 wr) (fun i _ => 2 - (intOf i).toNat)
  case atStart => exact ⟨0, Nat.zero_le _, rfl, Below.refl _ _⟩
  case round =>
    obtain ⟨j, hj, rfl, hbel⟩ := hrel
    have HBW := Lib.hid hbel
    have HNB := Lib.hid (World.alloc_heap_new wr (.cells #[.int .i64 0, .map none] 28))
    have HBB := Lib.hid (below_next hbel (below_alloc (Below.refl _ wr) (.cells #[.int .i64 0, .map none] 28)))
    clear hbel
    rcases (by omega : j = 0 ∨ j = 1 ∨ j = 2) with rfl | rfl | rfl
    · go_upto_region 7 with fail
      generalize wr.alloc (.cells #[.int .i64 0, .map none] 28) = W2 at *
      generalize wr.heap.size = q at *
      have HV := Lib.hid (show NoBk W2 (.pointer (some ⟨q, 0, none⟩)) from .inr ⟨q, rfl, HNB.out⟩)
      obtain ⟨pv, hpv⟩ : ∃ pv, pv = (some ⟨q, 0, none⟩ : Option Addr) := ⟨_, rfl⟩
      rw [← hpv] at HV ⊢
      clear hpv HNB HBW
      have c1 : W2.cell? ⟨A, 1, none⟩ = some (.int .i64 u) := cell_of_block (o := 1) ((HBB.out.block A (Array.getElem?_eq_some_iff.1 HN0.out).1).trans HN0.out) rfl
      have c2 : W2.cell? ⟨A, 2, none⟩ = some (.int .i64 x) := cell_of_block (o := 2) ((HBB.out.block A (Array.getElem?_eq_some_iff.1 HN0.out).1).trans HN0.out) rfl
      have c3 : W2.cell? ⟨A, 3, none⟩ = some (.int .i64 n) := cell_of_block (o := 3) ((HBB.out.block A (Array.getElem?_eq_some_iff.1 HN0.out).1).trans HN0.out) rfl
      have c4 : W2.cell? ⟨A, 4, none⟩ = some (.int .i64 y) := cell_of_block (o := 4) ((HBB.out.block A (Array.getElem?_eq_some_iff.1 HN0.out).1).trans HN0.out) rfl
      go_wp2_with fail
      refine (KL.out _ _ HV.out).mono ?_
      rintro e w3 ⟨rfl, b3⟩
      have HV3 := Lib.hid (HV.out.below b3)
      have B3 := Lib.hid (below_next HBB.out b3)
      clear b3 HV HBB c1 c2 c3 c4
      go_upto_region 8 with fail
      have b4 := below_alloc (Below.refl _ w3) (.cells #[.int .i64 0, .int .i64 0, .int .i64 0, .int .i64 0, .int .i64 0, .int .i64 0, .int .i64 0, .int .i64 0, .int .i64 0] 33)
      have HL4 := Lib.hid (World.alloc_heap_new w3 (.cells #[.int .i64 0, .int .i64 0, .int .i64 0, .int .i64 0, .int .i64 0, .int .i64 0, .int .i64 0, .int .i64 0, .int .i64 0] 33))
      have HV4 := Lib.hid (HV3.out.below b4)
      have B4 := Lib.hid (below_next B3.out b4)
      clear b4 HV3 B3
      generalize w3.alloc (.cells #[.int .i64 0, .int .i64 0, .int .i64 0, .int .i64 0, .int .i64 0, .int .i64 0, .int .i64 0, .int .i64 0, .int .i64 0] 33) = W4 at *
      generalize w3.heap.size = p at *
      have c1 : W4.cell? ⟨A, 1, none⟩ = some (.int .i64 u) := cell_of_block (o := 1) ((B4.out.block A (Array.getElem?_eq_some_iff.1 HN0.out).1).trans HN0.out) rfl
      have c2 : W4.cell? ⟨A, 2, none⟩ = some (.int .i64 x) := cell_of_block (o := 2) ((B4.out.block A (Array.getElem?_eq_some_iff.1 HN0.out).1).trans HN0.out) rfl
      have c3 : W4.cell? ⟨A, 3, none⟩ = some (.int .i64 n) := cell_of_block (o := 3) ((B4.out.block A (Array.getElem?_eq_some_iff.1 HN0.out).1).trans HN0.out) rfl
      have c4 : W4.cell? ⟨A, 4, none⟩ = some (.int .i64 y) := cell_of_block (o := 4) ((B4.out.block A (Array.getElem?_eq_some_iff.1 HN0.out).1).trans HN0.out) rfl
      have z0 : W4.cell? ⟨p, 0, none⟩ = some (.int .i64 0) := cell_of_block (o := 0) HL4.out rfl
      have z1 : W4.cell? ⟨p, 1, none⟩ = some (.int .i64 0) := cell_of_block (o := 1) HL4.out rfl
      have z2 : W4.cell? ⟨p, 2, none⟩ = some (.int .i64 0) := cell_of_block (o := 2) HL4.out rfl
      have z3 : W4.cell? ⟨p, 3, none⟩ = some (.int .i64 0) := cell_of_block (o := 3) HL4.out rfl
      have z4 : W4.cell? ⟨p, 4, none⟩ = some (.int .i64 0) := cell_of_block (o := 4) HL4.out rfl
      have z5 : W4.cell? ⟨p, 5, none⟩ = some (.int .i64 0) := cell_of_block (o := 5) HL4.out rfl
      have z6 : W4.cell? ⟨p, 6, none⟩ = some (.int .i64 0) := cell_of_block (o := 6) HL4.out rfl
      have z7 : W4.cell? ⟨p, 7, none⟩ = some (.int .i64 0) := cell_of_block (o := 7) HL4.out rfl
      have z8 : W4.cell? ⟨p, 8, none⟩ = some (.int .i64 0) := cell_of_block (o := 8) HL4.out rfl
      have KN := Lib.hid (note_no HV4.out)
      have KC := Lib.hid (charge_no HV4.out)
      have KS := Lib.hid (lines_no HV4.out)
      go_wp2_with fail
      refine (KN.out _ _).mono ?_
      rintro e w5 ⟨rfl, hw⟩
      obtain rfl := hw
      go_wp2_with fail
      refine (KC.out _ _ _ _).mono ?_
      rintro e w5 ⟨rfl, hw⟩
      obtain rfl := hw
      go_wp2_with fail
      refine KS.out.mono ?_
      rintro e w5 ⟨rfl, b5⟩
      have HV5 := Lib.hid (HV4.out.below b5)
      have B5 := Lib.hid (below_next B4.out b5)
      clear b5 HV4 B4 c1 c2 c3 c4 KN KC KS HL4 z0 z1 z2 z3 z4 z5 z6 z7 z8
      have KP := Lib.hid (put_no HV5.out)
      have KO := Lib.hid (clone_no HV5.out)
      have KH := Lib.hid (half_no HV5.out)
      go_wp2_with fail
      refine KP.out.mono ?_
      rintro e w6 ⟨rfl, hw⟩
      obtain rfl := hw
      go_wp2_with fail
      refine KO.out.mono ?_
      rintro e w6 ⟨rfl, hw⟩
      obtain rfl := hw
      go_wp2_with fail
      refine KH.out.mono ?_
      rintro e w6 ⟨rfl, b6⟩
      have HV6 := Lib.hid (HV5.out.below b6)
      have B6 := Lib.hid (below_next B5.out b6)
      clear b6 HV5 B5 KP KO KH
      have KF := Lib.hid (factor_no HV6.out u n)
      have c1 : w6.cell? ⟨A, 1, none⟩ = some (.int .i64 u) := cell_of_block (o := 1) ((B6.out.block A (Array.getElem?_eq_some_iff.1 HN0.out).1).trans HN0.out) rfl
      have c2 : w6.cell? ⟨A, 2, none⟩ = some (.int .i64 x) := cell_of_block (o := 2) ((B6.out.block A (Array.getElem?_eq_some_iff.1 HN0.out).1).trans HN0.out) rfl
      have c3 : w6.cell? ⟨A, 3, none⟩ = some (.int .i64 n) := cell_of_block (o := 3) ((B6.out.block A (Array.getElem?_eq_some_iff.1 HN0.out).1).trans HN0.out) rfl
      have c4 : w6.cell? ⟨A, 4, none⟩ = some (.int .i64 y) := cell_of_block (o := 4) ((B6.out.block A (Array.getElem?_eq_some_iff.1 HN0.out).1).trans HN0.out) rfl
      go_wp2_with fail
      refine KF.out.mono ?_
      rintro e w7 ⟨rfl, b7⟩
      have B7 := Lib.hid (below_next B6.out b7)
      clear b7 HV6 B6 KF c1 c2 c3 c4
      go_wp2_with fail
      go_roundw
      case rel => exact ⟨1, by omega, by rfl, B7.out⟩
      case measure => simp [intOf]
    · go_upto_region 7 with fail
      generalize wr.alloc (.cells #[.int .i64 0, .map none] 28) = W2 at *
      have HV := Lib.hid (show NoBk W2 (.pointer none) from .inl rfl)
      clear HNB HBW
      have c1 : W2.cell? ⟨A, 1, none⟩ = some (.int .i64 u) := cell_of_block (o := 1) ((HBB.out.block A (Array.getElem?_eq_some_iff.1 HN0.out).1).trans HN0.out) rfl
      have c2 : W2.cell? ⟨A, 2, none⟩ = some (.int .i64 x) := cell_of_block (o := 2) ((HBB.out.block A (Array.getElem?_eq_some_iff.1 HN0.out).1).trans HN0.out) rfl
      have c3 : W2.cell? ⟨A, 3, none⟩ = some (.int .i64 n) := cell_of_block (o := 3) ((HBB.out.block A (Array.getElem?_eq_some_iff.1 HN0.out).1).trans HN0.out) rfl
      have c4 : W2.cell? ⟨A, 4, none⟩ = some (.int .i64 y) := cell_of_block (o := 4) ((HBB.out.block A (Array.getElem?_eq_some_iff.1 HN0.out).1).trans HN0.out) rfl
      go_wp2_with fail
      refine (KL.out _ _ HV.out).mono ?_
      rintro e w3 ⟨rfl, b3⟩
      have HV3 := Lib.hid (HV.out.below b3)
      have B3 := Lib.hid (below_next HBB.out b3)
      clear b3 HV HBB c1 c2 c3 c4
      go_upto_region 8 with fail
      have b4 := below_alloc (Below.refl _ w3) (.cells #[.int .i64 0, .int .i64 0, .int .i64 0, .int .i64 0, .int .i64 0, .int .i64 0, .int .i64 0, .int .i64 0, .int .i64 0] 33)
      have HL4 := Lib.hid (World.alloc_heap_new w3 (.cells #[.int .i64 0, .int .i64 0, .int .i64 0, .int .i64 0, .int .i64 0, .int .i64 0, .int .i64 0, .int .i64 0, .int .i64 0] 33))
      have HV4 := Lib.hid (HV3.out.below b4)
      have B4 := Lib.hid (below_next B3.out b4)
      clear b4 HV3 B3
      generalize w3.alloc (.cells #[.int .i64 0, .int .i64 0, .int .i64 0, .int .i64 0, .int .i64 0, .int .i64 0, .int .i64 0, .int .i64 0, .int .i64 0] 33) = W4 at *
      generalize w3.heap.size = p at *
      have c1 : W4.cell? ⟨A, 1, none⟩ = some (.int .i64 u) := cell_of_block (o := 1) ((B4.out.block A (Array.getElem?_eq_some_iff.1 HN0.out).1).trans HN0.out) rfl
      have c2 : W4.cell? ⟨A, 2, none⟩ = some (.int .i64 x) := cell_of_block (o := 2) ((B4.out.block A (Array.getElem?_eq_some_iff.1 HN0.out).1).trans HN0.out) rfl
      have c3 : W4.cell? ⟨A, 3, none⟩ = some (.int .i64 n) := cell_of_block (o := 3) ((B4.out.block A (Array.getElem?_eq_some_iff.1 HN0.out).1).trans HN0.out) rfl
      have c4 : W4.cell? ⟨A, 4, none⟩ = some (.int .i64 y) := cell_of_block (o := 4) ((B4.out.block A (Array.getElem?_eq_some_iff.1 HN0.out).1).trans HN0.out) rfl
      have z0 : W4.cell? ⟨p, 0, none⟩ = some (.int .i64 0) := cell_of_block (o := 0) HL4.out rfl
      have z1 : W4.cell? ⟨p, 1, none⟩ = some (.int .i64 0) := cell_of_block (o := 1) HL4.out rfl
      have z2 : W4.cell? ⟨p, 2, none⟩ = some (.int .i64 0) := cell_of_block (o := 2) HL4.out rfl
      have z3 : W4.cell? ⟨p, 3, none⟩ = some (.int .i64 0) := cell_of_block (o := 3) HL4.out rfl
      have z4 : W4.cell? ⟨p, 4, none⟩ = some (.int .i64 0) := cell_of_block (o := 4) HL4.out rfl
      have z5 : W4.cell? ⟨p, 5, none⟩ = some (.int .i64 0) := cell_of_block (o := 5) HL4.out rfl
      have z6 : W4.cell? ⟨p, 6, none⟩ = some (.int .i64 0) := cell_of_block (o := 6) HL4.out rfl
      have z7 : W4.cell? ⟨p, 7, none⟩ = some (.int .i64 0) := cell_of_block (o := 7) HL4.out rfl
      have z8 : W4.cell? ⟨p, 8, none⟩ = some (.int .i64 0) := cell_of_block (o := 8) HL4.out rfl
      have KN := Lib.hid (note_no HV4.out)
      have KC := Lib.hid (charge_no HV4.out)
      have KS := Lib.hid (lines_no HV4.out)
      go_wp2_with fail
      refine (KN.out _ _).mono ?_
      rintro e w5 ⟨rfl, hw⟩
      obtain rfl := hw
      go_wp2_with fail
      refine (KC.out _ _ _ _).mono ?_
      rintro e w5 ⟨rfl, hw⟩
      obtain rfl := hw
      go_wp2_with fail
      refine KS.out.mono ?_
      rintro e w5 ⟨rfl, b5⟩
      have HV5 := Lib.hid (HV4.out.below b5)
      have B5 := Lib.hid (below_next B4.out b5)
      clear b5 HV4 B4 c1 c2 c3 c4 KN KC KS HL4 z0 z1 z2 z3 z4 z5 z6 z7 z8
      have KP := Lib.hid (put_no HV5.out)
      have KO := Lib.hid (clone_no HV5.out)
      have KH := Lib.hid (half_no HV5.out)
      go_wp2_with fail
      refine KP.out.mono ?_
      rintro e w6 ⟨rfl, hw⟩
      obtain rfl := hw
      go_wp2_with fail
      refine KO.out.mono ?_
      rintro e w6 ⟨rfl, hw⟩
      obtain rfl := hw
      go_wp2_with fail
      refine KH.out.mono ?_
      rintro e w6 ⟨rfl, b6⟩
      have HV6 := Lib.hid (HV5.out.below b6)
      have B6 := Lib.hid (below_next B5.out b6)
      clear b6 HV5 B5 KP KO KH
      have KF := Lib.hid (factor_no HV6.out u n)
      have c1 : w6.cell? ⟨A, 1, none⟩ = some (.int .i64 u) := cell_of_block (o := 1) ((B6.out.block A (Array.getElem?_eq_some_iff.1 HN0.out).1).trans HN0.out) rfl
      have c2 : w6.cell? ⟨A, 2, none⟩ = some (.int .i64 x) := cell_of_block (o := 2) ((B6.out.block A (Array.getElem?_eq_some_iff.1 HN0.out).1).trans HN0.out) rfl
      have c3 : w6.cell? ⟨A, 3, none⟩ = some (.int .i64 n) := cell_of_block (o := 3) ((B6.out.block A (Array.getElem?_eq_some_iff.1 HN0.out).1).trans HN0.out) rfl
      have c4 : w6.cell? ⟨A, 4, none⟩ = some (.int .i64 y) := cell_of_block (o := 4) ((B6.out.block A (Array.getElem?_eq_some_iff.1 HN0.out).1).trans HN0.out) rfl
      go_wp2_with fail
      refine KF.out.mono ?_
      rintro e w7 ⟨rfl, b7⟩
      have B7 := Lib.hid (below_next B6.out b7)
      clear b7 HV6 B6 KF c1 c2 c3 c4
      go_wp2_with fail
      go_roundw
      case rel => exact ⟨2, by omega, by rfl, B7.out⟩
      case measure => simp [intOf]
    · go_wp2_with fail
      refine (bone _).mono ?_
      rintro e w8 ⟨rfl, b8⟩
      go_wp2_with fail
      go_ret
      exact ⟨rfl, below_next (below_next HB0.out HBW.out) b8⟩
end Go.Proofs.Ytmpknjlfabpipaa
