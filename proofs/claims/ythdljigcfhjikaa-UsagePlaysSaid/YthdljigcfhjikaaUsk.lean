/- Levels (layer 10): the law's own play; UsageNobody walked. No condition. -/
import Derived.Test.YthdljigcfhjikaaUsj
namespace Go.Proofs.Ythdljigcfhjikaa
set_option linter.unusedVariables false
open Go.ChangeShapes Go.WideShapes Go.ChangeAt Go.RowKit
attribute [local go_sem ↓] Go.wp_at_zero Go.wp_at_succ comesTo_value_eq comesTo_skip_eq comesTo_enter_eq

def oneL : List (Int × Int) := [(0, 0), (3, 2), (7, 0)]
theorem one_change : changeU (addF (byU 2)) [(0, boundU 0)] (3, 7) = oneL := by decide +kernel
theorem one_at3 : atU oneL 3 = 2 := by decide +kernel
theorem one_at7 : atU oneL 7 = 0 := by decide +kernel
theorem one_most : chooseU maxU oneL (0, 9) = 2 := by decide +kernel
theorem one_area : areaU oneL (0, 9) = 8 := by decide +kernel
set_option maxRecDepth 100000 in
set_option maxHeartbeats 2000000 in
theorem usage_one (w : World) : Calls Try.prog 21 #[] w fun e w' => e = .returned (.bool true) ∧ Below w.heap.size w w' := by
  have KF := Lib.hid (flat_any 0 w)
  have KA := Lib.hid (fun W S (h : USt W S [(0, boundU 0)]) => (show Calls Try.prog 22 #[.pointer (some ⟨S, 0, none⟩), .agg #[.int .i64 3, .int .i64 7], .int .i64 2] W fun e w' => e = .returned (.int .i64 0) ∧ USt w' S oneL ∧ FrU S W w' by
    have := add_u h 3 7 2 (by rw [one_change]; decide) (by rw [one_change]; decide)
    rwa [one_change] at this))
  have K3 := Lib.hid (fun W S (h : USt W S oneL) => (show Calls Try.prog 16 #[.pointer (some ⟨S, 0, none⟩), .int .i64 3] W fun e w' => e = .returned (.int .i64 2) ∧ Below W.heap.size W w' from one_at3 ▸ at_any h 3))
  have K7 := Lib.hid (fun W S (h : USt W S oneL) => (show Calls Try.prog 16 #[.pointer (some ⟨S, 0, none⟩), .int .i64 7] W fun e w' => e = .returned (.int .i64 0) ∧ Below W.heap.size W w' from one_at7 ▸ at_any h 7))
  have KM := Lib.hid (fun W S (h : USt W S oneL) => (show Calls Try.prog 19 #[.pointer (some ⟨S, 0, none⟩), .agg #[.int .i64 0, .int .i64 9]] W fun e w' => e = .returned (.int .i64 2) ∧ Below W.heap.size W w' from one_most ▸ most_any h 0 9))
  have KR := Lib.hid (fun W S (h : USt W S oneL) => (show Calls Try.prog 20 #[.pointer (some ⟨S, 0, none⟩), .agg #[.int .i64 0, .int .i64 9]] W fun e w' => e = .returned (.int .i64 8) ∧ Below W.heap.size W w' from one_area ▸ area_any h 0 9))
  go_enter Try.func21, Try.ntmps21
  go_wp2_with fail
  refine KF.out.mono ?_
  rintro e W1 ⟨S, rfl, hS, hu1, hb1⟩
  have HU1 := Lib.hid hu1
  clear hu1
  go_wp2_with fail
  refine (KA.out _ _ HU1.out).mono ?_
  rintro e W2 ⟨rfl, hu2, hf2⟩
  have HU2 := Lib.hid hu2
  have HB2 := Lib.hid (hb1.trans (hf2.below hb1.size (fun j hj => by subst hj; exact hS)))
  clear hu2 hf2 hb1
  go_wp2_with fail
  refine (K3.out _ _ HU2.out).mono ?_
  rintro e W3 ⟨rfl, hb3⟩
  have HU3 := Lib.hid (HU2.out.below hb3)
  have HB3 := Lib.hid (below_next HB2.out hb3)
  clear hb3
  go_wp2_with fail
  refine (K7.out _ _ HU3.out).mono ?_
  rintro e W4 ⟨rfl, hb3⟩
  have HU4 := Lib.hid (HU3.out.below hb3)
  have HB4 := Lib.hid (below_next HB3.out hb3)
  clear hb3
  go_wp2_with fail
  refine (KM.out _ _ HU4.out).mono ?_
  rintro e W5 ⟨rfl, hb3⟩
  have HU5 := Lib.hid (HU4.out.below hb3)
  have HB5 := Lib.hid (below_next HB4.out hb3)
  clear hb3
  go_wp2_with fail
  refine (KR.out _ _ HU5.out).mono ?_
  rintro e W6 ⟨rfl, hb3⟩
  have HB6 := Lib.hid (below_next HB5.out hb3)
  clear hb3
  go_wp2_with fail
  go_ret
  exact ⟨rfl, HB6.out⟩
set_option maxHeartbeats 1000000 in
theorem add_no {w : World} {v : Value} (h : NoU w v) (f t n : Int) : Calls Try.prog 22 #[v, .agg #[.int .i64 f, .int .i64 t], .int .i64 n] w fun e w' => e = .returned (.int .i64 1) ∧ Below w.heap.size w w' := by
  have HB := below_alloc (below_alloc (Below.refl _ w) (.cells #[.int .i64 f, .int .i64 t] 25)) (.cells #[.int .i64 n] 3)
  have n2 := World.alloc_heap_new (w.alloc (.cells #[.int .i64 f, .int .i64 t] 25)) (.cells #[.int .i64 n] 3)
  rw [show (w.alloc (.cells #[.int .i64 f, .int .i64 t] 25)).heap.size = w.heap.size + 1 by simp] at n2
  have n1 := ((below_alloc (Below.refl _ (w.alloc (.cells #[.int .i64 f, .int .i64 t] 25))) (.cells #[.int .i64 n] 3)).block w.heap.size (by simp)).trans (World.alloc_heap_new w (.cells #[.int .i64 f, .int .i64 t] 25))
  have hm : (n < -2000000 ∧ byU n = -2000000) ∨ (-2000000 ≤ n ∧ 2000000 < n ∧ byU n = 2000000) ∨ (-2000000 ≤ n ∧ n ≤ 2000000 ∧ byU n = n) := by
    unfold byU
    by_cases h1 : n < -2000000
    · exact .inl ⟨h1, if_pos h1⟩
    · by_cases h2 : 2000000 < n
      · exact .inr (.inl ⟨by omega, h2, by rw [if_neg h1, if_pos h2]⟩)
      · exact .inr (.inr ⟨by omega, by omega, by rw [if_neg h1, if_neg h2]⟩)
  obtain ⟨m, hmm⟩ : ∃ m, m = byU n := ⟨_, rfl⟩
  rw [← hmm] at hm
  clear hmm
  have H0 := Lib.hid h
  clear h
  go_enter Try.func22, Try.ntmps22
  go_upto_region 1 with fail
  generalize (w.alloc (.cells #[.int .i64 f, .int .i64 t] 25)).alloc (.cells #[.int .i64 n] 3) = W at *
  have hw := (wrote_refl n2).set 0 (.int .i64 m)
  have hbel := hw.below HB (by omega)
  have b0 := cell_of_block (o := 0) n2 rfl
  have z0 := free_of_block 0 n2
  have m1 := (hw.rest w.heap.size (by omega)).trans n1
  have KC := Lib.hid (fun fn caps => change_none (H0.out.below hbel) f t fn caps)
  clear n1 n2 hw
  rcases hm with ⟨h1, rfl⟩ | ⟨h1, h2, rfl⟩ | ⟨h1, h2, rfl⟩
  all_goals (
    go_upto_region 2 with fail
    clear b0 z0
    generalize W.setCell ⟨w.heap.size + 1, 0, none⟩ (.int .i64 _) = W9 at *
    have s0 := cell_of_block (o := 0) m1 rfl
    have s1 := cell_of_block (o := 1) m1 rfl
    clear m1
    go_wp2_with fail
    refine (KC.out _ _).mono ?_
    rintro e w' ⟨rfl, hb⟩
    go_wp2_with fail
    go_ret
    exact ⟨rfl, below_next hbel hb⟩)
theorem equal_nil (w : World) : Calls Try.prog 69 #[.slice none 0 0, .slice none 0 0] w fun e w' => e = .returned (.bool true) ∧ w = w' := by
  go_enter Try.func69, Try.ntmps69
  go_wp2_with fail
  go_loopw [13] (fun i wr => i = .int .i64 0 ∧ wr = w) (fun _ _ => 0)
  case atStart => exact ⟨rfl, rfl⟩
  case round =>
    obtain ⟨rfl, rfl⟩ := hrel
    go_wp2
    go_ret
    exact ⟨rfl, rfl⟩
theorem same_no {w : World} {v : Value} (h : NoU w v) : Calls Try.prog 27 #[v, .pointer none] w fun e w' => e = .returned (.bool true) ∧ Below w.heap.size w w' := by
  have KL := Lib.hid (list_no h)
  have KN := Lib.hid (fun W => list_no (w := W) (v := .pointer none) (.inl rfl))
  clear h
  go_enter Try.func27, Try.ntmps27
  go_wp2_with fail
  refine KL.out.mono ?_
  rintro e W1 ⟨rfl, hb1⟩
  go_wp2_with fail
  refine (KN.out _).mono ?_
  rintro e W2 ⟨rfl, hb2⟩
  go_wp2_with fail
  refine (equal_nil _).mono ?_
  rintro e W3 ⟨rfl, rfl⟩
  go_wp2_with fail
  go_ret
  exact ⟨rfl, below_next hb1 hb2⟩
set_option maxRecDepth 100000 in
set_option maxHeartbeats 8000000 in
theorem usage_nobody (kd f t n : Int) (w : World) : Calls Try.prog 6 #[.agg #[.int .i64 kd, .int .i64 f, .int .i64 t, .int .i64 n]] w fun e w' => e = .returned (.bool true) ∧ Below w.heap.size w w' := by
  have K1 := Lib.hid usage_one
  have hb0 := below_alloc (Below.refl _ w) (.cells #[.int .i64 kd, .int .i64 f, .int .i64 t, .int .i64 n] 49)
  have n0 := World.alloc_heap_new w (.cells #[.int .i64 kd, .int .i64 f, .int .i64 t, .int .i64 n] 49)
  have HB0 := Lib.hid hb0
  have HN0 := Lib.hid n0
  clear hb0 n0
  go_enter Try.func6, Try.ntmps6
  go_upto_region 1 with fail
  generalize w.alloc (.cells #[.int .i64 kd, .int .i64 f, .int .i64 t, .int .i64 n] 49) = W0 at *
  go_wp2_with fail
  go_loopw [3] (fun i wr => ∃ k : Nat, k ≤ 2 ∧ i = .int .i64 k ∧ Below w.heap.size w wr ∧ wr.heap[w.heap.size]? = some (.cells #[.int .i64 kd, .int .i64 f, .int .i64 t, .int .i64 n] 49 (0, 0))) (fun i _ => 2 - (intOf i).toNat)
  case atStart => exact ⟨0, by omega, rfl, HB0.out, HN0.out⟩
  case round =>
    obtain ⟨k, hk, rfl, hb, hn⟩ := hrel
    have HB := Lib.hid hb
    have HN := Lib.hid hn
    clear hb hn HB0 HN0
    by_cases h2 : k = 2
    case pos =>
      subst h2
      go_wp2_with fail
      refine (K1.out _).mono ?_
      rintro e W1 ⟨rfl, hb1⟩
      have HX := Lib.hid (below_next HB.out hb1)
      clear hb1
      go_wp2_with fail
      go_ret
      exact ⟨rfl, HX.out⟩
    case neg =>
    have hd : decide ((k : Int) < 2) = true := decide_eq_true (by omega)
    have hA := below_alloc (Below.refl _ wr) (.cells #[.slice none 0 0] 63)
    have hNn := World.alloc_heap_new wr (.cells #[.slice none 0 0] 63)
    have HBa := Lib.hid (below_next HB.out hA)
    have HNa := Lib.hid ((hA.block _ (Array.getElem?_eq_some_iff.1 HN.out).1).trans HN.out)
    have HV0 := Lib.hid (show NoU (wr.alloc (.cells #[.slice none 0 0] 63)) (.pointer (some ⟨wr.heap.size, 0, none⟩)) from .inr ⟨_, rfl, hNn⟩)
    have HV1 := Lib.hid (show NoU (wr.alloc (.cells #[.slice none 0 0] 63)) (.pointer none) from .inl rfl)
    have hw1 : IntKind.i64.wrap ((k : Int) + 1) = (k : Int) + 1 := by rw [IntKind.wrap_i64]; omega
    clear hA hNn HB HN
    go_upto_region 5 with fail
    generalize wr.alloc (.cells #[.slice none 0 0] 63) = W0a at *
    rcases (show k = 0 ∨ k = 1 by omega) with rfl | rfl
    · have GV0 := HV0
      have GB0 := HBa
      have GN0 := HNa
      clear HV0 HV1 HBa HNa
      have p0 := cell_of_block (o := 1) GN0.out rfl
      have p1 := cell_of_block (o := 2) GN0.out rfl
      have p2 := cell_of_block (o := 3) GN0.out rfl
      go_wp2_with fail
      refine (add_no GV0.out f t n).mono ?_
      rintro e Wn0 ⟨rfl, hb⟩
      have GV1 := Lib.hid (GV0.out.below hb)
      have GB1 := Lib.hid (below_next GB0.out hb)
      have GN1 := Lib.hid ((hb.block _ (Array.getElem?_eq_some_iff.1 GN0.out).1).trans GN0.out)
      clear hb p0 p1 p2 GV0 GB0 GN0
      have p0 := cell_of_block (o := 1) GN1.out rfl
      have p1 := cell_of_block (o := 2) GN1.out rfl
      have p2 := cell_of_block (o := 3) GN1.out rfl
      go_wp2_with fail
      refine (set_no GV1.out f t n).mono ?_
      rintro e Wn1 ⟨rfl, hb⟩
      have GV2 := Lib.hid (GV1.out.below hb)
      have GB2 := Lib.hid (below_next GB1.out hb)
      have GN2 := Lib.hid ((hb.block _ (Array.getElem?_eq_some_iff.1 GN1.out).1).trans GN1.out)
      clear hb p0 p1 p2 GV1 GB1 GN1
      have p0 := cell_of_block (o := 1) GN2.out rfl
      have p1 := cell_of_block (o := 2) GN2.out rfl
      have p2 := cell_of_block (o := 3) GN2.out rfl
      go_wp2_with fail
      refine (forget_no GV2.out f).mono ?_
      rintro e Wn2 ⟨rfl, hb⟩
      have GV3 := Lib.hid (GV2.out.below hb)
      have GB3 := Lib.hid (below_next GB2.out hb)
      have GN3 := Lib.hid ((hb.block _ (Array.getElem?_eq_some_iff.1 GN2.out).1).trans GN2.out)
      clear hb p0 p1 p2 GV2 GB2 GN2
      have p0 := cell_of_block (o := 1) GN3.out rfl
      have p1 := cell_of_block (o := 2) GN3.out rfl
      have p2 := cell_of_block (o := 3) GN3.out rfl
      go_wp2_with fail
      refine (at_no GV3.out f).mono ?_
      rintro e Wn3 ⟨rfl, hb⟩
      have GV4 := Lib.hid (GV3.out.below hb)
      have GB4 := Lib.hid (below_next GB3.out hb)
      have GN4 := Lib.hid ((hb.block _ (Array.getElem?_eq_some_iff.1 GN3.out).1).trans GN3.out)
      clear hb p0 p1 p2 GV3 GB3 GN3
      have p0 := cell_of_block (o := 1) GN4.out rfl
      have p1 := cell_of_block (o := 2) GN4.out rfl
      have p2 := cell_of_block (o := 3) GN4.out rfl
      go_wp2_with fail
      refine (least_no GV4.out f t).mono ?_
      rintro e Wn4 ⟨rfl, hb⟩
      have GV5 := Lib.hid (GV4.out.below hb)
      have GB5 := Lib.hid (below_next GB4.out hb)
      have GN5 := Lib.hid ((hb.block _ (Array.getElem?_eq_some_iff.1 GN4.out).1).trans GN4.out)
      clear hb p0 p1 p2 GV4 GB4 GN4
      have p0 := cell_of_block (o := 1) GN5.out rfl
      have p1 := cell_of_block (o := 2) GN5.out rfl
      have p2 := cell_of_block (o := 3) GN5.out rfl
      go_wp2_with fail
      refine (most_no GV5.out f t).mono ?_
      rintro e Wn5 ⟨rfl, hb⟩
      have GV6 := Lib.hid (GV5.out.below hb)
      have GB6 := Lib.hid (below_next GB5.out hb)
      have GN6 := Lib.hid ((hb.block _ (Array.getElem?_eq_some_iff.1 GN5.out).1).trans GN5.out)
      clear hb p0 p1 p2 GV5 GB5 GN5
      have p0 := cell_of_block (o := 1) GN6.out rfl
      have p1 := cell_of_block (o := 2) GN6.out rfl
      have p2 := cell_of_block (o := 3) GN6.out rfl
      go_wp2_with fail
      refine (area_no GV6.out f t).mono ?_
      rintro e Wn6 ⟨rfl, hb⟩
      have GV7 := Lib.hid (GV6.out.below hb)
      have GB7 := Lib.hid (below_next GB6.out hb)
      have GN7 := Lib.hid ((hb.block _ (Array.getElem?_eq_some_iff.1 GN6.out).1).trans GN6.out)
      clear hb p0 p1 p2 GV6 GB6 GN6
      have p0 := cell_of_block (o := 1) GN7.out rfl
      have p1 := cell_of_block (o := 2) GN7.out rfl
      have p2 := cell_of_block (o := 3) GN7.out rfl
      go_wp2_with fail
      refine (list_no GV7.out ).mono ?_
      rintro e Wn7 ⟨rfl, hb⟩
      have GV8 := Lib.hid (GV7.out.below hb)
      have GB8 := Lib.hid (below_next GB7.out hb)
      have GN8 := Lib.hid ((hb.block _ (Array.getElem?_eq_some_iff.1 GN7.out).1).trans GN7.out)
      clear hb p0 p1 p2 GV7 GB7 GN7
      have p0 := cell_of_block (o := 1) GN8.out rfl
      have p1 := cell_of_block (o := 2) GN8.out rfl
      have p2 := cell_of_block (o := 3) GN8.out rfl
      go_wp2_with fail
      refine (clone_no GV8.out ).mono ?_
      rintro e Wn8 ⟨rfl, hb⟩
      have GV9 := Lib.hid (GV8.out.below hb)
      have GB9 := Lib.hid (below_next GB8.out hb)
      have GN9 := Lib.hid ((hb.block _ (Array.getElem?_eq_some_iff.1 GN8.out).1).trans GN8.out)
      clear hb p0 p1 p2 GV8 GB8 GN8
      have p0 := cell_of_block (o := 1) GN9.out rfl
      have p1 := cell_of_block (o := 2) GN9.out rfl
      have p2 := cell_of_block (o := 3) GN9.out rfl
      go_wp2_with fail
      refine (same_no GV9.out ).mono ?_
      rintro e Wn9 ⟨rfl, hb⟩
      have GV10 := Lib.hid (GV9.out.below hb)
      have GB10 := Lib.hid (below_next GB9.out hb)
      have GN10 := Lib.hid ((hb.block _ (Array.getElem?_eq_some_iff.1 GN9.out).1).trans GN9.out)
      clear hb p0 p1 p2 GV9 GB9 GN9
      have p0 := cell_of_block (o := 1) GN10.out rfl
      have p1 := cell_of_block (o := 2) GN10.out rfl
      have p2 := cell_of_block (o := 3) GN10.out rfl
      go_wp2_with fail
      go_roundw
      case rel => exact ⟨1, by omega, by go_num, GB10.out, GN10.out⟩
      case measure => simp [intOf]
    · have GV0 := HV1
      have GB0 := HBa
      have GN0 := HNa
      clear HV0 HV1 HBa HNa
      have p0 := cell_of_block (o := 1) GN0.out rfl
      have p1 := cell_of_block (o := 2) GN0.out rfl
      have p2 := cell_of_block (o := 3) GN0.out rfl
      go_wp2_with fail
      refine (add_no GV0.out f t n).mono ?_
      rintro e Wn0 ⟨rfl, hb⟩
      have GV1 := Lib.hid (GV0.out.below hb)
      have GB1 := Lib.hid (below_next GB0.out hb)
      have GN1 := Lib.hid ((hb.block _ (Array.getElem?_eq_some_iff.1 GN0.out).1).trans GN0.out)
      clear hb p0 p1 p2 GV0 GB0 GN0
      have p0 := cell_of_block (o := 1) GN1.out rfl
      have p1 := cell_of_block (o := 2) GN1.out rfl
      have p2 := cell_of_block (o := 3) GN1.out rfl
      go_wp2_with fail
      refine (set_no GV1.out f t n).mono ?_
      rintro e Wn1 ⟨rfl, hb⟩
      have GV2 := Lib.hid (GV1.out.below hb)
      have GB2 := Lib.hid (below_next GB1.out hb)
      have GN2 := Lib.hid ((hb.block _ (Array.getElem?_eq_some_iff.1 GN1.out).1).trans GN1.out)
      clear hb p0 p1 p2 GV1 GB1 GN1
      have p0 := cell_of_block (o := 1) GN2.out rfl
      have p1 := cell_of_block (o := 2) GN2.out rfl
      have p2 := cell_of_block (o := 3) GN2.out rfl
      go_wp2_with fail
      refine (forget_no GV2.out f).mono ?_
      rintro e Wn2 ⟨rfl, hb⟩
      have GV3 := Lib.hid (GV2.out.below hb)
      have GB3 := Lib.hid (below_next GB2.out hb)
      have GN3 := Lib.hid ((hb.block _ (Array.getElem?_eq_some_iff.1 GN2.out).1).trans GN2.out)
      clear hb p0 p1 p2 GV2 GB2 GN2
      have p0 := cell_of_block (o := 1) GN3.out rfl
      have p1 := cell_of_block (o := 2) GN3.out rfl
      have p2 := cell_of_block (o := 3) GN3.out rfl
      go_wp2_with fail
      refine (at_no GV3.out f).mono ?_
      rintro e Wn3 ⟨rfl, hb⟩
      have GV4 := Lib.hid (GV3.out.below hb)
      have GB4 := Lib.hid (below_next GB3.out hb)
      have GN4 := Lib.hid ((hb.block _ (Array.getElem?_eq_some_iff.1 GN3.out).1).trans GN3.out)
      clear hb p0 p1 p2 GV3 GB3 GN3
      have p0 := cell_of_block (o := 1) GN4.out rfl
      have p1 := cell_of_block (o := 2) GN4.out rfl
      have p2 := cell_of_block (o := 3) GN4.out rfl
      go_wp2_with fail
      refine (least_no GV4.out f t).mono ?_
      rintro e Wn4 ⟨rfl, hb⟩
      have GV5 := Lib.hid (GV4.out.below hb)
      have GB5 := Lib.hid (below_next GB4.out hb)
      have GN5 := Lib.hid ((hb.block _ (Array.getElem?_eq_some_iff.1 GN4.out).1).trans GN4.out)
      clear hb p0 p1 p2 GV4 GB4 GN4
      have p0 := cell_of_block (o := 1) GN5.out rfl
      have p1 := cell_of_block (o := 2) GN5.out rfl
      have p2 := cell_of_block (o := 3) GN5.out rfl
      go_wp2_with fail
      refine (most_no GV5.out f t).mono ?_
      rintro e Wn5 ⟨rfl, hb⟩
      have GV6 := Lib.hid (GV5.out.below hb)
      have GB6 := Lib.hid (below_next GB5.out hb)
      have GN6 := Lib.hid ((hb.block _ (Array.getElem?_eq_some_iff.1 GN5.out).1).trans GN5.out)
      clear hb p0 p1 p2 GV5 GB5 GN5
      have p0 := cell_of_block (o := 1) GN6.out rfl
      have p1 := cell_of_block (o := 2) GN6.out rfl
      have p2 := cell_of_block (o := 3) GN6.out rfl
      go_wp2_with fail
      refine (area_no GV6.out f t).mono ?_
      rintro e Wn6 ⟨rfl, hb⟩
      have GV7 := Lib.hid (GV6.out.below hb)
      have GB7 := Lib.hid (below_next GB6.out hb)
      have GN7 := Lib.hid ((hb.block _ (Array.getElem?_eq_some_iff.1 GN6.out).1).trans GN6.out)
      clear hb p0 p1 p2 GV6 GB6 GN6
      have p0 := cell_of_block (o := 1) GN7.out rfl
      have p1 := cell_of_block (o := 2) GN7.out rfl
      have p2 := cell_of_block (o := 3) GN7.out rfl
      go_wp2_with fail
      refine (list_no GV7.out ).mono ?_
      rintro e Wn7 ⟨rfl, hb⟩
      have GV8 := Lib.hid (GV7.out.below hb)
      have GB8 := Lib.hid (below_next GB7.out hb)
      have GN8 := Lib.hid ((hb.block _ (Array.getElem?_eq_some_iff.1 GN7.out).1).trans GN7.out)
      clear hb p0 p1 p2 GV7 GB7 GN7
      have p0 := cell_of_block (o := 1) GN8.out rfl
      have p1 := cell_of_block (o := 2) GN8.out rfl
      have p2 := cell_of_block (o := 3) GN8.out rfl
      go_wp2_with fail
      refine (clone_no GV8.out ).mono ?_
      rintro e Wn8 ⟨rfl, hb⟩
      have GV9 := Lib.hid (GV8.out.below hb)
      have GB9 := Lib.hid (below_next GB8.out hb)
      have GN9 := Lib.hid ((hb.block _ (Array.getElem?_eq_some_iff.1 GN8.out).1).trans GN8.out)
      clear hb p0 p1 p2 GV8 GB8 GN8
      have p0 := cell_of_block (o := 1) GN9.out rfl
      have p1 := cell_of_block (o := 2) GN9.out rfl
      have p2 := cell_of_block (o := 3) GN9.out rfl
      go_wp2_with fail
      refine (same_no GV9.out ).mono ?_
      rintro e Wn9 ⟨rfl, hb⟩
      have GV10 := Lib.hid (GV9.out.below hb)
      have GB10 := Lib.hid (below_next GB9.out hb)
      have GN10 := Lib.hid ((hb.block _ (Array.getElem?_eq_some_iff.1 GN9.out).1).trans GN9.out)
      clear hb p0 p1 p2 GV9 GB9 GN9
      have p0 := cell_of_block (o := 1) GN10.out rfl
      have p1 := cell_of_block (o := 2) GN10.out rfl
      have p2 := cell_of_block (o := 3) GN10.out rfl
      go_wp2_with fail
      go_roundw
      case rel => exact ⟨2, by omega, by go_num, GB10.out, GN10.out⟩
      case measure => simp [intOf]
end Go.Proofs.Ythdljigcfhjikaa
