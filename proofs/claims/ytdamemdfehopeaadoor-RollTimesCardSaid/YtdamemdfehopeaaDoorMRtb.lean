/- Roll (layer 21): RollTimes walked. Conditions: the acts that came in; math/bits' table of trailing zeros lies as its text lays it. -/
import Derived.Test.YtdamemdfehopeaaDoorMRta
import Derived.Test.YtdamemdfehopeaaDoorMak
import Derived.Test.YtdamemdfehopeaaDoorMal
import Derived.Test.YtdamemdfehopeaaDoorMan
import Derived.Test.YtdamemdfehopeaaDoorMask
namespace Go.Proofs.YtdamemdfehopeaaDoor
set_option linter.unusedVariables false
open Go.ChangeShapes Go.WideShapes Go.ChangeAt Go.RowKit
attribute [local go_sem ↓] Go.wp_at_zero Go.wp_at_succ comesTo_value_eq comesTo_skip_eq comesTo_enter_eq

set_option maxRecDepth 100000 in
set_option maxHeartbeats 2000000 in
theorem rolltimes_walk (lad : Option Addr) (ll lcap : Nat) (A : Nat → ActU) (Wd Fr nd nh a0 a1 a2 a3 a4 : Int) (w : World) (hT : TabZ w) (hA : ActsU w lad ll A) :
    Calls Tryd.prog 5 #[.slice lad ll lcap, .agg #[.int .i64 Wd, .int .i64 Fr, .int .u64 nd, .int .u64 nh], .agg #[.int .i64 a0, .int .i64 a1, .int .i64 a2, .int .i64 a3, .int .i64 a4]] w fun e w' => e = .returned (.bool true) ∧ Below w.heap.size w w' := by
  have hmx : Tryd.prog.follows .mixedOrders = true := by kernel_rfl
  have hb0 := below_alloc (below_alloc (Below.refl _ w) (.cells #[.int .i64 Wd, .int .i64 Fr, .int .u64 nd, .int .u64 nh] 63)) (.cells #[.int .i64 a0, .int .i64 a1, .int .i64 a2, .int .i64 a3, .int .i64 a4] 64)
  have s1 : (w.alloc (.cells #[.int .i64 Wd, .int .i64 Fr, .int .u64 nd, .int .u64 nh] 63)).heap.size = w.heap.size + 1 := by simp
  have s2 : ((w.alloc (.cells #[.int .i64 Wd, .int .i64 Fr, .int .u64 nd, .int .u64 nh] 63)).alloc (.cells #[.int .i64 a0, .int .i64 a1, .int .i64 a2, .int .i64 a3, .int .i64 a4] 64)).heap.size = w.heap.size + 2 := by simp
  have nA := World.alloc_heap_new (w.alloc (.cells #[.int .i64 Wd, .int .i64 Fr, .int .u64 nd, .int .u64 nh] 63)) (.cells #[.int .i64 a0, .int .i64 a1, .int .i64 a2, .int .i64 a3, .int .i64 a4] 64)
  rw [s1] at nA
  have nR := ((below_alloc (Below.refl _ (w.alloc (.cells #[.int .i64 Wd, .int .i64 Fr, .int .u64 nd, .int .u64 nh] 63))) (.cells #[.int .i64 a0, .int .i64 a1, .int .i64 a2, .int .i64 a3, .int .i64 a4] 64)).block w.heap.size (by simp)).trans (World.alloc_heap_new w (.cells #[.int .i64 Wd, .int .i64 Fr, .int .u64 nd, .int .u64 nh] 63))
  have HT := Lib.hid (hT.below hb0)
  have HTw : 1 < w.heap.size := hT.1
  have KP := Lib.hid (play_any lad ll lcap A 5 8 (by decide) _ (actsU_below hA hb0))
  clear hA hT s1
  go_enter Tryd.func5, Tryd.ntmps5
  go_upto_region 1 with fail
  generalize (w.alloc (.cells #[.int .i64 Wd, .int .i64 Fr, .int .u64 nd, .int .u64 nh] 63)).alloc (.cells #[.int .i64 a0, .int .i64 a1, .int .i64 a2, .int .i64 a3, .int .i64 a4] 64) = W0 at *
  go_wp2_with fail
  refine KP.out.mono ?_
  rintro e W1 ⟨S, v, L, C, rfl, hS, hu, hr, hl, hrow, hcl, hlk, hb1⟩
  obtain ⟨vad, vcp, rfl⟩ := hrow.form
  have hb2 := below_alloc (Below.refl _ W1) (.cells #[.int .i64 5, .slice vad C.length vcp] 67)
  have nX := World.alloc_heap_new W1 (.cells #[.int .i64 5, .slice vad C.length vcp] 67)
  have hb12 := below_next hb1 hb2
  have hS1 : S < W1.heap.size := by
    obtain ⟨g, c, _, hs, _⟩ := hu.at_
    exact (Array.getElem?_eq_some_iff.1 hs).1
  have nR := (hb12.block _ (Array.getElem?_eq_some_iff.1 nR).1).trans nR
  have nA := (hb12.block _ (Array.getElem?_eq_some_iff.1 nA).1).trans nA
  have HU := Lib.hid (hu.below hb2)
  have HRow := Lib.hid (hrow.below hb2)
  have HB := Lib.hid (below_next hb0 hb12)
  have HTb := Lib.hid (HT.out.below hb12)
  have HR := Lib.hid hr
  have HLK := Lib.hid hlk
  have HL := Lib.hid hl
  have HCL := Lib.hid hcl
  clear hu hrow hb0 hb1 hb2 hb12 KP hr hlk HT hl hcl
  go_upto_region 2 with fail
  obtain ⟨X, hXe⟩ : ∃ X, X = W1.heap.size := ⟨_, rfl⟩
  rw [← hXe] at nX hS1 ⊢
  clear hXe
  generalize W1.alloc (.cells #[.int .i64 5, .slice vad C.length vcp] 67) = W2 at *
  have hX2 := (Array.getElem?_eq_some_iff.1 nX).1
  have hR2 := (Array.getElem?_eq_some_iff.1 nR).1
  have hA2 := (Array.getElem?_eq_some_iff.1 nA).1
  obtain ⟨E, hE⟩ : ∃ E, E = startF L a0 Wd := ⟨_, rfl⟩
  have KS := Lib.hid (fun (Y : World) (hy : Below W2.heap.size W2 Y) => hE ▸ start_at (HU.out.below hy) HR.out a0 Wd)
  have KE := Lib.hid (fun (Y : World) (hy : Below W2.heap.size W2 Y) => rearliest_any (HRow.out.below hy) HCL.out HLK.out HR.out a0 1099511627776 1099511627776 Wd (by decide) (by decide))
  have hEe : ¬ Wd < 1 → E = firstU (startsU L (clampI a0) 1099511627776 Wd) := fun h => by
    rw [hE]
    unfold startF earlU
    rw [if_neg h, show maxU (clampI 1099511627776) 1 = 1099511627776 by decide]
  have hEn : Wd < 1 → E = 1099511627776 := fun h => by rw [hE]; unfold startF; rw [if_pos h]
  have HEe := Lib.hid hEe
  have HEn := Lib.hid hEn
  have NR := Lib.hid nR
  have NA := Lib.hid nA
  have NX := Lib.hid nX
  clear hE hEe hEn nR nA nX
  have r0 := cell_of_block (o := 0) NR.out rfl
  have q0 := cell_of_block (o := 0) NA.out rfl
  have x0 := cell_of_block (o := 0) NX.out rfl
  have x1 := cell_of_block (o := 1) NX.out rfl
  go_upto_region 3 with fail
  obtain ⟨bw, hbw⟩ : ∃ b : Bool, b = decide (Wd > 0) := ⟨_, rfl⟩
  have HBW := Lib.hid hbw
  go_upto_if 22 with fail
  rw [← hbw]
  clear hbw
  go_cut [9] (fun s wx => s = .int .i64 E ∧ Below W2.heap.size W2 wx)
  case first =>
    cases bw with
    | true =>
      have hp : ¬ Wd < 1 := by have := of_decide_eq_true HBW.out.symm; omega
      have he := HEe.out hp
      have KE2 := Lib.hid (he ▸ KE.out W2 (Below.refl _ _))
      clear he hp
      go_wp2_with fail
      refine KE2.out.mono ?_
      rintro e W3 ⟨rfl, hb3⟩
      have HB3 := Lib.hid hb3
      clear hb3 r0 q0 x0 x1
      go_wp2_with fail
      go_meet
      exact ⟨rfl, HB3.out⟩
    | false =>
      have hp : Wd < 1 := by have := of_decide_eq_false HBW.out.symm; omega
      have he := HEn.out hp
      clear hp
      go_wp2_with fail
      go_meet
      exact ⟨by rw [he], Below.refl _ _⟩
  case rest =>
  obtain ⟨rfl, hb3⟩ := hcut
  have r0 := cell_of_block (o := 0) ((hb3.block _ hR2).trans NR.out) rfl
  have q0 := cell_of_block (o := 0) ((hb3.block _ hA2).trans NA.out) rfl
  have HB3 := Lib.hid hb3
  clear hb3
  go_wp2_with fail
  refine (KS.out _ HB3.out).mono ?_
  rintro e W4 ⟨rfl, hb4⟩
  have HB4 := Lib.hid (below_next HB3.out hb4)
  have NR4 := Lib.hid ((HB4.out.block _ hR2).trans NR.out)
  have NA4 := Lib.hid ((HB4.out.block _ hA2).trans NA.out)
  have NX4 := Lib.hid ((HB4.out.block _ hX2).trans NX.out)
  have HU4 := Lib.hid (HU.out.below HB4.out)
  have HRow4 := Lib.hid (HRow.out.below HB4.out)
  have HT4 := Lib.hid (HTb.out.below HB4.out)
  have HBw4 := Lib.hid (below_next HB.out HB4.out)
  have hs4 := HB4.out.size
  clear hb4 r0 q0 HB3 KS KE HEe HEn NR NA NX HU HRow HTb HB HBW
  have r0 := cell_of_block (o := 0) NR4.out rfl
  have r1 := cell_of_block (o := 1) NR4.out rfl
  have r2 := cell_of_block (o := 2) NR4.out rfl
  have r3 := cell_of_block (o := 3) NR4.out rfl
  obtain ⟨x, hx⟩ : ∃ x, x = max (-2000) (min Wd 2000) := ⟨_, rfl⟩
  have hxb : -2000 ≤ x ∧ x ≤ 2000 := by omega
  have hbd : bdF (-1073741824) 1073741824 x = x := by unfold bdF; omega
  have HBD := Lib.hid hbd
  have HXB := Lib.hid hxb
  clear hbd hxb
  go_upto_region 8 with fail
  rw [← hx]
  clear hx
  have hwb := below_alloc (Below.refl _ W4) (.cells #[.int .i64 Wd, .int .i64 Fr, .int .u64 nd, .int .u64 nh] 63)
  have nQ0 := World.alloc_heap_new W4 (.cells #[.int .i64 Wd, .int .i64 Fr, .int .u64 nd, .int .u64 nh] 63)
  go_upto_region 9 with fail
  obtain ⟨Q, hQ⟩ : ∃ Q, Q = W4.heap.size := ⟨_, rfl⟩
  rw [← hQ] at nQ0 ⊢
  have hRQ : w.heap.size < Q := by omega
  have hAQ : w.heap.size + 1 < Q := by omega
  have hXQ : X < Q := by omega
  have hSQ : S < Q := by omega
  have hQe : W4.heap.size ≤ Q := by omega
  have HQe := Lib.hid hQ
  clear hQ
  generalize hW5 : W4.alloc (.cells #[.int .i64 Wd, .int .i64 Fr, .int .u64 nd, .int .u64 nh] 63) = W5 at *
  clear hW5
  have d0 := cell_of_block (o := 0) nQ0 rfl
  have f0 := free_of_block 0 nQ0
  have hw := (wrote_refl nQ0).set 0 (.int .i64 x)
  have HW := Lib.hid hw
  have HB46 := Lib.hid (hw.below hwb hQe)
  clear hw hwb r0 r1 r2 r3 nQ0
  go_upto_region 10 with fail
  generalize W5.setCell ⟨Q, 0, none⟩ (.int .i64 x) = W6 at *
  have NQ := Lib.hid HW.out.there
  have NR := Lib.hid ((HB46.out.block _ (by have := HQe.out; omega)).trans NR4.out)
  have NA := Lib.hid ((HB46.out.block _ (by have := HQe.out; omega)).trans NA4.out)
  have NX := Lib.hid ((HB46.out.block _ (by have := HQe.out; omega)).trans NX4.out)
  have HU := Lib.hid (HU4.out.below HB46.out)
  have HRow := Lib.hid (HRow4.out.below HB46.out)
  have HT := Lib.hid (HT4.out.below HB46.out)
  have HB := Lib.hid (below_next HBw4.out HB46.out)
  clear HW HB46 NR4 NA4 NX4 HU4 HRow4 HT4 HBw4 HQe hs4 d0 f0
  have hq6 := (Array.getElem?_eq_some_iff.1 NQ.out).1
  have l0 := cell_of_block (o := 0) NQ.out rfl
  have l1 := cell_of_block (o := 1) NQ.out rfl
  have l2 := cell_of_block (o := 2) NQ.out rfl
  have l3 := cell_of_block (o := 3) NQ.out rfl
  go_wp2_with fail
  refine (lower_at HU.out HR.out (by have := HL.out; omega) x Fr nd nh).mono ?_
  rintro e W7 ⟨rfl, hu7, hf7⟩
  rw [HBD.out] at hu7
  have hk7 : ∀ b, b ≠ S → b < W6.heap.size → W7.heap[b]? = W6.heap[b]? := fun b h1 h2 => hf7.block b h2 h1
  have NQ7 := Lib.hid ((hk7 Q (by omega) hq6).trans NQ.out)
  have NR7 := Lib.hid ((hk7 w.heap.size (by omega) (by omega)).trans NR.out)
  have NA7 := Lib.hid ((hk7 (w.heap.size + 1) (by omega) (by omega)).trans NA.out)
  have NX7 := Lib.hid ((hk7 X (by omega) (by omega)).trans NX.out)
  have HU7 := Lib.hid hu7
  have HRow7 := Lib.hid (by
    obtain ⟨g, c, _, hS2, _⟩ := HU.out.at_
    exact HRow.out.keep1 hS2 ⟨_, _, _, rfl⟩ hf7.size (fun k hk hne => hf7.block k hk hne))
  have hb67 : Below w.heap.size W6 W7 := hf7.below (by omega) (fun j hj => by have hj' : j = S := hj; omega)
  have HT7 := Lib.hid (show TabZ W7 from ⟨Nat.lt_of_lt_of_le HT.out.1 hf7.size, fun j hj => (World.cell?_of_block (hf7.block _ HT.out.1 (by show ¬ 1 = S; have := HTw; omega))).trans (HT.out.2 j hj)⟩)
  have HB7 := Lib.hid (HB.out.trans hb67)
  have HLike := Lib.hid (like_add_of HLK.out HR.out Fr (-x))
  have HR7 := Lib.hid (change_right HR.out (addF_in (byU (-x))) (clampI Fr) (addI Fr 1099511627776)).1
  have hwn : IntKind.i64.wrap (-x) = -x := by have := HXB.out; rw [IntKind.wrap_i64]; omega
  have hq7 := (Array.getElem?_eq_some_iff.1 NQ7.out).1
  clear hu7 hf7 hk7 hb67 NQ NR NA NX HU HRow HT HB HLK HBD HXB l0 l1 l2 l3
  generalize changeU (addF (byU (-x))) L (clampI Fr, addI Fr 1099511627776) = L' at *
  have x0 := cell_of_block (o := 0) NX7.out rfl
  have x1 := cell_of_block (o := 1) NX7.out rfl
  have r1 := cell_of_block (o := 1) NR7.out rfl
  have hcl := HCL.out
  go_wp2_with fail
  refine (rchg_add HRow7.out (by omega) 5 Fr 1099511627776 (-x)).mono ?_
  rintro e W8 ⟨v', rfl, hrow8, hb8⟩
  obtain ⟨C', hC'⟩ : ∃ C', C' = C ++ [⟨Fr, 1099511627776, false, -x⟩] := ⟨_, rfl⟩
  rw [← hC'] at hrow8 HLike
  have hl8 : C'.length ≤ 1048576 := by rw [hC']; simp; omega
  have HL8 := Lib.hid hl8
  clear hC' hl8
  obtain ⟨a8, c8, rfl⟩ := hrow8.form
  have HRow8 := Lib.hid hrow8
  have HB8 := Lib.hid hb8
  clear hrow8 hb8 x0 x1 r1
  go_wp2_with fail
  refine (like_any (HU7.out.below HB8.out) HR7.out HRow8.out HL8.out HLike.out).mono ?_
  rintro e W9 ⟨rfl, hb9⟩
  have HB9 := Lib.hid (below_next HB8.out hb9)
  have NQ9 := Lib.hid ((HB9.out.block _ hq7).trans NQ7.out)
  clear hb9 hcl
  have l0 := cell_of_block (o := 0) NQ9.out rfl
  have l1 := cell_of_block (o := 1) NQ9.out rfl
  have l2 := cell_of_block (o := 2) NQ9.out rfl
  have l3 := cell_of_block (o := 3) NQ9.out rfl
  go_wp2_with fail
  refine (lower_nil x Fr nd nh).mono ?_
  rintro e Wa ⟨rfl, hba⟩
  have HBa := Lib.hid (below_next HB9.out hba)
  have NA := Lib.hid ((HBa.out.block _ (by omega)).trans NA7.out)
  have NR := Lib.hid ((HBa.out.block _ (by omega)).trans NR7.out)
  have HT := Lib.hid (HT7.out.below HBa.out)
  have HB := Lib.hid (HB7.out.trans (HBa.out.mono HB7.out.size))
  clear hba l0 l1 l2 l3 HBa HB9 HB8 NQ9 NQ7 NR7 NA7 NX7 HU7 HRow7 HT7 HB7 HLike HR7 HRow8 hq7 hq6 hwn
  have q0 := cell_of_block (o := 0) NA.out rfl
  have q1 := cell_of_block (o := 1) NA.out rfl
  have q2 := cell_of_block (o := 2) NA.out rfl
  have q3 := cell_of_block (o := 3) NA.out rfl
  have q4 := cell_of_block (o := 4) NA.out rfl
  have m1 := mask_255 a1
  have m2 := mask_255 a2
  have hn1 : 0 ≤ a1 % 256 ∧ a1 % 256 ≤ 255 := by omega
  have hn2 : 0 ≤ a2 % 256 ∧ a2 % 256 ≤ 255 := by omega
  generalize a1 % 256 = n at *
  generalize a2 % 256 = f at *
  go_upto_region 12 with fail
  refine wp_region_grow (fun w' => w' = Wa.drew) hmx (by kernel_rfl) rfl ?_
  iterate 8 (refine textS_run ?_ ?_ (fun W hS => ?_) ?_; rotate_left; (focus go_simp); (focus (subst hS; go_simp; all_goals (first | exact ⟨rfl, rfl⟩ | rfl | (refine ⟨?_, rfl⟩; rfl)))); (try go_simp))
  refine textS_nil ?_
  have NA2 := Lib.hid (show Wa.drew.heap[w.heap.size + 1]? = _ from NA.out)
  have NR2 := Lib.hid (show Wa.drew.heap[w.heap.size]? = _ from NR.out)
  have HT2 := Lib.hid (HT.out.below (Below.refl _ _).drew)
  have HB2 := Lib.hid (Below.drew HB.out)
  clear q0 q1 q2 q3 q4 NA NR HT HB m1 m2
  generalize Wa.drew = Wb at *
  have q0 := cell_of_block (o := 0) NA2.out rfl
  have q3 := cell_of_block (o := 3) NA2.out rfl
  have q4 := cell_of_block (o := 4) NA2.out rfl
  have hV := show boundF Fr n f a3 a4 a0 = addI Fr (timesI (addI (addI a3 a4) (addI a0 1)) (n + f)) by
    unfold boundF
    rw [show bdF 0 1048576 n = n by unfold bdF; omega, show bdF 0 1048576 f = f by unfold bdF; omega]
  have KB := Lib.hid (fun X => hV ▸ boundR_any Wd Fr nd nh n f a3 a4 a0 X)
  have k1 := Lib.hid (fun X => radd_any a3 a4 X)
  have k2 := Lib.hid (fun X => radd_any a0 1 X)
  have k3 := Lib.hid (fun X => radd_any (addI a3 a4) (addI a0 1) X)
  clear hV
  generalize addI a3 a4 = p at *
  generalize addI a0 1 = q at *
  generalize addI p q = t at *
  have k4 := Lib.hid (fun X => (rtimes_any t (n + f) (by omega) X).mono (R' := fun e w' => e = .returned (.int .i64 (timesI t (n + f))) ∧ Below X.heap.size X w') fun e w' hh => ⟨hh.1, hh.2 ▸ Below.refl _ _⟩)
  generalize timesI t (n + f) = z at *
  have k5 := Lib.hid (fun X => (radd_any Fr z X).mono (R' := fun e w' => e = .returned (.int .i64 (addI Fr z)) ∧ Below X.heap.size X w') fun e w' hh => ⟨hh.1, hh.2 ▸ Below.refl _ _⟩)
  generalize addI Fr z = u at *
  go_upto_region 13 with fail
  refine wp_region_grow (fun w' => w' = Wb.drew) hmx (by kernel_rfl) rfl ?_
  iterate 4 (refine textS_run ?_ ?_ (fun W hS => ?_) ?_; rotate_left; (focus go_simp); (focus (subst hS; go_simp; all_goals (first | exact ⟨rfl, rfl⟩ | rfl | (refine ⟨?_, rfl⟩; rfl)))); (try go_simp))
  (refine textS_run ?_ ?_ (fun W hS => ?_) ?_; rotate_left; (focus go_simp); (focus (subst hS; go_simp; refine (k1.out _).mono ?_; rintro e w1 ⟨rfl, rfl⟩; refine ⟨?_, ?_⟩; (focus rfl); (focus rfl))); (try go_simp))
  iterate 2 (refine textS_run ?_ ?_ (fun W hS => ?_) ?_; rotate_left; (focus go_simp); (focus (subst hS; go_simp; all_goals (first | exact ⟨rfl, rfl⟩ | rfl | (refine ⟨?_, rfl⟩; rfl)))); (try go_simp))
  (refine textS_run ?_ ?_ (fun W hS => ?_) ?_; rotate_left; (focus go_simp); (focus (subst hS; go_simp; refine (k2.out _).mono ?_; rintro e w1 ⟨rfl, rfl⟩; refine ⟨?_, ?_⟩; (focus rfl); (focus rfl))); (try go_simp))
  (refine textS_run ?_ ?_ (fun W hS => ?_) ?_; rotate_left; (focus go_simp); (focus (subst hS; go_simp; refine (k3.out _).mono ?_; rintro e w1 ⟨rfl, rfl⟩; refine ⟨?_, ?_⟩; (focus rfl); (focus rfl))); (try go_simp))
  (refine textS_run ?_ ?_ (fun W hS => ?_) ?_; rotate_left; (focus go_simp); (focus (subst hS; go_simp; all_goals (first | exact ⟨rfl, rfl⟩ | rfl | (refine ⟨?_, rfl⟩; rfl)))); (try go_simp))
  refine textS_nil ?_
  have NA := Lib.hid (show Wb.drew.heap[w.heap.size + 1]? = _ from NA2.out)
  have NR := Lib.hid (show Wb.drew.heap[w.heap.size]? = _ from NR2.out)
  have HT := Lib.hid (HT2.out.below (Below.refl _ _).drew)
  have HB := Lib.hid (Below.drew HB2.out)
  clear q0 q3 q4 NA2 NR2 HT2 HB2 k1 k2 k3
  generalize Wb.drew = Wc at *
  have q0 := cell_of_block (o := 0) NA.out rfl
  have q3 := cell_of_block (o := 3) NA.out rfl
  have q4 := cell_of_block (o := 4) NA.out rfl
  have r0 := cell_of_block (o := 0) NR.out rfl
  have r1 := cell_of_block (o := 1) NR.out rfl
  have r2 := cell_of_block (o := 2) NR.out rfl
  have r3 := cell_of_block (o := 3) NR.out rfl
  have lz0 := (Array.getElem?_eq_some_iff.1 NA.out).1
  have lz1 := (Array.getElem?_eq_some_iff.1 NR.out).1
  have hwnf : IntKind.i64.wrap (n + f) = n + f := by rw [IntKind.wrap_i64]; omega
  go_upto_region 14 with fail
  refine wp_region_grow (Below Wc.heap.size Wc) hmx (by kernel_rfl) (Below.refl _ _).drew ?_
  iterate 9 (refine textS_run ?_ ?_ (fun W hS => ?_) ?_; rotate_left; (focus go_simp); (focus (obtain ⟨hc, hf⟩ := bcell hS; go_simp; first | rfl | exact ⟨rfl, hS⟩ | exact hS)); (try go_simp))
  (refine textS_run ?_ ?_ (fun W hS => ?_) ?_; rotate_left; (focus go_simp); (focus (obtain ⟨hc, hf⟩ := bcell hS; go_simp; refine (KB.out _).mono ?_; rintro e w1 ⟨rfl, hb⟩; refine ⟨?_, hS.trans (hb.mono hS.size)⟩; rfl)); (try go_simp))
  iterate 6 (refine textS_run ?_ ?_ (fun W hS => ?_) ?_; rotate_left; (focus go_simp); (focus (obtain ⟨hc, hf⟩ := bcell hS; go_simp; first | rfl | exact ⟨rfl, hS⟩ | exact hS)); (try go_simp))
  (refine textS_run ?_ ?_ (fun W hS => ?_) ?_; rotate_left; (focus go_simp); (focus (obtain ⟨hc, hf⟩ := bcell hS; go_simp; refine (k4.out _).mono ?_; rintro e w1 ⟨rfl, hb⟩; refine ⟨?_, hS.trans (hb.mono hS.size)⟩; rfl)); (try go_simp))
  (refine textS_run ?_ ?_ (fun W hS => ?_) ?_; rotate_left; (focus go_simp); (focus (obtain ⟨hc, hf⟩ := bcell hS; go_simp; refine (k5.out _).mono ?_; rintro e w1 ⟨rfl, hb⟩; refine ⟨?_, hS.trans (hb.mono hS.size)⟩; rfl)); (try go_simp))
  iterate 2 (refine textS_run ?_ ?_ (fun W hS => ?_) ?_; rotate_left; (focus go_simp); (focus (obtain ⟨hc, hf⟩ := bcell hS; go_simp; first | rfl | exact ⟨rfl, hS⟩ | exact hS)); (try go_simp))
  (refine textS_run ?_ ?_ (fun W hS => ?_) ?_; rotate_left; (focus go_simp); (focus (obtain ⟨hc, hf⟩ := bcell hS; go_simp; refine (roll_one _ (HT.out.below hS)).mono ?_; rintro e w1 ⟨rfl, hb⟩; refine ⟨?_, hS.trans (hb.mono hS.size)⟩; rfl)); (try go_simp))
  iterate 2 (refine textS_run ?_ ?_ (fun W hS => ?_) ?_; rotate_left; (focus go_simp); (focus (obtain ⟨hc, hf⟩ := bcell hS; go_simp; first | rfl | exact ⟨rfl, hS⟩ | exact hS)); (try go_simp))
  refine textS_nil ?_
  intro W' hb'
  go_wp2_with fail
  go_ret
  exact ⟨rfl, HB.out.trans (hb'.mono HB.out.size)⟩
end Go.Proofs.YtdamemdfehopeaaDoor
