/- DiskKeeps walked, more than 500 bytes given. No condition but the lengths' bounds. -/
import Derived.Test.YtgjhhmdkechfmaaDkKeeps
namespace Go.Proofs.Ytgjhhmdkechfmaa
set_option linter.unusedVariables false
open Go.ChangeShapes Go.WideShapes Go.ChangeAt Go.RowKit
attribute [local go_sem ↓] Go.wp_at_zero Go.wp_at_succ comesTo_value_eq comesTo_skip_eq comesTo_enter_eq

set_option maxRecDepth 100000 in
set_option maxHeartbeats 16000000 in
theorem keeps_walk2 (f0 : Int) (ad : Option Addr) (n c : Nat) (ys : List Int) (W : World) (hT : TxtAt W (.slice ad n c) ys) (hn : n = ys.length) (h500 : n ≤ 500)
    (m : Nat) (hm5 : 500 < m) (hmc : m ≤ c) (hn5 : n = 500) (had : ∃ g o, ad = some ⟨g, o, none⟩)
    (lad : Option Addr) (ll lc : Nat) (A : Nat → ActV) (hA : ActsAt W lad ll A) :
    Calls Try.prog 4 #[.int .i64 f0, .slice ad m c, .slice lad ll lc] W fun e w' => e = .returned (.bool true) ∧ Below W.heap.size W w' := by
  have hmx : Try.prog.follows .mixedOrders = true := by kernel_rfl
  obtain ⟨k, hk, hm3⟩ : ∃ k : Nat, k < 4 ∧ bits .and .i64 f0 3 = (k : Int) := ⟨(f0 % 4).toNat, by omega, by rw [mask_3]; omega⟩
  obtain ⟨hb1, hb2, hb3, hb4, hb5⟩ := begin_st hk ys (by omega)
  have hdn : decide ((m : Int) > 500) = true := decide_eq_true (by omega)
  have hslm : ∀ W : World, Sem.run Try.prog (Instr.slice 30 (.slice ad m c) none (some (.int .i64 500)) none) W = .ok (.slice ad n c) W := fun W => by
    subst hn5
    exact slice_to_any had (show 500 ≤ c by omega) (by omega) W
  clear hn5 hmc had
  have HT := Lib.hid hT
  have HN := Lib.hid hn
  have HA := Lib.hid hA
  have HB1 := Lib.hid hb1
  have HB2 := Lib.hid hb2
  have HB3 := Lib.hid hb3
  have HB4 := Lib.hid hb4
  have HB5 := Lib.hid hb5
  have H5 := Lib.hid h500
  have KN := Lib.hid (fun w => new_any w)
  have KO := Lib.hid (fun w => one_yes w)
  clear hT hn hA hb1 hb2 hb3 hb4 hb5 h500
  go_enter Try.func4, Try.ntmps4
  go_wp2_with fail
  refine (KN.out _).mono ?_
  rintro e w1 ⟨D, rfl, hd, hb⟩
  have HD1 := Lib.hid hd.bound
  have HW1 := Lib.hid hb
  clear hd hb
  go_wp2_with fail
  refine (append_dk HD1.out k ad n c ys HN.out (fun w' hf => HT.out.low HW1.out (Nat.le_refl _) (fun j hj => hj.1) hf) (by have := HN.out; have := H5.out; omega)).mono ?_
  rintro e w2 ⟨rfl, hd, hf⟩
  rw [HB1.out]
  have HD2 := Lib.hid hd.bound
  have HW2 := Lib.hid (HW1.out.trans (hf.below HW1.out.size fun j hj => hj.1))
  have HS2 := Lib.hid hf.size
  clear hd hf
  go_wp2_with fail
  refine (sync_dk HD2.out k).mono ?_
  rintro e w3 ⟨rfl, hd, hf⟩
  rw [HB2.out]
  have HD3 := Lib.hid hd.bound
  have HW3 := Lib.hid (HW2.out.trans (hf.below HW2.out.size fun j hj => by have := HW1.out.size; rcases hj.1 with h | h; exact h.1; omega))
  have HS3 := Lib.hid hf.size
  clear hd hf
  go_wp2_with fail
  refine (clone_dk HD3.out).mono ?_
  rintro e w4 ⟨C, rfl, hd, hb⟩
  have HST : KAt W w3.heap.size w4.heap.size D C k ys (callF 1 (callF 0 newF k ys).1 k []).1 (callF 1 (callF 0 newF k ys).1 k []).1 w4 :=
    ⟨(HD3.out.below hb).more fun j hj => ⟨by have := HW1.out.size; have := HW2.out.size; rcases hj.1 with h | h; rcases h.1 with h | h; exact h.1; omega; omega, .inl hj.2⟩, hd.bound.more (fun j hj => hj), below_next HW3.out hb, Nat.le_refl _, by unfold Keeps; rw [HB3.out, HB4.out, List.take_length]; exact List.prefix_refl _⟩
  have HK := Lib.hid HST
  generalize (callF 1 (callF 0 newF k ys).1 k []).1 = stc at *
  generalize w3.heap.size = N3 at *
  generalize w4.heap.size = N4 at *
  clear HST hd hb HD1 HD2 HD3 HW1 HW2 HW3 HS2 HS3 HB1 HB2
  go_wp2_with fail
  go_loopw [9] (fun i wr => ∃ q : Nat, q ≤ 40 ∧ q ≤ ll ∧ i = .int .i64 q ∧ ∃ st, KAt W N3 N4 D C k ys stc st wr) (fun i _ => 40 - (intOf i).toNat)
  case atStart => exact ⟨0, by decide, Nat.zero_le _, rfl, _, HK.out⟩
  case round =>
    clear HK
    obtain ⟨q, hq40, hql, rfl, st, hst⟩ := hrel
    have HST := Lib.hid hst
    clear hst
    by_cases hlt : q < ll ∧ q < 40
    case neg =>
      have KR := Lib.hid (read_dk HST.out.c k)
      have KD := Lib.hid (fun w' (hb : Below wr.heap.size wr w') => down_dk (HST.out.c.below hb))
      rw [HB5.out] at KD
      rw [HB5.out, show ((k : Int)).toNat = k from rfl, HB3.out, wrongF_in hk] at KR
      have hle : (q : Int) ≤ 40 := by omega
      rcases (by omega : ¬ q < ll ∨ q < ll ∧ q = 40) with hx | ⟨hx, rfl⟩
      · have hd1 : decide ((q : Int) < (ll : Int)) = false := decide_eq_false (by omega)
        clear hlt hle
        go_wp2_with fail
        refine KR.out.mono ?_
        rintro e w5 ⟨u, rfl, ho, hb, _⟩
        rw [if_pos (by rfl)] at ho
        have q1 := txt_conv ho.at w5 (Below.refl _ _)
        have q2 := txt_conv HT.out w5 (below_next HST.out.below hb)
        have HW5 := Lib.hid (below_next HST.out.below hb)
        have KD5 := Lib.hid (KD.out w5 hb)
        clear ho hb KR KD
        go_wp2_with fail
        refine KD5.out.mono ?_
        rintro e w' ⟨rfl, rfl⟩
        go_wp2_with fail
        refine (KO.out _).mono ?_
        rintro e w6 ⟨rfl, hb⟩
        have HW6 := Lib.hid (below_next HW5.out hb)
        clear hb
        go_wp2_with fail
        go_ret
        exact ⟨rfl, HW6.out⟩
      · have hd1 : decide (((40 : Nat) : Int) < (ll : Int)) = true := decide_eq_true (by omega)
        clear hlt hle
        go_wp2_with fail
        refine KR.out.mono ?_
        rintro e w5 ⟨u, rfl, ho, hb, _⟩
        rw [if_pos (by rfl)] at ho
        have q1 := txt_conv ho.at w5 (Below.refl _ _)
        have q2 := txt_conv HT.out w5 (below_next HST.out.below hb)
        have HW5 := Lib.hid (below_next HST.out.below hb)
        have KD5 := Lib.hid (KD.out w5 hb)
        clear ho hb KR KD
        go_wp2_with fail
        refine KD5.out.mono ?_
        rintro e w' ⟨rfl, rfl⟩
        go_wp2_with fail
        refine (KO.out _).mono ?_
        rintro e w6 ⟨rfl, hb⟩
        have HW6 := Lib.hid (below_next HW5.out hb)
        clear hb
        go_wp2_with fail
        go_ret
        exact ⟨rfl, HW6.out⟩
    case pos =>
    obtain ⟨hlt, h40⟩ := hlt
    obtain ⟨b0, off0, rfl, hrow⟩ := HA.out.2 (by omega)
    have hc := hrow q hlt
    clear hrow
    generalize A q = a at hc
    obtain ⟨kd, ff, nn, axs, kp⟩ := a
    obtain ⟨c0, c1, c2, ⟨bad, bc, c3, hbt, hbc, hbp⟩, c4, c5, c6, c7, hnn⟩ := hc
    simp only at c0 c1 c2 c3 hbt hbc hbp c4 c5 c6 c7 hnn
    have hlt0 : b0 < W.heap.size := World.block_lt_of_cell? W _ c0
    have r0 := (HST.out.below.cell (p := ⟨b0, off0 + q * 8, none⟩) hlt0).trans c0
    have r1 := (HST.out.below.cell (p := ⟨b0, off0 + q * 8 + 1, none⟩) hlt0).trans c1
    have r2 := (HST.out.below.cell (p := ⟨b0, off0 + q * 8 + 2, none⟩) hlt0).trans c2
    have r3 := (HST.out.below.cell (p := ⟨b0, off0 + q * 8 + 3, none⟩) hlt0).trans c3
    have r4 := (HST.out.below.cell (p := ⟨b0, off0 + q * 8 + 4, none⟩) hlt0).trans c4
    have r5 := (HST.out.below.cell (p := ⟨b0, off0 + q * 8 + 5, none⟩) hlt0).trans c5
    have r6 := (HST.out.below.cell (p := ⟨b0, off0 + q * 8 + 6, none⟩) hlt0).trans c6
    have r7 := (HST.out.below.cell (p := ⟨b0, off0 + q * 8 + 7, none⟩) hlt0).trans c7
    have hd1 : decide ((q : Int) < (ll : Int)) = true := decide_eq_true (by omega)
    have hd2 : decide ((q : Int) < 40) = true := decide_eq_true (by omega)
    have hw1 : IntKind.i64.wrap ((q : Int) + 1) = (q : Int) + 1 := IntWalk.i64_in _ (by omega)
    have HBT := Lib.hid hbt
    have HNN := Lib.hid hnn
    have HQ := Lib.hid (And.intro hlt (And.intro h40 (And.intro hq40 hql)))
    obtain ⟨bn, hbn⟩ : ∃ bn, axs.length = bn := ⟨_, rfl⟩
    rw [hbn] at r3 HBT
    have HBN := Lib.hid hbn
    have HA1 := Lib.hid (below_alloc (Below.refl _ wr) (.cells #[.int .i64 kd, .int .i64 ff, .int .i64 nn, .slice bad bn bc, .int .i64 (kp 0), .int .i64 (kp 1), .int .i64 (kp 2), .int .i64 (kp 3)] 32))
    have HSTA := Lib.hid (HST.out.next HA1.out)
    clear c0 c1 c2 c3 c4 c5 c6 c7 hbt hnn hq40 hql
    by_cases h200 : 200 < bn
    · have hd3 : decide ((bn : Int) > 200) = true := decide_eq_true (by omega)
      clear hbn hbc hbp
      go_wp2_with fail
      go_roundw
      case rel => exact ⟨q + 1, by have := HQ.out; omega, by have := HQ.out; omega, by go_num, st, HSTA.out⟩
      case measure => have := HQ.out; simp [intOf]; omega
    · have hd3 : decide ((bn : Int) > 200) = false := decide_eq_false (by omega)
      have HBN2 := Lib.hid (show axs.length ≤ 200 by omega)
      clear hbn hbc hbp
      have KR := Lib.hid (read_dk HSTA.out.d k)
      rw [show ((k : Int)).toNat = k from rfl, wrongF_in hk] at KR
      generalize (if st.down = true then (17 : Int) else 0) = ec at KR
      go_wp2_with fail
      refine KR.out.mono ?_
      rintro e w5 ⟨u, rfl, ho, hb, _⟩
      have HST5 := Lib.hid (HSTA.out.next hb)
      have HDB := Lib.hid (HSTA.out.d.bound.below hb)
      obtain ⟨wad, wn, wc, rfl, hwn, hwsp, hwc⟩ := ho.shape2
      have hbx : w5.heap[wr.heap.size]? = some (.cells #[.int .i64 kd, .int .i64 ff, .int .i64 nn, .slice bad bn bc, .int .i64 (kp 0), .int .i64 (kp 1), .int .i64 (kp 2), .int .i64 (kp 3)] 32 (0, 0)) := (hb.block _ (by simp)).trans (World.alloc_heap_new wr _)
      have d0 : w5.cell? ⟨wr.heap.size, 0, none⟩ = some (.int .i64 kd) := cell_of_block hbx rfl
      have d1 : w5.cell? ⟨wr.heap.size, 1, none⟩ = some (.int .i64 ff) := cell_of_block hbx rfl
      have d2 : w5.cell? ⟨wr.heap.size, 2, none⟩ = some (.int .i64 nn) := cell_of_block hbx rfl
      have d3 : w5.cell? ⟨wr.heap.size, 3, none⟩ = some (.slice bad bn bc) := cell_of_block hbx rfl
      have d4 : w5.cell? ⟨wr.heap.size, 4, none⟩ = some (.int .i64 (kp 0)) := cell_of_block hbx rfl
      have d5 : w5.cell? ⟨wr.heap.size, 5, none⟩ = some (.int .i64 (kp 1)) := cell_of_block hbx rfl
      have d6 : w5.cell? ⟨wr.heap.size, 6, none⟩ = some (.int .i64 (kp 2)) := cell_of_block hbx rfl
      have d7 : w5.cell? ⟨wr.heap.size, 7, none⟩ = some (.int .i64 (kp 3)) := cell_of_block hbx rfl
      have HO := Lib.hid ho
      have HWN := Lib.hid hwn
      have HWS := Lib.hid hwsp
      have HWC := Lib.hid hwc
      clear hbx ho hb hwn hwsp hwc KR r0 r1 r2 r3 r4 r5 r6 r7
      rcases (by omega : kd = 0 ∨ kd = 1 ∨ kd = 2 ∨ kd = 3 ∨ kd = 4 ∨ (¬ kd = 0 ∧ ¬ kd = 1 ∧ ¬ kd = 2 ∧ ¬ kd = 3 ∧ ¬ kd = 4)) with rfl | rfl | rfl | rfl | rfl | ⟨k0, k1, k2, k3, k4⟩
      · go_wp2_with fail
        refine (append_dk HST5.out.d ff bad bn bc axs HBN.out.symm (fun w' hf => HBT.out.low HST5.out.below (Nat.le_refl _) (fun j hj => hj.1) hf) (by have := HBN2.out; omega)).mono ?_
        rintro e w6 ⟨rfl, hd, hf⟩
        have HST6 := Lib.hid (HST5.out.step hd hf (keeps_call0 HST5.out.keeps (HST5.out.d.safe k hk) ff axs))
        generalize (callF 0 st ff axs).2 = res
        generalize (callF 0 st ff axs).1 = st6 at HST6
        clear hd hf
        clear d0 d1 d2 d3 d4 d5 d6 d7
        have KS := Lib.hid (safe_dk HST6.out.d k)
        rw [show ((k : Int)).toNat = k from rfl, safeF_in hk] at KS
        go_wp2_with fail
        refine KS.out.mono ?_
        rintro e w8 ⟨u3, rfl, ho3, hb3, _⟩
        rw [if_pos rfl] at ho3
        have HST8 := Lib.hid (HST6.out.next hb3)
        obtain ⟨sad, sn, sc, rfl, hsn, hssp, hsc⟩ := ho3.shape2
        have hle : n ≤ sn := by rw [HN.out, hsn]; exact keeps_len HST6.out.keeps
        have hsl := slice_to hssp (Nat.le_trans hle hsc)
        have p1 := txt_conv (OwnTxt.at (ho3.take (k := n) (by omega))) w8.drew (Below.drew (Below.refl _ _))
        rw [show ((st6.b k).take (st6.s k)).take n = ys by rw [HN.out]; exact keeps_take HST6.out.keeps] at p1
        have p2 := txt_conv HT.out w8.drew HST8.out.below.drew
        have hd9 : ¬ sn < n := by omega
        clear ho3 hb3 hssp hsc hsn hle KS
        go_wp2_with fail
        refine wp_region_grow (fun w' => w' = w8.drew) hmx (by kernel_rfl) rfl ?_
        iterate 19 (refine textS_run ?_ ?_ (fun W hS => ?_) ?_; rotate_left; (focus go_simp); (focus (subst hS; go_simp; all_goals (first | exact ⟨rfl, rfl⟩ | rfl | (refine ⟨?_, rfl⟩; rfl)))); (try go_simp))
        refine textS_nil ?_
        go_wp2_with fail
        go_roundw
        case rel => exact ⟨q + 1, by have := HQ.out; omega, by have := HQ.out; omega, by go_num, _, HST8.out.next (Below.drew (Below.refl _ _))⟩
        case measure => have := HQ.out; simp [intOf]; omega
      · go_wp2_with fail
        refine (sync_dk HST5.out.d ff).mono ?_
        rintro e w6 ⟨rfl, hd, hf⟩
        have HST6 := Lib.hid (HST5.out.step hd hf (keeps_call1 HST5.out.keeps ff))
        generalize (callF 1 st ff []).2 = res
        generalize (callF 1 st ff []).1 = st6 at HST6
        clear hd hf
        clear d0 d1 d2 d3 d4 d5 d6 d7
        have KS := Lib.hid (safe_dk HST6.out.d k)
        rw [show ((k : Int)).toNat = k from rfl, safeF_in hk] at KS
        go_wp2_with fail
        refine KS.out.mono ?_
        rintro e w8 ⟨u3, rfl, ho3, hb3, _⟩
        rw [if_pos rfl] at ho3
        have HST8 := Lib.hid (HST6.out.next hb3)
        obtain ⟨sad, sn, sc, rfl, hsn, hssp, hsc⟩ := ho3.shape2
        have hle : n ≤ sn := by rw [HN.out, hsn]; exact keeps_len HST6.out.keeps
        have hsl := slice_to hssp (Nat.le_trans hle hsc)
        have p1 := txt_conv (OwnTxt.at (ho3.take (k := n) (by omega))) w8.drew (Below.drew (Below.refl _ _))
        rw [show ((st6.b k).take (st6.s k)).take n = ys by rw [HN.out]; exact keeps_take HST6.out.keeps] at p1
        have p2 := txt_conv HT.out w8.drew HST8.out.below.drew
        have hd9 : ¬ sn < n := by omega
        clear ho3 hb3 hssp hsc hsn hle KS
        go_wp2_with fail
        refine wp_region_grow (fun w' => w' = w8.drew) hmx (by kernel_rfl) rfl ?_
        iterate 19 (refine textS_run ?_ ?_ (fun W hS => ?_) ?_; rotate_left; (focus go_simp); (focus (subst hS; go_simp; all_goals (first | exact ⟨rfl, rfl⟩ | rfl | (refine ⟨?_, rfl⟩; rfl)))); (try go_simp))
        refine textS_nil ?_
        go_wp2_with fail
        go_roundw
        case rel => exact ⟨q + 1, by have := HQ.out; omega, by have := HQ.out; omega, by go_num, _, HST8.out.next (Below.drew (Below.refl _ _))⟩
        case measure => have := HQ.out; simp [intOf]; omega
      · by_cases hfk : ff = (k : Int)
        · subst hfk
          go_wp2_with fail
          have KS := Lib.hid (safe_dk HST5.out.d k)
          rw [show ((k : Int)).toNat = k from rfl, safeF_in hk] at KS
          go_wp2_with fail
          refine KS.out.mono ?_
          rintro e w8 ⟨u3, rfl, ho3, hb3, _⟩
          rw [if_pos rfl] at ho3
          have HST8 := Lib.hid (HST5.out.next hb3)
          obtain ⟨sad, sn, sc, rfl, hsn, hssp, hsc⟩ := ho3.shape2
          have hle : n ≤ sn := by rw [HN.out, hsn]; exact keeps_len HST5.out.keeps
          have hsl := slice_to hssp (Nat.le_trans hle hsc)
          have p1 := txt_conv (OwnTxt.at (ho3.take (k := n) (by omega))) w8.drew (Below.drew (Below.refl _ _))
          rw [show ((st.b k).take (st.s k)).take n = ys by rw [HN.out]; exact keeps_take HST5.out.keeps] at p1
          have p2 := txt_conv HT.out w8.drew HST8.out.below.drew
          have hd9 : ¬ sn < n := by omega
          clear ho3 hb3 hssp hsc hsn hle KS
          go_wp2_with fail
          refine wp_region_grow (fun w' => w' = w8.drew) hmx (by kernel_rfl) rfl ?_
          iterate 19 (refine textS_run ?_ ?_ (fun W hS => ?_) ?_; rotate_left; (focus go_simp); (focus (subst hS; go_simp; all_goals (first | exact ⟨rfl, rfl⟩ | rfl | (refine ⟨?_, rfl⟩; rfl)))); (try go_simp))
          refine textS_nil ?_
          go_wp2_with fail
          go_roundw
          case rel => exact ⟨q + 1, by have := HQ.out; omega, by have := HQ.out; omega, by go_num, _, HST8.out.next (Below.drew (Below.refl _ _))⟩
          case measure => have := HQ.out; simp [intOf]; omega
        · go_wp2_with fail
          refine (reset_dk HST5.out.d ff).mono ?_
          rintro e w6 ⟨rfl, hd, hf⟩
          have HST6 := Lib.hid (HST5.out.step hd hf (keeps_call2 HST5.out.keeps ff hfk))
          generalize (callF 2 st ff []).2 = res
          generalize (callF 2 st ff []).1 = st6 at HST6
          clear hd hf
          clear d0 d1 d2 d3 d4 d5 d6 d7
          have KS := Lib.hid (safe_dk HST6.out.d k)
          rw [show ((k : Int)).toNat = k from rfl, safeF_in hk] at KS
          go_wp2_with fail
          refine KS.out.mono ?_
          rintro e w8 ⟨u3, rfl, ho3, hb3, _⟩
          rw [if_pos rfl] at ho3
          have HST8 := Lib.hid (HST6.out.next hb3)
          obtain ⟨sad, sn, sc, rfl, hsn, hssp, hsc⟩ := ho3.shape2
          have hle : n ≤ sn := by rw [HN.out, hsn]; exact keeps_len HST6.out.keeps
          have hsl := slice_to hssp (Nat.le_trans hle hsc)
          have p1 := txt_conv (OwnTxt.at (ho3.take (k := n) (by omega))) w8.drew (Below.drew (Below.refl _ _))
          rw [show ((st6.b k).take (st6.s k)).take n = ys by rw [HN.out]; exact keeps_take HST6.out.keeps] at p1
          have p2 := txt_conv HT.out w8.drew HST8.out.below.drew
          have hd9 : ¬ sn < n := by omega
          clear ho3 hb3 hssp hsc hsn hle KS
          go_wp2_with fail
          refine wp_region_grow (fun w' => w' = w8.drew) hmx (by kernel_rfl) rfl ?_
          iterate 19 (refine textS_run ?_ ?_ (fun W hS => ?_) ?_; rotate_left; (focus go_simp); (focus (subst hS; go_simp; all_goals (first | exact ⟨rfl, rfl⟩ | rfl | (refine ⟨?_, rfl⟩; rfl)))); (try go_simp))
          refine textS_nil ?_
          go_wp2_with fail
          go_roundw
          case rel => exact ⟨q + 1, by have := HQ.out; omega, by have := HQ.out; omega, by go_num, _, HST8.out.next (Below.drew (Below.refl _ _))⟩
          case measure => have := HQ.out; simp [intOf]; omega
      · go_wp2_with fail
        refine (arm_dk HST5.out.d nn HNN.out).mono ?_
        rintro e w6 ⟨rfl, hd, hf⟩
        have HST6 := Lib.hid (HST5.out.step' hd hf HST5.out.keeps)
        generalize hst6 : ({ st with left := max nn (-1) } : DS) = st6 at HST6
        clear hd hf hst6
        clear d0 d1 d2 d3 d4 d5 d6 d7
        have KS := Lib.hid (safe_dk HST6.out.d k)
        rw [show ((k : Int)).toNat = k from rfl, safeF_in hk] at KS
        go_wp2_with fail
        refine KS.out.mono ?_
        rintro e w8 ⟨u3, rfl, ho3, hb3, _⟩
        rw [if_pos rfl] at ho3
        have HST8 := Lib.hid (HST6.out.next hb3)
        obtain ⟨sad, sn, sc, rfl, hsn, hssp, hsc⟩ := ho3.shape2
        have hle : n ≤ sn := by rw [HN.out, hsn]; exact keeps_len HST6.out.keeps
        have hsl := slice_to hssp (Nat.le_trans hle hsc)
        have p1 := txt_conv (OwnTxt.at (ho3.take (k := n) (by omega))) w8.drew (Below.drew (Below.refl _ _))
        rw [show ((st6.b k).take (st6.s k)).take n = ys by rw [HN.out]; exact keeps_take HST6.out.keeps] at p1
        have p2 := txt_conv HT.out w8.drew HST8.out.below.drew
        have hd9 : ¬ sn < n := by omega
        clear ho3 hb3 hssp hsc hsn hle KS
        go_wp2_with fail
        refine wp_region_grow (fun w' => w' = w8.drew) hmx (by kernel_rfl) rfl ?_
        iterate 19 (refine textS_run ?_ ?_ (fun W hS => ?_) ?_; rotate_left; (focus go_simp); (focus (subst hS; go_simp; all_goals (first | exact ⟨rfl, rfl⟩ | rfl | (refine ⟨?_, rfl⟩; rfl)))); (try go_simp))
        refine textS_nil ?_
        go_wp2_with fail
        go_roundw
        case rel => exact ⟨q + 1, by have := HQ.out; omega, by have := HQ.out; omega, by go_num, _, HST8.out.next (Below.drew (Below.refl _ _))⟩
        case measure => have := HQ.out; simp [intOf]; omega
      · go_wp2_with fail
        refine (fall_dk HDB.out kp).mono ?_
        rintro e w6 ⟨rfl, hd, hf⟩
        have HST6 := Lib.hid (HST5.out.step' (hd.more fun j hj => hj.1) (hf.mono fun j hj => hj.1) (keeps_fall HST5.out.keeps hk kp))
        have HF6 := Lib.hid hf
        clear hd hf d0 d1 d2 d3 d4 d5 d6 d7
        have KR2 := Lib.hid (read_dk HST6.out.d k)
        rw [show ((k : Int)).toNat = k from rfl, wrongF_in hk, show (fallF st kp).down = false from rfl, fallF_b st kp hk] at KR2
        go_wp2_with fail
        refine KR2.out.mono ?_
        rintro e w7 ⟨u2, rfl, ho2, hb2, _⟩
        rw [if_pos (by rfl)] at ho2
        have HST7 := Lib.hid (HST6.out.next hb2)
        obtain ⟨vad, vn, vc, rfl, hvn, hvsp, hvc⟩ := ho2.shape2
        have HO2 := Lib.hid ho2
        have HVN := Lib.hid hvn
        have HB7 := Lib.hid hb2
        clear ho2 hvn hvsp hvc hb2 KR2
        generalize hst6 : fallF st kp = st6 at HST7
        clear hst6
        by_cases hec : ec = 0
        · subst hec
          have ho := HO.out
          rw [if_pos rfl] at ho
          have hwn := HWN.out
          rw [if_pos rfl] at hwn
          have hpre : ((st.b k).take (fallS st kp k)) <+: st.b k := List.take_prefix _ _
          have hvw : ¬ wn < vn := by have h1 := hpre.length_le; have h2 := HVN.out; omega
          have hsl := slice_to HWS.out (show vn ≤ wc by have := HWC.out; omega)
          have hee : (st.b k).take vn = (st.b k).take (fallS st kp k) := by rw [HVN.out]; exact (List.prefix_iff_eq_take.1 hpre).symm
          have ht1 : TxtAt w7 (.slice wad vn wc) ((st.b k).take vn) := ((OwnTxt.at (ho.take (k := vn) (by omega))).of_fr HF6.out (fun b off n' c' e hn hl hg => by
            have hge := ho.blockGe (g := b) (by cases e; rfl)
            have := hg.2
            omega)).below HB7.out
          rw [hee] at ht1
          have p1 := txt_conv ht1 w7.drew (Below.drew (Below.refl _ _))
          have p2 := txt_conv HO2.out.at w7.drew (Below.drew (Below.refl _ _))
          clear ho hwn hpre ht1 hee
          go_wp2_with fail
          refine wp_region_grow (fun w' => w' = w7.drew) hmx (by kernel_rfl) rfl ?_
          iterate 23 (refine textS_run ?_ ?_ (fun W hS => ?_) ?_; rotate_left; (focus go_simp); (focus (subst hS; go_simp; all_goals (first | exact ⟨rfl, rfl⟩ | rfl | (refine ⟨?_, rfl⟩; rfl)))); (try go_simp))
          refine textS_nil ?_
          have HST9 := Lib.hid (HST7.out.next (Below.drew (Below.refl _ _)))
          clear p1 p2 hsl
          have KS := Lib.hid (safe_dk HST9.out.d k)
          rw [show ((k : Int)).toNat = k from rfl, safeF_in hk] at KS
          go_wp2_with fail
          refine KS.out.mono ?_
          rintro e w8 ⟨u3, rfl, ho3, hb3, _⟩
          rw [if_pos rfl] at ho3
          have HST8 := Lib.hid (HST9.out.next hb3)
          obtain ⟨sad, sn, sc, rfl, hsn, hssp, hsc⟩ := ho3.shape2
          have hle : n ≤ sn := by rw [HN.out, hsn]; exact keeps_len HST9.out.keeps
          have hsl := slice_to hssp (Nat.le_trans hle hsc)
          have p1 := txt_conv (OwnTxt.at (ho3.take (k := n) (by omega))) w8.drew (Below.drew (Below.refl _ _))
          rw [show ((st6.b k).take (st6.s k)).take n = ys by rw [HN.out]; exact keeps_take HST9.out.keeps] at p1
          have p2 := txt_conv HT.out w8.drew HST8.out.below.drew
          have hd9 : ¬ sn < n := by omega
          clear ho3 hb3 hssp hsc hsn hle KS
          go_wp2_with fail
          refine wp_region_grow (fun w' => w' = w8.drew) hmx (by kernel_rfl) rfl ?_
          iterate 19 (refine textS_run ?_ ?_ (fun W hS => ?_) ?_; rotate_left; (focus go_simp); (focus (subst hS; go_simp; all_goals (first | exact ⟨rfl, rfl⟩ | rfl | (refine ⟨?_, rfl⟩; rfl)))); (try go_simp))
          refine textS_nil ?_
          go_wp2_with fail
          go_roundw
          case rel => exact ⟨q + 1, by have := HQ.out; omega, by have := HQ.out; omega, by go_num, _, HST8.out.next (Below.drew (Below.refl _ _))⟩
          case measure => have := HQ.out; simp [intOf]; omega
        · have hec2 : (ec == 0) = false := by simpa using hec
          go_wp2_with fail
          refine wp_region_grow (fun w' => w' = w7.drew) hmx (by kernel_rfl) rfl ?_
          iterate 6 (refine textS_run ?_ ?_ (fun W hS => ?_) ?_; rotate_left; (focus go_simp); (focus (subst hS; go_simp; all_goals (first | exact ⟨rfl, rfl⟩ | rfl | (refine ⟨?_, rfl⟩; rfl)))); (try go_simp))
          iterate 15 (refine textS_skip ?_ ?_; (focus (first | rfl | (go_simp; done) | (go_simp; rfl))); (try go_simp))
          iterate 2 (refine textS_run ?_ ?_ (fun W hS => ?_) ?_; rotate_left; (focus go_simp); (focus (subst hS; go_simp; all_goals (first | exact ⟨rfl, rfl⟩ | rfl | (refine ⟨?_, rfl⟩; rfl)))); (try go_simp))
          refine textS_nil ?_
          have HST9 := Lib.hid (HST7.out.next (Below.drew (Below.refl _ _)))
          have KS := Lib.hid (safe_dk HST9.out.d k)
          rw [show ((k : Int)).toNat = k from rfl, safeF_in hk] at KS
          go_wp2_with fail
          refine KS.out.mono ?_
          rintro e w8 ⟨u3, rfl, ho3, hb3, _⟩
          rw [if_pos rfl] at ho3
          have HST8 := Lib.hid (HST9.out.next hb3)
          obtain ⟨sad, sn, sc, rfl, hsn, hssp, hsc⟩ := ho3.shape2
          have hle : n ≤ sn := by rw [HN.out, hsn]; exact keeps_len HST9.out.keeps
          have hsl := slice_to hssp (Nat.le_trans hle hsc)
          have p1 := txt_conv (OwnTxt.at (ho3.take (k := n) (by omega))) w8.drew (Below.drew (Below.refl _ _))
          rw [show ((st6.b k).take (st6.s k)).take n = ys by rw [HN.out]; exact keeps_take HST9.out.keeps] at p1
          have p2 := txt_conv HT.out w8.drew HST8.out.below.drew
          have hd9 : ¬ sn < n := by omega
          clear ho3 hb3 hssp hsc hsn hle KS
          go_wp2_with fail
          refine wp_region_grow (fun w' => w' = w8.drew) hmx (by kernel_rfl) rfl ?_
          iterate 19 (refine textS_run ?_ ?_ (fun W hS => ?_) ?_; rotate_left; (focus go_simp); (focus (subst hS; go_simp; all_goals (first | exact ⟨rfl, rfl⟩ | rfl | (refine ⟨?_, rfl⟩; rfl)))); (try go_simp))
          refine textS_nil ?_
          go_wp2_with fail
          go_roundw
          case rel => exact ⟨q + 1, by have := HQ.out; omega, by have := HQ.out; omega, by go_num, _, HST8.out.next (Below.drew (Below.refl _ _))⟩
          case measure => have := HQ.out; simp [intOf]; omega
      · go_wp2_with fail
        have KS := Lib.hid (safe_dk HST5.out.d k)
        rw [show ((k : Int)).toNat = k from rfl, safeF_in hk] at KS
        go_wp2_with fail
        refine KS.out.mono ?_
        rintro e w8 ⟨u3, rfl, ho3, hb3, _⟩
        rw [if_pos rfl] at ho3
        have HST8 := Lib.hid (HST5.out.next hb3)
        obtain ⟨sad, sn, sc, rfl, hsn, hssp, hsc⟩ := ho3.shape2
        have hle : n ≤ sn := by rw [HN.out, hsn]; exact keeps_len HST5.out.keeps
        have hsl := slice_to hssp (Nat.le_trans hle hsc)
        have p1 := txt_conv (OwnTxt.at (ho3.take (k := n) (by omega))) w8.drew (Below.drew (Below.refl _ _))
        rw [show ((st.b k).take (st.s k)).take n = ys by rw [HN.out]; exact keeps_take HST5.out.keeps] at p1
        have p2 := txt_conv HT.out w8.drew HST8.out.below.drew
        have hd9 : ¬ sn < n := by omega
        clear ho3 hb3 hssp hsc hsn hle KS
        go_wp2_with fail
        refine wp_region_grow (fun w' => w' = w8.drew) hmx (by kernel_rfl) rfl ?_
        iterate 19 (refine textS_run ?_ ?_ (fun W hS => ?_) ?_; rotate_left; (focus go_simp); (focus (subst hS; go_simp; all_goals (first | exact ⟨rfl, rfl⟩ | rfl | (refine ⟨?_, rfl⟩; rfl)))); (try go_simp))
        refine textS_nil ?_
        go_wp2_with fail
        go_roundw
        case rel => exact ⟨q + 1, by have := HQ.out; omega, by have := HQ.out; omega, by go_num, _, HST8.out.next (Below.drew (Below.refl _ _))⟩
        case measure => have := HQ.out; simp [intOf]; omega
end Go.Proofs.Ytgjhhmdkechfmaa
