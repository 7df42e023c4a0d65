/- The walk of HealthFar, where the names are laid. -/
import Derived.Test.YtcmmfpfdjhfdaaaDoorHealthF
namespace Go.Proofs.YtcmmfpfdjhfdaaaDoor
set_option linter.unusedVariables false
open Go.ChangeShapes Go.WideShapes Go.ChangeAt Go.RowKit
attribute [local go_sem ↓] Go.wp_at_zero Go.wp_at_succ comesTo_value_eq comesTo_skip_eq comesTo_enter_eq

theorem next_20 (S D P : Int) : nextI 2 0 0 S D P 0 = (2, 0, 0) := by unfold nextI beatI; split <;> simp
theorem next_22 {S D P : Int} (h : rightR S D P = true) : nextI 2 0 0 S D P 2 = (4, 0, 0) := by
  unfold nextI
  rw [if_pos ⟨h, by unfold rightN; simp⟩]
  unfold fromI
  simp
set_option maxRecDepth 100000 in
set_option maxHeartbeats 16000000 in
theorem far_walk (S D P : Int) (a : Option Addr) (cap : Nat) (zs : List Int) (w : World) (hz : IntsAt w a zs) (hN : NamesAt w) :
    Calls Tryd.prog 4 #[.agg #[.int .i64 S, .int .i64 D, .int .i64 P], .slice a zs.length cap] w fun e w' => e = .returned (.bool true) ∧ Below w.heap.size w w' := by
  have HN := Lib.hid hN
  clear hN
  have hlen := hz.1
  have HZ := Lib.hid hz
  clear hz
  have kR := Lib.hid (fun W => rightR_any S D P W)
  cases e1 : rightR S D P with
  | false =>
    rw [e1] at kR
    clear e1
    go_enter Tryd.func4, Tryd.ntmps4
    go_wp2_with fail
    refine (kR.out _).mono ?_
    rintro e w1 ⟨rfl, hb1⟩
    have hx := Lib.hid (show Below w.heap.size w w1 from Below.trans (by exact (by repeat (first | exact Below.refl _ _ | assumption | refine below_drewN ?_ _ | refine Below.drew ?_ | refine below_alloc ?_ _ | refine Below.alloc ?_ (by first | omega | (simp; done) | (simp; omega)) _ | refine Below.setCell ?_ (Below.size (by assumption)) _ | refine Below.setCell ?_ (by first | omega | (simp; done) | (simp; omega)) _ | (refine Below.trans ?_ (Below.mono (by assumption) (by first | omega | (simp; done) | (simp; omega)))) | refine below_next ?_ (by assumption)))) (hb1.mono (by simp)))
    clear hb1
    go_wp2_with (go_at_call 8; refine (one_any _ (HN.out.below hx.out)).mono ?_; rintro e w2 ⟨rfl, hb2⟩)
    go_ret
    exact ⟨rfl, below_next hx.out hb2⟩
  | true =>
    rw [e1] at kR
    have hP := e1
    unfold rightR at hP
    simp only [decide_eq_true_eq] at hP
    obtain ⟨hP0, hP1, hP2, hP3, hP4⟩ := hP
    have E1 := Lib.hid e1
    clear e1
    by_cases hsk : 40 < D ∨ 40 < P
    · have hsk' : 40 < D ∨ (¬ 40 < D ∧ 40 < P) := by omega
      clear hsk
      rcases hsk' with h | ⟨h', h⟩
      all_goals
        go_enter Tryd.func4, Tryd.ntmps4
        go_wp2_with fail
        generalize hW : w.alloc (.cells #[.int .i64 S, .int .i64 D, .int .i64 P] 28) = W0
        have c0 : W0.cell? ⟨w.heap.size, 0, none⟩ = some (.int .i64 S) := by subst hW; go_simp
        have c1 : W0.cell? ⟨w.heap.size, 1, none⟩ = some (.int .i64 D) := by subst hW; go_simp
        have c2 : W0.cell? ⟨w.heap.size, 2, none⟩ = some (.int .i64 P) := by subst hW; go_simp
        have hx0 := Lib.hid (show Below w.heap.size w W0 by rw [← hW]; exact (by repeat (first | exact Below.refl _ _ | assumption | refine below_drewN ?_ _ | refine Below.drew ?_ | refine below_alloc ?_ _ | refine Below.alloc ?_ (by first | omega | (simp; done) | (simp; omega)) _ | refine Below.setCell ?_ (Below.size (by assumption)) _ | refine Below.setCell ?_ (by first | omega | (simp; done) | (simp; omega)) _ | (refine Below.trans ?_ (Below.mono (by assumption) (by first | omega | (simp; done) | (simp; omega)))) | refine below_next ?_ (by assumption))))
        clear hW
        have l0 : w.heap.size < W0.heap.size := World.block_lt_of_cell? _ _ c0
        refine (kR.out _).mono ?_
        rintro e w1 ⟨rfl, hb1⟩
        obtain ⟨hc, hf⟩ := bcell hb1
        replace c0 := (hc _ 0 l0).trans c0
        replace c1 := (hc _ 1 l0).trans c1
        replace c2 := (hc _ 2 l0).trans c2
        have hx1 := Lib.hid (below_next hx0.out hb1)
        clear hc hf hb1 hx0 l0
        go_wp2_with (go_at_call 8; refine (one_any _ (HN.out.below hx1.out)).mono ?_; rintro e w2 ⟨rfl, hb2⟩)
        go_ret
        exact ⟨rfl, below_next hx1.out hb2⟩
    · have hD40 : D ≤ 40 := by omega
      have hP40 : P ≤ 40 := by omega
      clear hsk
      have kN := Lib.hid (fun (x y z : Int) (h : rightN x y z S D P = true) (W : World) => (show Calls Tryd.prog 10 #[.agg #[.int .i64 x, .int .i64 y, .int .i64 z], .agg #[.int .i64 S, .int .i64 D, .int .i64 P]] W fun e w' => e = .returned (.bool true) ∧ Below W.heap.size W w' from h ▸ rightN_any x y z S D P W))
      have kX := Lib.hid (fun (x y z k : Int) (W : World) => next_any x y z S D P k W)
      go_enter Tryd.func4, Tryd.ntmps4
      go_wp2_with fail
      generalize hW : w.alloc (.cells #[.int .i64 S, .int .i64 D, .int .i64 P] 28) = W0
      have c0 : W0.cell? ⟨w.heap.size, 0, none⟩ = some (.int .i64 S) := by subst hW; go_simp
      have c1 : W0.cell? ⟨w.heap.size, 1, none⟩ = some (.int .i64 D) := by subst hW; go_simp
      have c2 : W0.cell? ⟨w.heap.size, 2, none⟩ = some (.int .i64 P) := by subst hW; go_simp
      have hx0 := Lib.hid (show Below w.heap.size w W0 by rw [← hW]; exact (by repeat (first | exact Below.refl _ _ | assumption | refine below_drewN ?_ _ | refine Below.drew ?_ | refine below_alloc ?_ _ | refine Below.alloc ?_ (by first | omega | (simp; done) | (simp; omega)) _ | refine Below.setCell ?_ (Below.size (by assumption)) _ | refine Below.setCell ?_ (by first | omega | (simp; done) | (simp; omega)) _ | (refine Below.trans ?_ (Below.mono (by assumption) (by first | omega | (simp; done) | (simp; omega)))) | refine below_next ?_ (by assumption))))
      clear hW
      have l0 : w.heap.size < W0.heap.size := World.block_lt_of_cell? _ _ c0
      refine (kR.out _).mono ?_
      rintro e w1 ⟨rfl, hb1⟩
      obtain ⟨hc, hf⟩ := bcell hb1
      replace c0 := (hc _ 0 l0).trans c0
      replace c1 := (hc _ 1 l0).trans c1
      replace c2 := (hc _ 2 l0).trans c2
      have hx1 := Lib.hid (below_next hx0.out hb1)
      replace l0 : w.heap.size < w1.heap.size := Nat.lt_of_lt_of_le l0 hb1.size
      clear hc hf hb1 hx0
      go_wp2_with fail
      clear W0
      generalize hW : w1.alloc (.cells #[.int .i64 0, .int .i64 0, .int .i64 0] 31) = W2
      have hgq : w.heap.size ≠ w1.heap.size := by omega
      have hq : w.heap.size ≤ w1.heap.size := by omega
      have hT : TellsAt w w.heap.size w1.heap.size S D P 0 0 0 W2 := ⟨by subst hW; go_simp, by subst hW; go_simp, by subst hW; go_simp, by subst hW; go_simp, by subst hW; go_simp, by subst hW; go_simp, by subst hW; go_simp, by subst hW; go_simp, by subst hW; go_simp, by rw [← hW]; exact hx1.out.alloc hx1.out.size _⟩
      have HT := Lib.hid hT
      clear hT hW c0 c1 c2 hx1 l0
      generalize w1.heap.size = q at *
      clear w1
      have HGQ := Lib.hid hgq
      have HQ := Lib.hid hq
      clear hgq hq
      go_loopw [6] (fun i wr => ∃ j : Nat, j ≤ D.toNat ∧ i = .int .i64 j ∧ TellsAt w w.heap.size q S D P (farN S D j).1 (farN S D j).2.1 (farN S D j).2.2 wr) (fun i _ => D.toNat - (intOf i).toNat)
      case atStart => exact ⟨0, Nat.zero_le _, rfl, by rw [show farN S D 0 = (0, 0, 0) by unfold farN; rw [if_pos (by simp; omega)]; rfl]; exact HT.out⟩
      case round =>
        obtain ⟨j, hj, rfl, hr⟩ := hrel
        clear HT
        by_cases hlt : j < D.toNat
        · have hltD : (j : Int) < D := by omega
          have hY := Lib.hid (farN_step E1.out j hltD)
          have hRj := farN_right E1.out j
          have HRj := Lib.hid hRj
          clear hRj hj hlt
          have hcase : (farN S D j = (0, (j : Int), 0) ∧ (j : Int) < S) ∨ (farN S D j = (1, (j : Int), 0) ∧ S ≤ (j : Int)) := by
            unfold farN
            by_cases h : (j : Int) < S
            · exact .inl ⟨by rw [if_pos h], h⟩
            · exact .inr ⟨by rw [if_neg h, if_pos hltD], by omega⟩
          rcases hcase with ⟨hX, hS⟩ | ⟨hX, hS⟩
          all_goals
            have hy := hY.out
            have hrj := HRj.out
            rw [hX] at hr hy hrj
            have HN1 := Lib.hid (fun W => kN.out _ _ _ hrj W)
            obtain ⟨Y1, Y2, Y3, hYe⟩ : ∃ Y1 Y2 Y3, farN S D (j + 1) = (Y1, Y2, Y3) := ⟨_, _, _, rfl⟩
            have HB := Lib.hid (fun W => next_is (S := S) (D := D) (P := P) Y1 Y2 Y3 (hy.trans hYe) W)
            have HY := Lib.hid hYe
            have HR := Lib.hid hr
            obtain ⟨c0, c1, c2, d0, d1, d2, f0, f1, f2, hx⟩ := hr
            clear hy hrj hYe hX hY HRj f0 f1 f2 hx
            go_wp2_with fail
            refine (HN1.out _).mono ?_
            rintro e w4 ⟨rfl, hb4⟩
            have HR4 := Lib.hid (HR.out.below hb4)
            clear c0 c1 c2 d0 d1 d2 HR hb4
            have hr := HR4.out
            obtain ⟨c0, c1, c2, d0, d1, d2, f0, f1, f2, hx⟩ := hr
            clear f0 f1 f2 hx
            go_wp2_with fail
            refine (HB.out _).mono ?_
            rintro e w5 ⟨rfl, hb5⟩
            have HR5 := Lib.hid (HR4.out.below hb5)
            clear c0 c1 c2 d0 d1 d2 HR4 hb5
            have hr := HR5.out
            obtain ⟨c0, c1, c2, d0, d1, d2, f0, f1, f2, hx⟩ := hr
            clear hx
            go_wp2_with fail
            go_roundw
            case rel => exact ⟨j + 1, by omega, by go_num, by rw [HY.out]; exact HR5.out.store HGQ.out HQ.out Y1 Y2 Y3⟩
            case measure => simp [intOf]; omega
        · have hjD : j = D.toNat := by omega
          have hge : D ≤ (j : Int) := by omega
          have hX : farN S D j = (2, 0, 0) := by unfold farN; rw [if_neg (by omega), if_neg (by omega)]
          rw [hX] at hr
          clear hjD hlt hj hX
          have HR := Lib.hid hr
          obtain ⟨c0, c1, c2, d0, d1, d2, f0, f1, f2, hx⟩ := hr
          have k20 := Lib.hid (fun W => next_is (t := 2) (m := 0) (b := 0) (S := S) (D := D) (P := P) (k := 0) 2 0 0 (next_20 S D P) W)
          have k22 := Lib.hid (fun W => next_is (t := 2) (m := 0) (b := 0) (S := S) (D := D) (P := P) (k := 2) 4 0 0 (next_22 E1.out) W)
          clear f0 f1 f2 hx
          go_wp2_with fail
          have lq := World.block_lt_of_cell? _ _ d0
          have lg := World.block_lt_of_cell? _ _ c0
          refine wp_region_boxes wr (by kernel_rfl) (by kernel_rfl) (Below.refl _ _) ?_
          (refine textB_det ?_ rfl rfl ?_ (fun W hS => ?_) ?_; rotate_left; (focus go_simp); (focus (obtain ⟨hc, hf⟩ := bcell hS; go_simp; first | (refine ⟨?_, Below.refl _ _⟩; rfl) | rfl | exact Below.refl _ _)); (try go_simp))
          (refine textB_det ?_ rfl rfl ?_ (fun W hS => ?_) ?_; rotate_left; (focus go_simp); (focus (obtain ⟨hc, hf⟩ := bcell hS; go_simp; first | (refine ⟨?_, Below.refl _ _⟩; rfl) | rfl | exact Below.refl _ _)); (try go_simp))
          (refine textB_det ?_ rfl rfl ?_ (fun W hS => ?_) ?_; rotate_left; (focus go_simp); (focus (obtain ⟨hc, hf⟩ := bcell hS; go_simp; first | (refine ⟨?_, Below.refl _ _⟩; rfl) | rfl | exact Below.refl _ _)); (try go_simp))
          (refine textB_det ?_ rfl rfl ?_ (fun W hS => ?_) ?_; rotate_left; (focus go_simp); (focus (obtain ⟨hc, hf⟩ := bcell hS; go_simp; first | (refine ⟨?_, Below.refl _ _⟩; rfl) | rfl | exact Below.refl _ _)); (try go_simp))
          (refine textB_det ?_ rfl rfl ?_ (fun W hS => ?_) ?_; rotate_left; (focus go_simp); (focus (obtain ⟨hc, hf⟩ := bcell hS; go_simp; first | (refine ⟨?_, Below.refl _ _⟩; rfl) | rfl | exact Below.refl _ _)); (try go_simp))
          (refine textB_det ?_ rfl rfl ?_ (fun W hS => ?_) ?_; rotate_left; (focus go_simp); (focus (obtain ⟨hc, hf⟩ := bcell hS; go_simp; first | (refine ⟨?_, Below.refl _ _⟩; rfl) | rfl | exact Below.refl _ _)); (try go_simp))
          (refine textB_det ?_ rfl rfl ?_ (fun W hS => ?_) ?_; rotate_left; (focus go_simp); (focus (obtain ⟨hc, hf⟩ := bcell hS; go_simp; refine (k20.out _).mono ?_; rintro e w1 ⟨rfl, hb⟩; refine ⟨?_, hb⟩; rfl)); (try go_simp))
          (refine textB_det ?_ rfl rfl ?_ (fun W hS => ?_) ?_; rotate_left; (focus go_simp); (focus (obtain ⟨hc, hf⟩ := bcell hS; go_simp; first | (refine ⟨?_, Below.refl _ _⟩; rfl) | rfl | exact Below.refl _ _)); (try go_simp))
          (refine textB_det ?_ rfl rfl ?_ (fun W hS => ?_) ?_; rotate_left; (focus go_simp); (focus (obtain ⟨hc, hf⟩ := bcell hS; go_simp; first | (refine ⟨?_, Below.refl _ _⟩; rfl) | rfl | exact Below.refl _ _)); (try go_simp))
          (refine textB_det ?_ rfl rfl ?_ (fun W hS => ?_) ?_; rotate_left; (focus go_simp); (focus (obtain ⟨hc, hf⟩ := bcell hS; go_simp; first | (refine ⟨?_, Below.refl _ _⟩; rfl) | rfl | exact Below.refl _ _)); (try go_simp))
          intro blk w4 hb4 hn1 hn2
          clear hn1 hn2
          simp only [List.map_nil, putAll]
          clear blk
          have HR4 := Lib.hid (HR.out.below hb4)
          clear c0 c1 c2 d0 d1 d2 HR hb4 lq lg
          have hr := HR4.out
          obtain ⟨c0, c1, c2, d0, d1, d2, f0, f1, f2, hx⟩ := hr
          clear f0 f1 f2 hx
          go_wp2_with fail
          refine (k22.out _).mono ?_
          rintro e w5 ⟨rfl, hb5⟩
          have HR5 := Lib.hid (HR4.out.below hb5)
          clear c0 c1 c2 d0 d1 d2 HR4 hb5
          have hr := HR5.out
          obtain ⟨c0, c1, c2, d0, d1, d2, f0, f1, f2, hx⟩ := hr
          clear hx
          go_wp2_with fail
          have h4 : rightN 4 0 0 S D P = true := by unfold rightN; simp; omega
          have H4 := Lib.hid h4
          clear h4
          have HT := Lib.hid (HR5.out.store HGQ.out HQ.out 4 0 0)
          clear c0 c1 c2 d0 d1 d2 f0 f1 f2 HR5 k20 k22
          go_loopw [7] (fun i wr => ∃ j : Nat, j ≤ P.toNat ∧ i = .int .i64 j ∧ TellsAt w w.heap.size q S D P (seqN 4 0 0 P j).1 (seqN 4 0 0 P j).2.1 (seqN 4 0 0 P j).2.2 wr) (fun i _ => P.toNat - (intOf i).toNat)
          case atStart => exact ⟨0, Nat.zero_le _, rfl, by rw [seqN_zero H4.out]; exact HT.out⟩
          case round =>
            obtain ⟨j, hj, rfl, hr⟩ := hrel
            clear HT
            by_cases hlt : j < P.toNat
            · have hltP : (j : Int) < P := by omega
              have hy := seqN_step E1.out H4.out j
              have hX : seqN 4 0 0 P j = (4, 0, (j : Int)) := by unfold seqN; rw [if_neg (by omega), if_neg (by omega), if_pos (by omega)]; simp
              obtain ⟨Y1, Y2, Y3, hYe⟩ : ∃ Y1 Y2 Y3, seqN 4 0 0 P (j + 1) = (Y1, Y2, Y3) := ⟨_, _, _, rfl⟩
              rw [hX] at hr hy
              have HB := Lib.hid (fun W => next_is (S := S) (D := D) (P := P) Y1 Y2 Y3 (hy.trans hYe) W)
              have HY := Lib.hid hYe
              have HR := Lib.hid hr
              obtain ⟨c0, c1, c2, d0, d1, d2, f0, f1, f2, hx⟩ := hr
              clear hy hYe hX f0 f1 f2 hx hj
              go_wp2_with fail
              refine (HB.out _).mono ?_
              rintro e w5 ⟨rfl, hb5⟩
              have HR5 := Lib.hid (HR.out.below hb5)
              clear c0 c1 c2 d0 d1 d2 HR hb5
              have hr := HR5.out
              obtain ⟨c0, c1, c2, d0, d1, d2, f0, f1, f2, hx⟩ := hr
              clear hx
              go_wp2_with fail
              go_roundw
              case rel => exact ⟨j + 1, by omega, by go_num, by rw [HY.out]; exact HR5.out.store HGQ.out HQ.out Y1 Y2 Y3⟩
              case measure => simp [intOf]; omega
            · have hge : P ≤ (j : Int) := by omega
              have hX : seqN 4 0 0 P j = (0, 0, 0) := by unfold seqN; rw [if_neg (by omega), if_neg (by omega), if_neg (by omega)]
              rw [hX] at hr
              clear hlt hj hX
              have HT := Lib.hid hr
              obtain ⟨c0, c1, c2, d0, d1, d2, f0, f1, f2, hx⟩ := hr
              clear f0 f1 f2 hx
              go_wp2_with fail
              clear c0 c1 c2 d0 d1 d2
              go_loopw [8] (fun i wr => ∃ j : Nat, j ≤ zs.length ∧ i = .int .i64 j ∧ ∃ x0 x1 x2 : Int, rightN x0 x1 x2 S D P = true ∧ TellsAt w w.heap.size q S D P x0 x1 x2 wr) (fun i _ => zs.length - (intOf i).toNat)
              case atStart => exact ⟨0, Nat.zero_le _, rfl, 0, 0, 0, by unfold rightN; simp; omega, HT.out⟩
              case round =>
                obtain ⟨i, hi, rfl, x0, x1, x2, hrx, hr⟩ := hrel
                clear HT
                have HX := Lib.hid hr.bel
                by_cases hlt : i < zs.length
                · by_cases h100 : (i : Int) < 100
                  · have hz := HZ.out.below (show Below w.heap.size w _ from HX.out)
                    obtain ⟨b, off, rfl, hcell⟩ := hz.2 i hlt
                    have hltI : (i : Int) < (zs.length : Int) := by omega
                    have hlo : (0 : Int) ≤ (i : Int) := by omega
                    obtain ⟨Y1, Y2, Y3, hYe⟩ : ∃ Y1 Y2 Y3, nextI x0 x1 x2 S D P (zs.getD i 0) = (Y1, Y2, Y3) := ⟨_, _, _, rfl⟩
                    have HB := Lib.hid (fun W => next_is (S := S) (D := D) (P := P) Y1 Y2 Y3 hYe W)
                    have hry := next_right (k := zs.getD i 0) E1.out hrx
                    rw [hYe] at hry
                    have HRY := Lib.hid hry
                    have HN1 := Lib.hid (fun W => kN.out _ _ _ hry W)
                    have HR := Lib.hid hr
                    obtain ⟨c0, c1, c2, d0, d1, d2, f0, f1, f2, hx⟩ := hr
                    clear hry hrx hYe hz hx
                    generalize zs.getD i 0 = z at *
                    go_wp2_with fail
                    have lq := World.block_lt_of_cell? _ _ d0
                    have lg := World.block_lt_of_cell? _ _ c0
                    have lb := World.block_lt_of_cell? _ _ hcell
                    refine wp_region_grow_tail 7 (Below wr.heap.size wr) (by kernel_rfl) (by kernel_rfl) (Below.refl _ _).drew ?_
                    simp only [List.take_succ_cons, List.take_zero, List.drop_succ_cons, List.drop_zero]
                    (refine textS_run ?_ ?_ (fun W hS => ?_) ?_; rotate_left; (focus go_simp); (focus (obtain ⟨hc, hf⟩ := bcell hS; go_simp; first | rfl | exact ⟨rfl, hS⟩ | exact hS)); (try go_simp))
                    (refine textS_run ?_ ?_ (fun W hS => ?_) ?_; rotate_left; (focus go_simp); (focus (obtain ⟨hc, hf⟩ := bcell hS; go_simp; first | rfl | exact ⟨rfl, hS⟩ | exact hS)); (try go_simp))
                    (refine textS_run ?_ ?_ (fun W hS => ?_) ?_; rotate_left; (focus go_simp); (focus (obtain ⟨hc, hf⟩ := bcell hS; go_simp; first | rfl | exact ⟨rfl, hS⟩ | exact hS)); (try go_simp))
                    (refine textS_run ?_ ?_ (fun W hS => ?_) ?_; rotate_left; (focus go_simp); (focus (obtain ⟨hc, hf⟩ := bcell hS; go_simp; first | rfl | exact ⟨rfl, hS⟩ | exact hS)); (try go_simp))
                    (refine textS_run ?_ ?_ (fun W hS => ?_) ?_; rotate_left; (focus go_simp); (focus (obtain ⟨hc, hf⟩ := bcell hS; go_simp; first | rfl | exact ⟨rfl, hS⟩ | exact hS)); (try go_simp))
                    (refine textS_run ?_ ?_ (fun W hS => ?_) ?_; rotate_left; (focus go_simp); (focus (obtain ⟨hc, hf⟩ := bcell hS; go_simp; first | rfl | exact ⟨rfl, hS⟩ | exact hS)); (try go_simp))
                    (refine textS_run ?_ ?_ (fun W hS => ?_) ?_; rotate_left; (focus go_simp); (focus (obtain ⟨hc, hf⟩ := bcell hS; go_simp; refine (HB.out _).mono ?_; rintro e w1 ⟨rfl, hb⟩; refine ⟨?_, hS.trans (hb.mono hS.size)⟩; rfl)); (try go_simp))
                    refine textS_nil ?_
                    intro w5 hb5
                    have HR5 := Lib.hid (HR.out.below hb5)
                    clear c0 c1 c2 d0 d1 d2 f0 f1 f2 HR hb5 lq lg lb hcell
                    have hr := HR5.out
                    obtain ⟨c0, c1, c2, d0, d1, d2, f0, f1, f2, hx⟩ := hr
                    clear hx
                    have hgq := HGQ.out
                    have hqg : q ≠ w.heap.size := fun h => hgq h.symm
                    go_wp2_with fail
                    clear hgq hqg
                    have HR6 := Lib.hid (HR5.out.store HGQ.out HQ.out Y1 Y2 Y3)
                    clear c0 c1 c2 d0 d1 d2 f0 f1 f2 HR5
                    generalize ((w5.setCell ⟨q, 0, none⟩ (.int .i64 Y1)).setCell ⟨q, 1, none⟩ (.int .i64 Y2)).setCell ⟨q, 2, none⟩ (.int .i64 Y3) = w6 at *
                    refine (HN1.out _).mono ?_
                    rintro e w7 ⟨rfl, hb7⟩
                    have HR7 := Lib.hid (HR6.out.below hb7)
                    clear HR6 hb7
                    go_wp2_with fail
                    go_roundw
                    case rel => exact ⟨i + 1, by omega, by go_num, Y1, Y2, Y3, HRY.out, HR7.out⟩
                    case measure => simp [intOf]; omega
                  · have hge : 100 ≤ (i : Int) := by omega
                    clear hr hrx h100
                    go_wp2_with (go_at_call 8; refine (one_any _ (HN.out.below HX.out)).mono ?_; rintro e w5 ⟨rfl, hb5⟩)
                    go_ret
                    exact ⟨rfl, below_next HX.out hb5⟩
                · clear hr hrx
                  go_wp2_with (go_at_call 8; refine (one_any _ (HN.out.below HX.out)).mono ?_; rintro e w5 ⟨rfl, hb5⟩)
                  go_ret
                  exact ⟨rfl, below_next HX.out hb5⟩
end Go.Proofs.YtcmmfpfdjhfdaaaDoor
