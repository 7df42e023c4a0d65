/- The walk of ShareTotals. No condition but lengths. -/
import Derived.Test.YtnmhdodcfbjalaaShareE
namespace Go.Proofs.Ytnmhdodcfbjalaa
set_option linter.unusedVariables false
open Go.ChangeShapes Go.WideShapes Go.ChangeAt Go.RowKit
attribute [local go_sem ↓] Go.wp_at_zero Go.wp_at_succ comesTo_value_eq comesTo_skip_eq comesTo_enter_eq

theorem own12_any (f t : Int) (w : World) :
    Calls Try.prog 34 #[.agg #[.int .i64 f, .int .i64 t]] w fun e w' => e = .returned (.agg #[.int .i64 f, .int .i64 t]) ∧ Below w.heap.size w w' := by
  go_enter Try.func34, Try.ntmps34
  go_wp2
  exact bodyPost_ret (v := .agg #[.int .i64 f, .int .i64 t]) (by simp [results, Try.results34, go_sem]) rfl ⟨rfl, (by repeat (first | exact Below.refl _ _ | assumption | refine below_drewN ?_ _ | refine Below.drew ?_ | refine below_alloc ?_ _ | refine Below.alloc ?_ (by first | omega | (simp; done) | (simp; omega)) _ | refine Below.setCell ?_ (Below.size (by assumption)) _ | refine Below.setCell ?_ (by first | omega | (simp; done) | (simp; omega)) _ | (refine Below.trans ?_ (Below.mono (by assumption) (by first | omega | (simp; done) | (simp; omega)))) | refine below_next ?_ (by assumption)))⟩
theorem decI_get (n h : Int) (l : List (Int × Int)) (k : Nat) (hk : k < l.length) : (decI n h l).getD k (0, 0) = atI (l.getD k (0, 0)).1 (l.getD k (0, 0)).2 n h := by
  unfold decI
  simp [List.getD, hk]
set_option maxRecDepth 100000 in
set_option maxHeartbeats 8000000 in
theorem totals_short (a : Option Addr) (cap : Nat) (zs : List (Int × Int)) (n h : Int)  (hl : zs.length ≤ 60) (w : World) (hz : SharesAt w a w.heap.size zs) :
    Calls Try.prog 7 #[.slice a zs.length cap, .int .i64 n, .int .i64 h] w fun e w' => e = .returned (.bool true) ∧ Below w.heap.size w w' := by
  have d1 : decide (60 < (zs.length : Int)) = false := by simp; omega
  have HZ := Lib.hid hz
  clear hz
  go_enter Try.func7, Try.ntmps7
  go_wp2_with fail
  refine (decay_any a cap zs n h w HZ.out).mono ?_
  rintro e w1 ⟨ad, n', c', rfl, ho, hb1⟩
  obtain ⟨ad2, c2, he, hg⟩ := ho.form
  cases he
  rw [decI_len] at hg
  have hd := decI_len n h zs
  rw [hd]
  have HO := Lib.hid ho
  have HB1 := Lib.hid hb1
  have HG := Lib.hid hg
  clear ho hb1 hg hd
  have HZ1 := Lib.hid (HZ.out.below HB1.out (Nat.le_refl _))
  clear HZ
  go_wp2_with fail
  go_loopw [8, 9] (fun s i wr => ∃ k : Nat, k ≤ zs.length ∧ i = .int .i64 k ∧ s = .int .i64 (totI n h (zs.take k)) ∧ Below w1.heap.size w1 wr) (fun _ i _ => zs.length - (intOf i).toNat)
  case atStart => exact ⟨0, Nat.zero_le _, rfl, rfl, Below.refl _ _⟩
  case round =>
    obtain ⟨k, hk, rfl, rfl, hbel⟩ := hrel
    by_cases hlt : k < zs.length
    · obtain ⟨g, he, hg0, hg1⟩ := HG.out (by omega)
      subst he
      have hz := HZ1.out.below hbel (by have := HB1.out.size; omega)
      obtain ⟨b, off, hab, hbB, hrow⟩ := hz.2 (by omega)
      subst hab
      have hc0 := hrow.c0 k hlt
      have hc1 := hrow.c1 k hlt
      have hrd := (HO.out.row).1.below hbel
      have hd0 := hrd.c0 k (by rw [decI_len]; exact hlt)
      have hd1 := hrd.c1 k (by rw [decI_len]; exact hlt)
      rw [decI_get n h zs k hlt] at hd0 hd1
      simp only [Nat.zero_add] at hd0 hd1
      have hltI : (k : Int) < (zs.length : Int) := by omega
      have hlo : (0 : Int) ≤ (k : Int) := by omega
      have hs := Lib.hid (totI_succ n h zs k hlt)
      have hbd := totI_bd n h zs k
      have hA := (atI_bd (zs.getD k (0, 0)).1 (zs.getD k (0, 0)).2 n h).1
      have HBel := Lib.hid hbel
      clear hz hrow hrd hbel hk
      generalize totI n h (zs.take k) = A at *
      generalize (zs.getD k (0, 0)).1 = u at *
      generalize (zs.getD k (0, 0)).2 = s at *
      have kA := Lib.hid (fun W => rat_any u s n h W)
      generalize (atI u s n h).1 = P1 at *
      generalize (atI u s n h).2 = P2 at *
      obtain ⟨hA0, hA1⟩ := hA
      obtain ⟨hb0, hb9⟩ := hbd
      have lb := World.block_lt_of_cell? _ _ hc0
      have lg := World.block_lt_of_cell? _ _ hd0
      go_wp2_with fail
      refine (own12_any _ _ _).mono ?_
      rintro e w2 ⟨rfl, hb2⟩
      obtain ⟨g1, g2⟩ := bcell hb2
      replace hd0 := (g1 _ _ lg).trans hd0
      replace hd1 := (g1 _ _ lg).trans hd1
      replace lg := World.block_lt_of_cell? _ _ hd0
      have HB2 := Lib.hid (below_next HBel.out hb2)
      clear g1 g2 hb2 hc0 hc1 lb HBel
      go_wp2_with fail
      refine (kA.out _).mono ?_
      rintro e w3 ⟨rfl, hb3⟩
      obtain ⟨g1, g2⟩ := bcell hb3
      replace hd0 := (g1 _ _ lg).trans hd0
      replace hd1 := (g1 _ _ lg).trans hd1
      replace lg := World.block_lt_of_cell? _ _ hd0
      have HB3 := Lib.hid (below_next HB2.out hb3)
      clear g1 g2 hb3 HB2
      clear w2
      go_wp2_with fail
      generalize hW : w3.alloc (.cells #[.int .i64 P1, .int .i64 P2] 54) = W4
      have lg' : g < w3.heap.size := lg
      have d0 : W4.cell? ⟨g, k * 2, none⟩ = some (.int .i64 P1) := by subst hW; go_simp
      have d1 : W4.cell? ⟨g, k * 2 + 1, none⟩ = some (.int .i64 P2) := by subst hW; go_simp
      have x0 : W4.cell? ⟨w3.heap.size, 0, none⟩ = some (.int .i64 P1) := by subst hW; go_simp
      have x1 : W4.cell? ⟨w3.heap.size, 1, none⟩ = some (.int .i64 P2) := by subst hW; go_simp
      have HB4 := Lib.hid (show Below w1.heap.size w1 W4 by rw [← hW]; exact below_alloc HB3.out _)
      clear hW hd0 hd1 lg lg' HB3
      generalize w3.heap.size = q at *
      clear w3
      have lg : g < W4.heap.size := World.block_lt_of_cell? _ _ d0
      have lq : q < W4.heap.size := World.block_lt_of_cell? _ _ x0
      refine wp_region_boxes W4 (by kernel_rfl) (by kernel_rfl) (Below.refl _ _) ?_
      (refine textB_det ?_ rfl rfl ?_ (fun W hS => ?_) ?_; rotate_left; (focus go_simp); (focus (obtain ⟨hc, hf⟩ := bcell hS; go_simp; first | (refine ⟨?_, Below.refl _ _⟩; rfl) | rfl | exact Below.refl _ _)); (try go_simp))
      (refine textB_det ?_ rfl rfl ?_ (fun W hS => ?_) ?_; rotate_left; (focus go_simp); (focus (obtain ⟨hc, hf⟩ := bcell hS; go_simp; first | (refine ⟨?_, Below.refl _ _⟩; rfl) | rfl | exact Below.refl _ _)); (try go_simp))
      (refine textB_det ?_ rfl rfl ?_ (fun W hS => ?_) ?_; rotate_left; (focus go_simp); (focus (obtain ⟨hc, hf⟩ := bcell hS; go_simp; first | (refine ⟨?_, Below.refl _ _⟩; rfl) | rfl | exact Below.refl _ _)); (try go_simp))
      (refine textB_det ?_ rfl rfl ?_ (fun W hS => ?_) ?_; rotate_left; (focus go_simp); (focus (obtain ⟨hc, hf⟩ := bcell hS; go_simp; first | (refine ⟨?_, Below.refl _ _⟩; rfl) | rfl | exact Below.refl _ _)); (try go_simp))
      (refine textB_det ?_ rfl rfl ?_ (fun W hS => ?_) ?_; rotate_left; (focus go_simp); (focus (obtain ⟨hc, hf⟩ := bcell hS; go_simp; refine (own12_any _ _ _).mono ?_; rintro e w1 ⟨rfl, hb⟩; refine ⟨?_, hb⟩; rfl)); (try go_simp))
      (refine textB_det ?_ rfl rfl ?_ (fun W hS => ?_) ?_; rotate_left; (focus go_simp); (focus (obtain ⟨hc, hf⟩ := bcell hS; go_simp; first | (refine ⟨?_, Below.refl _ _⟩; rfl) | rfl | exact Below.refl _ _)); (try go_simp))
      (refine textB_det ?_ rfl rfl ?_ (fun W hS => ?_) ?_; rotate_left; (focus go_simp); (focus (obtain ⟨hc, hf⟩ := bcell hS; go_simp; first | (refine ⟨?_, Below.refl _ _⟩; rfl) | rfl | exact Below.refl _ _)); (try go_simp))
      intro blk w5 hb5 hn1 hn2
      clear hn1 hn2
      simp only [List.map_nil, putAll]
      clear blk
      obtain ⟨g1, g2⟩ := bcell hb5
      replace x0 := (g1 _ 0 lq).trans x0
      have HB5 := Lib.hid (below_next HB4.out hb5)
      clear g1 g2 hb5 HB4 d0 d1 x1 lg lq
      clear W4
      go_wp2_with fail
      refine (rcount_any _ _).mono ?_
      rintro e w6 ⟨rfl, hb6⟩
      have HB6 := Lib.hid (below_next HB5.out hb6)
      clear x0 HB5 hb6
      go_wp2_with fail
      go_roundw
      case rel => exact ⟨k + 1, by omega, by go_num, by rw [hs.out], HB6.out⟩
      case measure => simp [intOf]; omega
    · have hkz : zs.take k = zs := by rw [List.take_of_length_le (by omega)]
      rw [hkz]
      have hzk := HZ1.out.below hbel (by have := HB1.out.size; omega)
      have HT := Lib.hid (fun (W : World) (h1 : Below wr.heap.size wr W) (h2 : w.heap.size ≤ wr.heap.size) => total_any a cap zs n h W (by
        have := hzk.below h1 (by omega)
        exact ⟨this.1, fun h0 => by obtain ⟨b, off, e1, e2, e3⟩ := this.2 h0; exact ⟨b, off, e1, World.block_lt_of_cell? _ _ (e3.c0 0 h0), e3⟩⟩))
      have hsz : w.heap.size ≤ wr.heap.size := by have := HB1.out.size; have := hbel.size; omega
      have HBel := Lib.hid (show Below w.heap.size w wr from HB1.out.trans (hbel.mono HB1.out.size))
      have HSZ := Lib.hid hsz
      have hnk : ¬ (k : Int) < (zs.length : Int) := by omega
      clear hkz hzk hsz hbel hk
      generalize totI n h zs = A at *
      go_wp2_with (first | (go_at_call 37; refine (HT.out _ (Below.refl _ _) HSZ.out).mono ?_; rintro e w2 ⟨rfl, hb2⟩) | (go_at_call 38; refine (share_one _).mono ?_; rintro e w3 ⟨rfl, hb3⟩))
      go_ret
      exact ⟨rfl, below_next (below_next HBel.out hb2) hb3⟩
set_option maxRecDepth 100000 in
set_option maxHeartbeats 8000000 in
theorem totals_long (bb of cap : Nat) (zs : List (Int × Int)) (n h : Int) (n0 : Nat) (h60 : zs.length = 60) (hn0 : 60 < n0) (hn1 : n0 ≤ cap) (hn2 : n0 ≤ 9223372036854775807) (hl : zs.length ≤ 60) (w : World) (hz : SharesAt w (some ⟨bb, of, none⟩) w.heap.size zs) :
    Calls Try.prog 7 #[.slice (some ⟨bb, of, none⟩) n0 cap, .int .i64 n, .int .i64 h] w fun e w' => e = .returned (.bool true) ∧ Below w.heap.size w w' := by
  have d1 : decide (60 < (n0 : Int)) = true := by simp; omega
  have d2 : (60 : Int) < (n0 : Int) := by omega
  have d3 : (60 : Int) ≤ (cap : Int) := by omega
  have HZ := Lib.hid hz
  have hge : 60 ≤ zs.length := by omega
  have H60 := Lib.hid h60
  have kD := decay_any (some ⟨bb, of, none⟩) cap zs n h w hz
  rw [h60] at kD
  have KD := Lib.hid kD
  clear hz kD h60
  go_enter Try.func7, Try.ntmps7
  go_wp2_with fail
  refine KD.out.mono ?_
  rintro e w1 ⟨ad, n', c', rfl, ho, hb1⟩
  obtain ⟨ad2, c2, he, hg⟩ := ho.form
  cases he
  rw [decI_len] at hg
  have hd := (decI_len n h zs).trans H60.out
  rw [hd]
  have HO := Lib.hid ho
  have HB1 := Lib.hid hb1
  have HG := Lib.hid hg
  clear ho hb1 hg hd
  have HZ1 := Lib.hid (HZ.out.below HB1.out (Nat.le_refl _))
  clear HZ
  go_wp2_with fail
  go_loopw [8, 9] (fun s i wr => ∃ k : Nat, k ≤ zs.length ∧ i = .int .i64 k ∧ s = .int .i64 (totI n h (zs.take k)) ∧ Below w1.heap.size w1 wr) (fun _ i _ => zs.length - (intOf i).toNat)
  case atStart => exact ⟨0, Nat.zero_le _, rfl, rfl, Below.refl _ _⟩
  case round =>
    obtain ⟨k, hk, rfl, rfl, hbel⟩ := hrel
    by_cases hlt : k < zs.length
    · obtain ⟨g, he, hg0, hg1⟩ := HG.out (by omega)
      subst he
      have hz := HZ1.out.below hbel (by have := HB1.out.size; omega)
      obtain ⟨b, off, hab, hbB, hrow⟩ := hz.2 (by omega)
      cases hab
      have hc0 := hrow.c0 k hlt
      have hc1 := hrow.c1 k hlt
      have hrd := (HO.out.row).1.below hbel
      have hd0 := hrd.c0 k (by rw [decI_len]; exact hlt)
      have hd1 := hrd.c1 k (by rw [decI_len]; exact hlt)
      rw [decI_get n h zs k hlt] at hd0 hd1
      simp only [Nat.zero_add] at hd0 hd1
      have hltI : (k : Int) < 60 := by omega
      have hlo : (0 : Int) ≤ (k : Int) := by omega
      have hs := Lib.hid (totI_succ n h zs k hlt)
      have hbd := totI_bd n h zs k
      have hA := (atI_bd (zs.getD k (0, 0)).1 (zs.getD k (0, 0)).2 n h).1
      have HBel := Lib.hid hbel
      clear hz hrow hrd hbel hk
      generalize totI n h (zs.take k) = A at *
      generalize (zs.getD k (0, 0)).1 = u at *
      generalize (zs.getD k (0, 0)).2 = s at *
      have kA := Lib.hid (fun W => rat_any u s n h W)
      generalize (atI u s n h).1 = P1 at *
      generalize (atI u s n h).2 = P2 at *
      obtain ⟨hA0, hA1⟩ := hA
      obtain ⟨hb0, hb9⟩ := hbd
      have lb := World.block_lt_of_cell? _ _ hc0
      have lg := World.block_lt_of_cell? _ _ hd0
      go_wp2_with fail
      refine (own12_any _ _ _).mono ?_
      rintro e w2 ⟨rfl, hb2⟩
      obtain ⟨g1, g2⟩ := bcell hb2
      replace hd0 := (g1 _ _ lg).trans hd0
      replace hd1 := (g1 _ _ lg).trans hd1
      replace lg := World.block_lt_of_cell? _ _ hd0
      have HB2 := Lib.hid (below_next HBel.out hb2)
      clear g1 g2 hb2 hc0 hc1 lb HBel
      go_wp2_with fail
      refine (kA.out _).mono ?_
      rintro e w3 ⟨rfl, hb3⟩
      obtain ⟨g1, g2⟩ := bcell hb3
      replace hd0 := (g1 _ _ lg).trans hd0
      replace hd1 := (g1 _ _ lg).trans hd1
      replace lg := World.block_lt_of_cell? _ _ hd0
      have HB3 := Lib.hid (below_next HB2.out hb3)
      clear g1 g2 hb3 HB2
      clear w2
      go_wp2_with fail
      generalize hW : w3.alloc (.cells #[.int .i64 P1, .int .i64 P2] 54) = W4
      have lg' : g < w3.heap.size := lg
      have d0 : W4.cell? ⟨g, k * 2, none⟩ = some (.int .i64 P1) := by subst hW; go_simp
      have d1 : W4.cell? ⟨g, k * 2 + 1, none⟩ = some (.int .i64 P2) := by subst hW; go_simp
      have x0 : W4.cell? ⟨w3.heap.size, 0, none⟩ = some (.int .i64 P1) := by subst hW; go_simp
      have x1 : W4.cell? ⟨w3.heap.size, 1, none⟩ = some (.int .i64 P2) := by subst hW; go_simp
      have HB4 := Lib.hid (show Below w1.heap.size w1 W4 by rw [← hW]; exact below_alloc HB3.out _)
      clear hW hd0 hd1 lg lg' HB3
      generalize w3.heap.size = q at *
      clear w3
      have lg : g < W4.heap.size := World.block_lt_of_cell? _ _ d0
      have lq : q < W4.heap.size := World.block_lt_of_cell? _ _ x0
      refine wp_region_boxes W4 (by kernel_rfl) (by kernel_rfl) (Below.refl _ _) ?_
      (refine textB_det ?_ rfl rfl ?_ (fun W hS => ?_) ?_; rotate_left; (focus go_simp); (focus (obtain ⟨hc, hf⟩ := bcell hS; go_simp; first | (refine ⟨?_, Below.refl _ _⟩; rfl) | rfl | exact Below.refl _ _)); (try go_simp))
      (refine textB_det ?_ rfl rfl ?_ (fun W hS => ?_) ?_; rotate_left; (focus go_simp); (focus (obtain ⟨hc, hf⟩ := bcell hS; go_simp; first | (refine ⟨?_, Below.refl _ _⟩; rfl) | rfl | exact Below.refl _ _)); (try go_simp))
      (refine textB_det ?_ rfl rfl ?_ (fun W hS => ?_) ?_; rotate_left; (focus go_simp); (focus (obtain ⟨hc, hf⟩ := bcell hS; go_simp; first | (refine ⟨?_, Below.refl _ _⟩; rfl) | rfl | exact Below.refl _ _)); (try go_simp))
      (refine textB_det ?_ rfl rfl ?_ (fun W hS => ?_) ?_; rotate_left; (focus go_simp); (focus (obtain ⟨hc, hf⟩ := bcell hS; go_simp; first | (refine ⟨?_, Below.refl _ _⟩; rfl) | rfl | exact Below.refl _ _)); (try go_simp))
      (refine textB_det ?_ rfl rfl ?_ (fun W hS => ?_) ?_; rotate_left; (focus go_simp); (focus (obtain ⟨hc, hf⟩ := bcell hS; go_simp; refine (own12_any _ _ _).mono ?_; rintro e w1 ⟨rfl, hb⟩; refine ⟨?_, hb⟩; rfl)); (try go_simp))
      (refine textB_det ?_ rfl rfl ?_ (fun W hS => ?_) ?_; rotate_left; (focus go_simp); (focus (obtain ⟨hc, hf⟩ := bcell hS; go_simp; first | (refine ⟨?_, Below.refl _ _⟩; rfl) | rfl | exact Below.refl _ _)); (try go_simp))
      (refine textB_det ?_ rfl rfl ?_ (fun W hS => ?_) ?_; rotate_left; (focus go_simp); (focus (obtain ⟨hc, hf⟩ := bcell hS; go_simp; first | (refine ⟨?_, Below.refl _ _⟩; rfl) | rfl | exact Below.refl _ _)); (try go_simp))
      intro blk w5 hb5 hn1 hn2
      clear hn1 hn2
      simp only [List.map_nil, putAll]
      clear blk
      obtain ⟨g1, g2⟩ := bcell hb5
      replace x0 := (g1 _ 0 lq).trans x0
      have HB5 := Lib.hid (below_next HB4.out hb5)
      clear g1 g2 hb5 HB4 d0 d1 x1 lg lq
      clear W4
      go_wp2_with fail
      refine (rcount_any _ _).mono ?_
      rintro e w6 ⟨rfl, hb6⟩
      have HB6 := Lib.hid (below_next HB5.out hb6)
      clear x0 HB5 hb6
      go_wp2_with fail
      go_roundw
      case rel => exact ⟨k + 1, by omega, by go_num, by rw [hs.out], HB6.out⟩
      case measure => simp [intOf]; omega
    · have hkz : zs.take k = zs := by rw [List.take_of_length_le (by omega)]
      rw [hkz]
      have hzk := HZ1.out.below hbel (by have := HB1.out.size; omega)
      have HT := Lib.hid (fun (W : World) (h1 : Below wr.heap.size wr W) (h2 : w.heap.size ≤ wr.heap.size) => by have hx := total_any (some ⟨bb, of, none⟩) cap zs n h W (by
        have := hzk.below h1 (by omega)
        exact ⟨this.1, fun h0 => by obtain ⟨b, off, e1, e2, e3⟩ := this.2 h0; exact ⟨b, off, e1, World.block_lt_of_cell? _ _ (e3.c0 0 h0), e3⟩⟩); rw [H60.out] at hx; exact hx)
      have hsz : w.heap.size ≤ wr.heap.size := by have := HB1.out.size; have := hbel.size; omega
      have HBel := Lib.hid (show Below w.heap.size w wr from HB1.out.trans (hbel.mono HB1.out.size))
      have HSZ := Lib.hid hsz
      have hnk : ¬ (k : Int) < 60 := by omega
      clear hkz hzk hsz hbel hk
      generalize totI n h zs = A at *
      go_wp2_with (first | (go_at_call 37; refine (HT.out _ (Below.refl _ _) HSZ.out).mono ?_; rintro e w2 ⟨rfl, hb2⟩) | (go_at_call 38; refine (share_one _).mono ?_; rintro e w3 ⟨rfl, hb3⟩))
      go_ret
      exact ⟨rfl, below_next (below_next HBel.out hb2) hb3⟩
theorem take_row {w : World} {b off m : Nat} {zs : List (Int × Int)} (h : ShRow w b off zs) (hm : m ≤ zs.length) : ShRow w b off (zs.take m) := by
  have hg : ∀ k, k < m → (zs.take m).getD k (0, 0) = zs.getD k (0, 0) := fun k hk => by simp [List.getD, List.getElem?_take, hk]
  have hl : (zs.take m).length = m := by simp; omega
  exact ⟨fun k hk => by rw [hl] at hk; rw [hg k hk]; exact h.c0 k (by omega), fun k hk => by rw [hl] at hk; rw [hg k hk]; exact h.c1 k (by omega)⟩
theorem totals_walk (a : Option Addr) (cap : Nat) (zs : List (Int × Int)) (n h : Int) (hc : zs.length ≤ cap) (h9 : zs.length ≤ 9223372036854775807) (w : World) (hz : 0 < zs.length → ∃ b off, a = some ⟨b, off, none⟩ ∧ ShRow w b off zs) :
    Calls Try.prog 7 #[.slice a zs.length cap, .int .i64 n, .int .i64 h] w fun e w' => e = .returned (.bool true) ∧ Below w.heap.size w w' := by
  by_cases hl : zs.length ≤ 60
  · exact totals_short a cap zs n h hl w (fits_mem (by omega) hz)
  · obtain ⟨b, off, rfl, hr⟩ := hz (by omega)
    have hb := World.block_lt_of_cell? _ _ (hr.c0 0 (by omega))
    have hl2 : (zs.take 60).length = 60 := by simp; omega
    exact totals_long b off cap (zs.take 60) n h zs.length hl2 (by omega) hc h9 (by omega) w ⟨by omega, fun _ => ⟨b, off, rfl, hb, take_row hr (by omega)⟩⟩
end Go.Proofs.Ytnmhdodcfbjalaa
