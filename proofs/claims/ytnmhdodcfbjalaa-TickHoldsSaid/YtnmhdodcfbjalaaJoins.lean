/- The walk of TickJoins. No condition but lengths. -/
import Derived.Test.YtnmhdodcfbjalaaRefJoin
import Derived.Test.YtnmhdodcfbjalaaOne
namespace Go.Proofs.Ytnmhdodcfbjalaa
set_option linter.unusedVariables false
open Go.ChangeShapes Go.WideShapes Go.ChangeAt Go.RowKit
attribute [local go_sem ↓] Go.wp_at_zero Go.wp_at_succ comesTo_value_eq comesTo_skip_eq comesTo_enter_eq
theorem take_getJ (l : List (Int × Int)) (k : Nat) (h : k < l.length) : l.take (k + 1) = l.take k ++ [((l.getD k (0, 0)).1, (l.getD k (0, 0)).2)] := by
  show _ = _ ++ [l.getD k (0, 0)]
  rw [List.take_succ_eq_append_getElem h]
  simp [List.getD, h]
theorem OwnR.find {w : World} {B : Nat} {ad : Option Addr} {n c : Nat} {l : List (Int × Int)} (h : OwnR w B (.slice ad n c) l) : n = l.length ∧ (0 < l.length → ∃ g, ad = some ⟨g, 0, none⟩ ∧ SpanRow w g 0 l) := by
  obtain ⟨ad', c', he, hg⟩ := h.form
  cases he
  refine ⟨rfl, fun h0 => ?_⟩
  obtain ⟨g, rfl, _⟩ := hg h0
  exact ⟨g, rfl, h.row.1⟩
theorem OwnS.find {w : World} {B : Nat} {ad : Option Addr} {n c : Nat} {l : List (Int × Int)} (h : OwnS w B (.slice ad n c) l) : n = l.length ∧ (0 < l.length → ∃ g, ad = some ⟨g, 0, none⟩ ∧ SpanRow w g 0 l) := by
  obtain ⟨ad', c', he, hg⟩ := h.form
  cases he
  refine ⟨rfl, fun h0 => ?_⟩
  obtain ⟨g, rfl, _⟩ := hg h0
  exact ⟨g, rfl, h.row.1⟩
set_option maxRecDepth 100000 in
set_option maxHeartbeats 8000000 in
theorem joins_short (a : Option Addr) (cap : Nat) (zs : List (Int × Int)) (hl : zs.length ≤ 60) (w : World) (hz : 0 < zs.length → ∃ b off, a = some ⟨b, off, none⟩ ∧ SpanRow w b off zs) :
    Calls Try.prog 4 #[.slice a zs.length cap] w fun e w' => e = .returned (.bool true) ∧ Below w.heap.size w w' := by
  have d1 : decide (60 < (zs.length : Int)) = false := by simp; omega
  have HZ := Lib.hid hz
  clear hz
  go_enter Try.func4, Try.ntmps4
  go_wp2_with fail
  go_loopw [3, 4] (fun v i wr => ∃ k : Nat, k ≤ zs.length ∧ i = .int .i64 k ∧ (∃ (ad : Option Addr) (c : Nat), v = .slice ad k c ∧ OwnR wr w.heap.size v (zs.take k)) ∧ Below w.heap.size w wr) (fun _ i _ => zs.length - (intOf i).toNat)
  case atStart => exact ⟨0, Nat.zero_le _, rfl, ⟨none, 0, rfl, OwnR.nil⟩, Below.refl _ _⟩
  case round =>
    obtain ⟨k, hk, rfl, ⟨ad, co, rfl, ho⟩, hbel⟩ := hrel
    by_cases hlt : k < zs.length
    · obtain ⟨b, off, rfl, hr⟩ := HZ.out (by omega)
      have hc0 := (hr.below hbel).c0 k hlt
      have hc1 := (hr.below hbel).c1 k hlt
      have hltI : (k : Int) < (zs.length : Int) := by omega
      have hlo : (0 : Int) ≤ (k : Int) := by omega
      have hsucc := Lib.hid (take_getJ zs k hlt)
      have htl : (zs.take k).length = k := by rw [List.length_take]; omega
      have hl1 : (zs.take k).length + 1 ≤ 1099511627776 := by omega
      have HTL := Lib.hid htl
      have HL1 := Lib.hid hl1
      clear hr htl hl1
      generalize (zs.getD k (0, 0)).1 = f at *
      generalize (zs.getD k (0, 0)).2 = t at *
      have HO := Lib.hid ho
      have HB := Lib.hid hbel
      clear ho hbel
      go_wp2_with fail
      refine (own_any _ _ _).mono ?_
      rintro e w1 ⟨rfl, hb1⟩
      have HO1 := Lib.hid (HO.out.below hb1)
      have HB1 := Lib.hid (below_next HB.out hb1)
      clear hb1 hc0 hc1 HO HB
      have hz1 := HB1.out.size
      go_wp2_with (at_builtin; refine wpList_append_rspan rfl _ _ rfl w.heap.size (.slice ad k co) (zs.take k) rfl (HO1.out.below (below_alloc (Below.refl _ w1) _)) w1.heap.size 1 (f, t) rfl (by go_simp) (by go_simp) HL1.out (by simp; omega) ?_; intro ad3 n3 c3 w3 hO3 hb3 hk3; obtain ⟨hn3, _⟩ := hO3.find; have hn4 : n3 = k + 1 := (by rw [hn3, List.length_append, HTL.out]; rfl); clear hn3 hk3; subst hn4; have HO3 := Lib.hid hO3; have HB3 := Lib.hid ((below_alloc HB1.out _).trans hb3); clear hO3 hb3)
      go_roundw
      case rel => exact ⟨k + 1, by omega, by go_num, ⟨ad3, c3, rfl, by rw [hsucc.out]; exact HO3.out⟩, HB3.out⟩
      case measure => simp [intOf]; omega
    · obtain rfl : k = zs.length := by omega
      rw [List.take_of_length_le (Nat.le_refl _)] at ho
      have HX := Lib.hid (join_all a cap zs (by omega) wr (fun h0 => by obtain ⟨b, off, e1, e2⟩ := HZ.out h0; exact ⟨b, off, e1, e2.below hbel⟩))
      have HO := Lib.hid ho
      have HB := Lib.hid hbel
      clear ho hbel
      go_wp2_with fail
      refine HX.out.mono ?_
      rintro e w2 ⟨ad2, c2, rfl, hx, hb2⟩
      have HY := Lib.hid (rjoin_any ad co zs (by omega) w2 (HO.out.below hb2).find.2)
      have HXR := Lib.hid hx
      have HB2 := Lib.hid (below_next HB.out hb2)
      clear hx hb2 HX HB HO
      go_wp2_with fail
      refine HY.out.mono ?_
      rintro e w3 ⟨ad3, c3, rfl, hy, hb3⟩
      have HXR3 := Lib.hid (HXR.out.below hb3)
      have HYR3 := Lib.hid hy
      have HB3 := Lib.hid (below_next HB2.out hb3)
      clear hy hb3 HY HXR HB2
      have hR : (refJ (cutsOf zs)).length ≤ 60 := Nat.le_trans (refJ_len _) (Nat.le_trans (cutsOf_len _) hl)
      generalize refJ (cutsOf zs) = R at *
      go_wp2_with fail
      go_loopw [7] (fun i w4 => ∃ q : Nat, q ≤ R.length ∧ i = .int .i64 q ∧ Below w3.heap.size w3 w4) (fun i _ => R.length - (intOf i).toNat)
      case atStart => exact ⟨0, Nat.zero_le _, rfl, Below.refl _ _⟩
      case round =>
        obtain ⟨q, hq, rfl, hbel⟩ := hrel
        by_cases hlt2 : q < R.length
        · obtain ⟨gx, rfl, hrx⟩ := HXR3.out.find.2 (by omega)
          obtain ⟨gy, rfl, hry⟩ := HYR3.out.find.2 (by omega)
          have x0 := (hrx.below hbel).c0 q hlt2
          have x1 := (hrx.below hbel).c1 q hlt2
          have y0 := (hry.below hbel).c0 q hlt2
          have y1 := (hry.below hbel).c1 q hlt2
          simp only [Nat.zero_add] at x0 x1 y0 y1
          have hltI : (q : Int) < (R.length : Int) := by omega
          have hlo : (0 : Int) ≤ (q : Int) := by omega
          have HBel := Lib.hid hbel
          clear hrx hry hbel
          generalize (R.getD q (0, 0)).1 = f at *
          generalize (R.getD q (0, 0)).2 = t at *
          have lx := World.block_lt_of_cell? _ _ x0
          have ly := World.block_lt_of_cell? _ _ y0
          go_wp2_with fail
          refine wp_region_boxes wr (by kernel_rfl) (by kernel_rfl) (Below.refl _ _) ?_
          (refine textB_det ?_ rfl rfl ?_ (fun W hS => ?_) ?_; rotate_left; (focus go_simp); (focus (obtain ⟨hc, hf⟩ := bcell hS; go_simp; first | (refine ⟨?_, Below.refl _ _⟩; rfl) | rfl | exact Below.refl _ _)); (try go_simp))
          (refine textB_det ?_ rfl rfl ?_ (fun W hS => ?_) ?_; rotate_left; (focus go_simp); (focus (obtain ⟨hc, hf⟩ := bcell hS; go_simp; first | (refine ⟨?_, Below.refl _ _⟩; rfl) | rfl | exact Below.refl _ _)); (try go_simp))
          (refine textB_det ?_ rfl rfl ?_ (fun W hS => ?_) ?_; rotate_left; (focus go_simp); (focus (obtain ⟨hc, hf⟩ := bcell hS; go_simp; first | (refine ⟨?_, Below.refl _ _⟩; rfl) | rfl | exact Below.refl _ _)); (try go_simp))
          (refine textB_det ?_ rfl rfl ?_ (fun W hS => ?_) ?_; rotate_left; (focus go_simp); (focus (obtain ⟨hc, hf⟩ := bcell hS; go_simp; first | (refine ⟨?_, Below.refl _ _⟩; rfl) | rfl | exact Below.refl _ _)); (try go_simp))
          (refine textB_det ?_ rfl rfl ?_ (fun W hS => ?_) ?_; rotate_left; (focus go_simp); (focus (obtain ⟨hc, hf⟩ := bcell hS; go_simp; refine (own_any _ _ _).mono ?_; rintro e w1 ⟨rfl, hb⟩; refine ⟨?_, hb⟩; rfl)); (try go_simp))
          (refine textB_det ?_ rfl rfl ?_ (fun W hS => ?_) ?_; rotate_left; (focus go_simp); (focus (obtain ⟨hc, hf⟩ := bcell hS; go_simp; first | (refine ⟨?_, Below.refl _ _⟩; rfl) | rfl | exact Below.refl _ _)); (try go_simp))
          (refine textB_det ?_ rfl rfl ?_ (fun W hS => ?_) ?_; rotate_left; (focus go_simp); (focus (obtain ⟨hc, hf⟩ := bcell hS; go_simp; first | (refine ⟨?_, Below.refl _ _⟩; rfl) | rfl | exact Below.refl _ _)); (try go_simp))
          (refine textB_det ?_ rfl rfl ?_ (fun W hS => ?_) ?_; rotate_left; (focus go_simp); (focus (obtain ⟨hc, hf⟩ := bcell hS; go_simp; first | (refine ⟨?_, Below.refl _ _⟩; rfl) | rfl | exact Below.refl _ _)); (try go_simp))
          (refine textB_det ?_ rfl rfl ?_ (fun W hS => ?_) ?_; rotate_left; (focus go_simp); (focus (obtain ⟨hc, hf⟩ := bcell hS; go_simp; first | (refine ⟨?_, Below.refl _ _⟩; rfl) | rfl | exact Below.refl _ _)); (try go_simp))
          (refine textB_det ?_ rfl rfl ?_ (fun W hS => ?_) ?_; rotate_left; (focus go_simp); (focus (obtain ⟨hc, hf⟩ := bcell hS; go_simp; first | (refine ⟨?_, Below.refl _ _⟩; rfl) | rfl | exact Below.refl _ _)); (try go_simp))
          intro blk w5 hb5 hn1 hn2
          clear hn1 hn2
          simp only [List.map_nil, putAll]
          clear blk
          have HB5 := Lib.hid (below_next HBel.out hb5)
          clear hb5 HBel x0 x1 y0 y1 lx ly
          go_wp2_with fail
          go_roundw
          case rel => exact ⟨q + 1, by omega, by go_num, HB5.out⟩
          case measure => simp [intOf]; omega
        · have HBE := Lib.hid (show Below w.heap.size w wr from HB3.out.trans (hbel.mono HB3.out.size))
          clear hbel
          go_wp2_with fail
          refine (one_any _).mono ?_
          rintro e w5 ⟨rfl, hb5⟩
          go_wp2_with fail
          go_ret
          exact ⟨rfl, below_next HBE.out hb5⟩
set_option maxRecDepth 100000 in
set_option maxHeartbeats 8000000 in
theorem joins_long (bb of cap n0 : Nat) (zs : List (Int × Int)) (h60 : zs.length = 60) (hn0 : 60 < n0) (hn1 : n0 ≤ cap) (hn2 : n0 ≤ 9223372036854775807) (hl : zs.length ≤ 60) (w : World) (hz : SpanRow w bb of zs) :
    Calls Try.prog 4 #[.slice (some ⟨bb, of, none⟩) n0 cap] w fun e w' => e = .returned (.bool true) ∧ Below w.heap.size w w' := by
  have d1 : decide (60 < (n0 : Int)) = true := by simp; omega
  have d2 : (60 : Int) < (n0 : Int) := by omega
  have d3 : (60 : Int) ≤ (cap : Int) := by omega
  have HZ := Lib.hid hz
  have H60 := Lib.hid h60
  clear hz h60
  go_enter Try.func4, Try.ntmps4
  go_wp2_with fail
  go_loopw [3, 4] (fun v i wr => ∃ k : Nat, k ≤ 60 ∧ i = .int .i64 k ∧ (∃ (ad : Option Addr) (c : Nat), v = .slice ad k c ∧ OwnR wr w.heap.size v (zs.take k)) ∧ Below w.heap.size w wr) (fun _ i _ => 60 - (intOf i).toNat)
  case atStart => exact ⟨0, Nat.zero_le _, rfl, ⟨none, 0, rfl, OwnR.nil⟩, Below.refl _ _⟩
  case round =>
    obtain ⟨k, hk, rfl, ⟨ad, co, rfl, ho⟩, hbel⟩ := hrel
    have hzl := H60.out
    by_cases hlt : k < zs.length
    · have hr := HZ.out
      have hc0 := (hr.below hbel).c0 k hlt
      have hc1 := (hr.below hbel).c1 k hlt
      have hltI : (k : Int) < 60 := by omega
      clear hzl
      have hlo : (0 : Int) ≤ (k : Int) := by omega
      have hsucc := Lib.hid (take_getJ zs k hlt)
      have htl : (zs.take k).length = k := by rw [List.length_take]; omega
      have hl1 : (zs.take k).length + 1 ≤ 1099511627776 := by omega
      have HTL := Lib.hid htl
      have HL1 := Lib.hid hl1
      clear hr htl hl1
      generalize (zs.getD k (0, 0)).1 = f at *
      generalize (zs.getD k (0, 0)).2 = t at *
      have HO := Lib.hid ho
      have HB := Lib.hid hbel
      clear ho hbel
      go_wp2_with fail
      refine (own_any _ _ _).mono ?_
      rintro e w1 ⟨rfl, hb1⟩
      have HO1 := Lib.hid (HO.out.below hb1)
      have HB1 := Lib.hid (below_next HB.out hb1)
      clear hb1 hc0 hc1 HO HB
      have hz1 := HB1.out.size
      go_wp2_with (at_builtin; refine wpList_append_rspan rfl _ _ rfl w.heap.size (.slice ad k co) (zs.take k) rfl (HO1.out.below (below_alloc (Below.refl _ w1) _)) w1.heap.size 1 (f, t) rfl (by go_simp) (by go_simp) HL1.out (by simp; omega) ?_; intro ad3 n3 c3 w3 hO3 hb3 hk3; obtain ⟨hn3, _⟩ := hO3.find; have hn4 : n3 = k + 1 := (by rw [hn3, List.length_append, HTL.out]; rfl); clear hn3 hk3; subst hn4; have HO3 := Lib.hid hO3; have HB3 := Lib.hid ((below_alloc HB1.out _).trans hb3); clear hO3 hb3)
      go_roundw
      case rel => exact ⟨k + 1, by omega, by go_num, ⟨ad3, c3, rfl, by rw [hsucc.out]; exact HO3.out⟩, HB3.out⟩
      case measure => simp [intOf]; omega
    · obtain rfl : k = 60 := by omega
      rw [List.take_of_length_le (by omega)] at ho
      have hx := join_all (some ⟨bb, of, none⟩) cap zs (by omega) wr (fun h0 => ⟨bb, of, rfl, HZ.out.below hbel⟩)
      rw [hzl] at hx
      have HX := Lib.hid hx
      clear hx hzl
      have HO := Lib.hid ho
      have HB := Lib.hid hbel
      clear ho hbel
      go_wp2_with fail
      refine HX.out.mono ?_
      rintro e w2 ⟨ad2, c2, rfl, hx, hb2⟩
      have hy := rjoin_any ad co zs (by omega) w2 (HO.out.below hb2).find.2
      rw [H60.out] at hy
      have HY := Lib.hid hy
      clear hy
      have HXR := Lib.hid hx
      have HB2 := Lib.hid (below_next HB.out hb2)
      clear hx hb2 HX HB HO
      go_wp2_with fail
      refine HY.out.mono ?_
      rintro e w3 ⟨ad3, c3, rfl, hy, hb3⟩
      have HXR3 := Lib.hid (HXR.out.below hb3)
      have HYR3 := Lib.hid hy
      have HB3 := Lib.hid (below_next HB2.out hb3)
      clear hy hb3 HY HXR HB2
      have hR : (refJ (cutsOf zs)).length ≤ 60 := Nat.le_trans (refJ_len _) (Nat.le_trans (cutsOf_len _) hl)
      generalize refJ (cutsOf zs) = R at *
      go_wp2_with fail
      go_loopw [7] (fun i w4 => ∃ q : Nat, q ≤ R.length ∧ i = .int .i64 q ∧ Below w3.heap.size w3 w4) (fun i _ => R.length - (intOf i).toNat)
      case atStart => exact ⟨0, Nat.zero_le _, rfl, Below.refl _ _⟩
      case round =>
        obtain ⟨q, hq, rfl, hbel⟩ := hrel
        by_cases hlt2 : q < R.length
        · obtain ⟨gx, rfl, hrx⟩ := HXR3.out.find.2 (by omega)
          obtain ⟨gy, rfl, hry⟩ := HYR3.out.find.2 (by omega)
          have x0 := (hrx.below hbel).c0 q hlt2
          have x1 := (hrx.below hbel).c1 q hlt2
          have y0 := (hry.below hbel).c0 q hlt2
          have y1 := (hry.below hbel).c1 q hlt2
          simp only [Nat.zero_add] at x0 x1 y0 y1
          have hltI : (q : Int) < (R.length : Int) := by omega
          have hlo : (0 : Int) ≤ (q : Int) := by omega
          have HBel := Lib.hid hbel
          clear hrx hry hbel
          generalize (R.getD q (0, 0)).1 = f at *
          generalize (R.getD q (0, 0)).2 = t at *
          have lx := World.block_lt_of_cell? _ _ x0
          have ly := World.block_lt_of_cell? _ _ y0
          go_wp2_with fail
          refine wp_region_boxes wr (by kernel_rfl) (by kernel_rfl) (Below.refl _ _) ?_
          (refine textB_det ?_ rfl rfl ?_ (fun W hS => ?_) ?_; rotate_left; (focus go_simp); (focus (obtain ⟨hc, hf⟩ := bcell hS; go_simp; first | (refine ⟨?_, Below.refl _ _⟩; rfl) | rfl | exact Below.refl _ _)); (try go_simp))
          (refine textB_det ?_ rfl rfl ?_ (fun W hS => ?_) ?_; rotate_left; (focus go_simp); (focus (obtain ⟨hc, hf⟩ := bcell hS; go_simp; first | (refine ⟨?_, Below.refl _ _⟩; rfl) | rfl | exact Below.refl _ _)); (try go_simp))
          (refine textB_det ?_ rfl rfl ?_ (fun W hS => ?_) ?_; rotate_left; (focus go_simp); (focus (obtain ⟨hc, hf⟩ := bcell hS; go_simp; first | (refine ⟨?_, Below.refl _ _⟩; rfl) | rfl | exact Below.refl _ _)); (try go_simp))
          (refine textB_det ?_ rfl rfl ?_ (fun W hS => ?_) ?_; rotate_left; (focus go_simp); (focus (obtain ⟨hc, hf⟩ := bcell hS; go_simp; first | (refine ⟨?_, Below.refl _ _⟩; rfl) | rfl | exact Below.refl _ _)); (try go_simp))
          (refine textB_det ?_ rfl rfl ?_ (fun W hS => ?_) ?_; rotate_left; (focus go_simp); (focus (obtain ⟨hc, hf⟩ := bcell hS; go_simp; refine (own_any _ _ _).mono ?_; rintro e w1 ⟨rfl, hb⟩; refine ⟨?_, hb⟩; rfl)); (try go_simp))
          (refine textB_det ?_ rfl rfl ?_ (fun W hS => ?_) ?_; rotate_left; (focus go_simp); (focus (obtain ⟨hc, hf⟩ := bcell hS; go_simp; first | (refine ⟨?_, Below.refl _ _⟩; rfl) | rfl | exact Below.refl _ _)); (try go_simp))
          (refine textB_det ?_ rfl rfl ?_ (fun W hS => ?_) ?_; rotate_left; (focus go_simp); (focus (obtain ⟨hc, hf⟩ := bcell hS; go_simp; first | (refine ⟨?_, Below.refl _ _⟩; rfl) | rfl | exact Below.refl _ _)); (try go_simp))
          (refine textB_det ?_ rfl rfl ?_ (fun W hS => ?_) ?_; rotate_left; (focus go_simp); (focus (obtain ⟨hc, hf⟩ := bcell hS; go_simp; first | (refine ⟨?_, Below.refl _ _⟩; rfl) | rfl | exact Below.refl _ _)); (try go_simp))
          (refine textB_det ?_ rfl rfl ?_ (fun W hS => ?_) ?_; rotate_left; (focus go_simp); (focus (obtain ⟨hc, hf⟩ := bcell hS; go_simp; first | (refine ⟨?_, Below.refl _ _⟩; rfl) | rfl | exact Below.refl _ _)); (try go_simp))
          (refine textB_det ?_ rfl rfl ?_ (fun W hS => ?_) ?_; rotate_left; (focus go_simp); (focus (obtain ⟨hc, hf⟩ := bcell hS; go_simp; first | (refine ⟨?_, Below.refl _ _⟩; rfl) | rfl | exact Below.refl _ _)); (try go_simp))
          intro blk w5 hb5 hn1 hn2
          clear hn1 hn2
          simp only [List.map_nil, putAll]
          clear blk
          have HB5 := Lib.hid (below_next HBel.out hb5)
          clear hb5 HBel x0 x1 y0 y1 lx ly
          go_wp2_with fail
          go_roundw
          case rel => exact ⟨q + 1, by omega, by go_num, HB5.out⟩
          case measure => simp [intOf]; omega
        · have HBE := Lib.hid (show Below w.heap.size w wr from HB3.out.trans (hbel.mono HB3.out.size))
          clear hbel
          go_wp2_with fail
          refine (one_any _).mono ?_
          rintro e w5 ⟨rfl, hb5⟩
          go_wp2_with fail
          go_ret
          exact ⟨rfl, below_next HBE.out hb5⟩
theorem take_rowS {w : World} {b off m : Nat} {zs : List (Int × Int)} (h : SpanRow w b off zs) (hm : m ≤ zs.length) : SpanRow w b off (zs.take m) := by
  have hg : ∀ k, k < m → (zs.take m).getD k (0, 0) = zs.getD k (0, 0) := fun k hk => by simp [List.getD, List.getElem?_take, hk]
  have hl : (zs.take m).length = m := by simp; omega
  exact ⟨fun k hk => by rw [hl] at hk; rw [hg k hk]; exact h.c0 k (by omega), fun k hk => by rw [hl] at hk; rw [hg k hk]; exact h.c1 k (by omega)⟩
theorem joins_walk (a : Option Addr) (cap : Nat) (zs : List (Int × Int)) (hc : zs.length ≤ cap) (h9 : zs.length ≤ 9223372036854775807) (w : World) (hz : 0 < zs.length → ∃ b off, a = some ⟨b, off, none⟩ ∧ SpanRow w b off zs) :
    Calls Try.prog 4 #[.slice a zs.length cap] w fun e w' => e = .returned (.bool true) ∧ Below w.heap.size w w' := by
  by_cases hl : zs.length ≤ 60
  · exact joins_short a cap zs hl w hz
  · obtain ⟨b, off, rfl, hr⟩ := hz (by omega)
    have hl2 : (zs.take 60).length = 60 := by simp; omega
    exact joins_long b off cap zs.length (zs.take 60) hl2 (by omega) hc h9 (by omega) w (take_rowS hr (by omega))
end Go.Proofs.Ytnmhdodcfbjalaa
