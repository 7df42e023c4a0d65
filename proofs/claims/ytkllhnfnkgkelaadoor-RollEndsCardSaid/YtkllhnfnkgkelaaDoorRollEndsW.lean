/- The walk of RollEnds (layer 21). Condition: math/bits' table of trailing zeros lies as its text lays it. -/
import Derived.Test.YtkllhnfnkgkelaaDoorRollEnds
namespace Go.Proofs.YtkllhnfnkgkelaaDoor
set_option linter.unusedVariables false
open Go.ChangeShapes Go.WideShapes Go.ChangeAt Go.RowKit Go.Shelf
attribute [local go_sem ↓] Go.wp_at_zero Go.wp_at_succ comesTo_value_eq comesTo_skip_eq comesTo_enter_eq

/-- a drain in its block -/
structure RAt (U : World) (q : Nat) (W F : Int) (D H : NSet) : Prop where
  c0 : U.cell? ⟨q, 0, none⟩ = some (.int .i64 W)
  c1 : U.cell? ⟨q, 1, none⟩ = some (.int .i64 F)
  c2 : U.cell? ⟨q, 2, none⟩ = some (.int .u64 (nv D))
  c3 : U.cell? ⟨q, 3, none⟩ = some (.int .u64 (nv H))
  f0 : U.frozen? ⟨q, 0, none⟩ = false
  f1 : U.frozen? ⟨q, 1, none⟩ = false
  f2 : U.frozen? ⟨q, 2, none⟩ = false
  f3 : U.frozen? ⟨q, 3, none⟩ = false
theorem RAt.lt {U : World} {q : Nat} {W F : Int} {D H : NSet} (h : RAt U q W F D H) : q < U.heap.size := World.block_lt_of_cell? U _ h.c0
theorem RAt.below {U U' : World} {q : Nat} {W F : Int} {D H : NSet} (h : RAt U q W F D H) (hb : Below U.heap.size U U') : RAt U' q W F D H := by
  obtain ⟨hc, hf⟩ := bcell hb
  have l := h.lt
  exact ⟨(hc _ 0 l).trans h.c0, (hc _ 1 l).trans h.c1, (hc _ 2 l).trans h.c2, (hc _ 3 l).trans h.c3, (hf _ 0 l).trans h.f0, (hf _ 1 l).trans h.f1, (hf _ 2 l).trans h.f2, (hf _ 3 l).trans h.f3⟩
/-- the head of a turn -/
structure Head (w U : World) (N W : Int) (D : NSet) (i : Nat) : Prop where
  sub : Sub D (firstI N)
  many : i ≤ card D
  bel : Below w.heap.size w U
  r : RAt U w.heap.size W 0 D 0#64
theorem and_diff_eq (x y z : NSet) : x &&& y &&& ~~~z = x &&& y &&& ~~~z := rfl
theorem right_turn (W : Int) (D H : NSet) (n : Int) (hn : 0 ≤ n ∧ n ≤ 64) (hW : 1 ≤ W ∧ W ≤ 64) (h1 : D &&& H = 0#64) (h2 : (D ||| H) &&& ~~~firstI n = 0#64) (h3 : (card H : Int) ≤ W) (U : World) :
    Calls Tryd.prog 42 #[.agg #[.int .i64 W, .int .i64 0, .int .u64 (nv D), .int .u64 (nv H)], .int .i64 n] U fun e w' => e = .returned (.bool true) ∧ Below U.heap.size U w' := right_yes W 0 D H n U hn hW (by decide) h1 h2 h3
theorem and_is (a b x : NSet) (h : a &&& b = x) (U : World) : Calls Tryd.prog 28 #[.int .u64 (nv a), .int .u64 (nv b)] U fun e w' => e = .returned (.int .u64 (nv x)) ∧ U = w' := h ▸ and_any a b U
theorem and_none (a b : NSet) (h : a &&& b = 0#64) (U : World) : Calls Tryd.prog 28 #[.int .u64 (nv a), .int .u64 (nv b)] U fun e w' => e = .returned (.int .u64 0) ∧ U = w' := by
  have := and_any a b U
  rw [h, nv_zero] at this
  exact this
theorem less_none (a b : NSet) (h : a &&& ~~~b = 0#64) (U : World) : Calls Tryd.prog 30 #[.int .u64 (nv a), .int .u64 (nv b)] U fun e w' => e = .returned (.int .u64 0) ∧ U = w' := by
  have := less_any a b U
  rw [h, nv_zero] at this
  exact this
theorem less_is (a b x : NSet) (h : a &&& ~~~b = x) (U : World) : Calls Tryd.prog 30 #[.int .u64 (nv a), .int .u64 (nv b)] U fun e w' => e = .returned (.int .u64 (nv x)) ∧ U = w' := h ▸ less_any a b U
theorem or_is (a b x : NSet) (h : a ||| b = x) (U : World) : Calls Tryd.prog 29 #[.int .u64 (nv a), .int .u64 (nv b)] U fun e w' => e = .returned (.int .u64 (nv x)) ∧ U = w' := h ▸ or_any a b U
theorem hold_turn (W : Int) (D S : NSet) (U : World) : Calls Tryd.prog 41 #[.agg #[.int .i64 W, .int .i64 0, .int .u64 (nv D), .int .u64 (nv 0#64)], .int .u64 (nv S)] U fun e w' => e = .returned (.agg #[.int .i64 W, .int .i64 0, .int .u64 (nv D), .int .u64 (nv S)]) ∧ Below U.heap.size U w' := by
  have := hold_any W 0 D 0#64 S U
  rw [or_zero_l] at this
  exact this
/-- four cells are stored -/
theorem RAt.store {U : World} {q : Nat} {W F W' F' : Int} {D H D' H' : NSet} (h : RAt U q W F D H) :
    RAt ((((U.setCell ⟨q, 0, none⟩ (.int .i64 W')).setCell ⟨q, 1, none⟩ (.int .i64 F')).setCell ⟨q, 2, none⟩ (.int .u64 (nv D'))).setCell ⟨q, 3, none⟩ (.int .u64 (nv H'))) q W' F' D' H' := by
  obtain ⟨c0, c1, c2, c3, f0, f1, f2, f3⟩ := h
  exact ⟨by go_simp, by go_simp, by go_simp, by go_simp, by go_simp, by go_simp, by go_simp, by go_simp⟩
theorem below_store {w U : World} {q : Nat} (h : Below w.heap.size w U) (hq : w.heap.size ≤ q) (v0 v1 v2 v3 : Value) : Below w.heap.size w ((((U.setCell ⟨q, 0, none⟩ v0).setCell ⟨q, 1, none⟩ v1).setCell ⟨q, 2, none⟩ v2).setCell ⟨q, 3, none⟩ v3) :=
  (((h.setCell hq v0).setCell hq v1).setCell hq v2).setCell hq v3

set_option maxRecDepth 100000 in
set_option maxHeartbeats 4000000 in
theorem ends_walk (width nodes : Int) (a : Option Addr) (len cap : Nat) (zs : List NSet) (w : World) (hT : TabZ w) (hS : SetsAt w a len cap zs) :
    Calls Tryd.prog 10 #[.int .i64 width, .int .i64 nodes, .slice a len cap] w fun e w' => e = .returned (.bool true) ∧ Below w.heap.size w w' := by
  have e0 := mask_7 width
  have e1 := mask_63 nodes
  have b0 : 0 ≤ width % 8 ∧ width % 8 ≤ 7 := by omega
  have b1 : 0 ≤ nodes % 64 ∧ nodes % 64 ≤ 63 := by omega
  generalize width % 8 = x0 at *
  generalize nodes % 64 = x1 at *
  have hlen : (len : Int) ≤ 9223372036854775807 := by have := hS.big; omega
  have HT := Lib.hid hT
  have HS := Lib.hid hS
  clear hT hS
  have hW : 1 ≤ 1 + x0 ∧ 1 + x0 ≤ 64 := by omega
  have hN : 0 ≤ 1 + x1 ∧ 1 + x1 ≤ 64 := by omega
  go_enter Tryd.func10, Tryd.ntmps10
  go_wp2_with fail
  generalize 1 + x0 = W at *
  generalize 1 + x1 = N at *
  generalize hU : w.alloc (.cells #[.int .i64 W, .int .i64 0, .int .u64 0, .int .u64 0] 58) = U
  have hr0 : RAt U w.heap.size W 0 0#64 0#64 := by
    subst hU
    exact ⟨by go_simp, by go_simp, by rw [nv_zero]; go_simp, by rw [nv_zero]; go_simp, by go_simp, by go_simp, by go_simp, by go_simp⟩
  have hbU : Below w.heap.size w U := by rw [← hU]; exact (Below.refl _ _).alloc (Nat.le_refl _) _
  have HU := Lib.hid (And.intro hr0 hbU)
  clear hU hr0 hbU e0 e1 b0 b1
  go_loopw [8, 9, 10] (fun t u v wr => ∃ (i : Nat) (D : NSet), Head w wr N W D i ∧ t = .int .u64 (nv D) ∧ u = .int .i64 i ∧ v = .int .i64 i) (fun _ _ v _ => 300 - (intOf v).toNat)
  case atStart => exact ⟨0, 0#64, ⟨sub_zero _, Nat.zero_le _, HU.out.2, HU.out.1⟩, by rw [nv_zero], rfl, rfl⟩
  case round =>
    obtain ⟨i, D, hH, rfl, rfl, rfl⟩ := hrel
    have hcN := card_first N hN.1 hN.2
    have hcD := card_mono hH.sub
    have hiN : (i : Int) ≤ N := by have := hH.many; omega
    have hi300 : (i : Int) < 300 := by omega
    have hbel := hH.bel
    have hr := hH.r
    clear hcD hcN HU
    by_cases hov : firstI N &&& ~~~D = 0#64
    · have hD : firstI N = D := sub_antisymm hov hH.sub
      have kO := Lib.hid (fun U => rollover_any W 0 D 0#64 N U)
      rw [show decide (firstI N &&& ~~~D = 0#64) = true by simpa using hov] at kO
      have kF := Lib.hid (fun U => first_any N U)
      rw [hD] at kF
      have HB := Lib.hid hbel
      obtain ⟨c0, c1, c2, c3, f0, f1, f2, f3⟩ := hr
      clear hov hD hbel hH
      go_wp2_with fail
      refine (kO.out _).mono ?_
      rintro e w2 ⟨rfl, hb2⟩
      have hr : RAt w2 w.heap.size W 0 D 0#64 := RAt.below ⟨c0, c1, c2, c3, f0, f1, f2, f3⟩ hb2
      have HB2 := Lib.hid (below_next HB.out hb2)
      clear c0 c1 c2 c3 f0 f1 f2 f3 hb2 HB
      have l0 := hr.lt
      obtain ⟨c0, c1, c2, c3, f0, f1, f2, f3⟩ := hr
      go_wp2_with fail
      refine wp_region_boxes w2 (by kernel_rfl) (by kernel_rfl) (Below.refl _ _) ?_
      (refine textB_det ?_ rfl rfl ?_ (fun W hS => ?_) ?_; rotate_left; (focus go_simp); (focus (obtain ⟨hc, hf⟩ := bcell hS; go_simp; first | (refine ⟨?_, Below.refl _ _⟩; rfl) | rfl | exact Below.refl _ _)); (try go_simp))
      (refine textB_det ?_ rfl rfl ?_ (fun W hS => ?_) ?_; rotate_left; (focus go_simp); (focus (obtain ⟨hc, hf⟩ := bcell hS; go_simp; first | (refine ⟨?_, Below.refl _ _⟩; rfl) | rfl | exact Below.refl _ _)); (try go_simp))
      (refine textB_det ?_ rfl rfl ?_ (fun W hS => ?_) ?_; rotate_left; (focus go_simp); (focus (obtain ⟨hc, hf⟩ := bcell hS; go_simp; refine (kO.out _).mono ?_; rintro e w1 ⟨rfl, hb⟩; refine ⟨?_, hb⟩; rfl)); (try go_simp))
      (refine textB_det ?_ rfl rfl ?_ (fun W hS => ?_) ?_; rotate_left; (focus go_simp); (focus (obtain ⟨hc, hf⟩ := bcell hS; go_simp; first | (refine ⟨?_, Below.refl _ _⟩; rfl) | rfl | exact Below.refl _ _)); (try go_simp))
      (refine textB_det ?_ rfl rfl ?_ (fun W hS => ?_) ?_; rotate_left; (focus go_simp); (focus (obtain ⟨hc, hf⟩ := bcell hS; go_simp; first | (refine ⟨?_, Below.refl _ _⟩; rfl) | rfl | exact Below.refl _ _)); (try go_simp))
      (refine textB_det ?_ rfl rfl ?_ (fun W hS => ?_) ?_; rotate_left; (focus go_simp); (focus (obtain ⟨hc, hf⟩ := bcell hS; go_simp; first | (refine ⟨?_, Below.refl _ _⟩; rfl) | rfl | exact Below.refl _ _)); (try go_simp))
      (refine textB_det ?_ rfl rfl ?_ (fun W hS => ?_) ?_; rotate_left; (focus go_simp); (focus (obtain ⟨hc, hf⟩ := bcell hS; go_simp; first | (refine ⟨?_, Below.refl _ _⟩; rfl) | rfl | exact Below.refl _ _)); (try go_simp))
      (refine textB_det ?_ rfl rfl ?_ (fun W hS => ?_) ?_; rotate_left; (focus go_simp); (focus (obtain ⟨hc, hf⟩ := bcell hS; go_simp; first | (refine ⟨?_, Below.refl _ _⟩; rfl) | rfl | exact Below.refl _ _)); (try go_simp))
      (refine textB_det ?_ rfl rfl ?_ (fun W hS => ?_) ?_; rotate_left; (focus go_simp); (focus (obtain ⟨hc, hf⟩ := bcell hS; go_simp; first | (refine ⟨?_, Below.refl _ _⟩; rfl) | rfl | exact Below.refl _ _)); (try go_simp))
      (refine textB_det ?_ rfl rfl ?_ (fun W hS => ?_) ?_; rotate_left; (focus go_simp); (focus (obtain ⟨hc, hf⟩ := bcell hS; go_simp; first | (refine ⟨?_, Below.refl _ _⟩; rfl) | rfl | exact Below.refl _ _)); (try go_simp))
      (refine textB_det ?_ rfl rfl ?_ (fun W hS => ?_) ?_; rotate_left; (focus go_simp); (focus (obtain ⟨hc, hf⟩ := bcell hS; go_simp; first | (refine ⟨?_, Below.refl _ _⟩; rfl) | rfl | exact Below.refl _ _)); (try go_simp))
      (refine textB_det ?_ rfl rfl ?_ (fun W hS => ?_) ?_; rotate_left; (focus go_simp); (focus (obtain ⟨hc, hf⟩ := bcell hS; go_simp; first | (refine ⟨?_, Below.refl _ _⟩; rfl) | rfl | exact Below.refl _ _)); (try go_simp))
      (refine textB_det ?_ rfl rfl ?_ (fun W hS => ?_) ?_; rotate_left; (focus go_simp); (focus (obtain ⟨hc, hf⟩ := bcell hS; go_simp; refine (kF.out _).mono ?_; rintro e w1 ⟨rfl, rfl⟩; refine ⟨?_, Below.refl _ _⟩; rfl)); (try go_simp))
      (refine textB_det ?_ rfl rfl ?_ (fun W hS => ?_) ?_; rotate_left; (focus go_simp); (focus (obtain ⟨hc, hf⟩ := bcell hS; go_simp; first | (refine ⟨?_, Below.refl _ _⟩; rfl) | rfl | exact Below.refl _ _)); (try go_simp))
      (refine textB_det ?_ rfl rfl ?_ (fun W hS => ?_) ?_; rotate_left; (focus go_simp); (focus (obtain ⟨hc, hf⟩ := bcell hS; go_simp; first | (refine ⟨?_, Below.refl _ _⟩; rfl) | rfl | exact Below.refl _ _)); (try go_simp))
      (refine textB_det ?_ rfl rfl ?_ (fun W hS => ?_) ?_; rotate_left; (focus go_simp); (focus (obtain ⟨hc, hf⟩ := bcell hS; go_simp; first | (refine ⟨?_, Below.refl _ _⟩; rfl) | rfl | exact Below.refl _ _)); (try go_simp))
      (refine textB_det ?_ rfl rfl ?_ (fun W hS => ?_) ?_; rotate_left; (focus go_simp); (focus (obtain ⟨hc, hf⟩ := bcell hS; go_simp; refine (roll_one _ (HT.out.below (HB2.out.trans (hS.mono HB2.out.size)))).mono ?_; rintro e w1 ⟨rfl, hb⟩; refine ⟨?_, hb⟩; rfl)); (try go_simp))
      (refine textB_det ?_ rfl rfl ?_ (fun W hS => ?_) ?_; rotate_left; (focus go_simp); (focus (obtain ⟨hc, hf⟩ := bcell hS; go_simp; first | (refine ⟨?_, Below.refl _ _⟩; rfl) | rfl | exact Below.refl _ _)); (try go_simp))
      (refine textB_det ?_ rfl rfl ?_ (fun W hS => ?_) ?_; rotate_left; (focus go_simp); (focus (obtain ⟨hc, hf⟩ := bcell hS; go_simp; first | (refine ⟨?_, Below.refl _ _⟩; rfl) | rfl | exact Below.refl _ _)); (try go_simp))
      intro blk w3 hb3 hn1 hn2
      clear hn1 hn2
      simp only [List.map_nil, putAll]
      clear blk
      go_wp2
      go_ret
      exact ⟨rfl, below_next HB2.out hb3⟩
    · have kO := Lib.hid (fun U => rollover_any W 0 D 0#64 N U)
      rw [show decide (firstI N &&& ~~~D = 0#64) = false by simpa using hov] at kO
      have kF := Lib.hid (fun U => first_any N U)
      have HB := Lib.hid hbel
      have HH := Lib.hid hH
      obtain ⟨c0, c1, c2, c3, f0, f1, f2, f3⟩ := hr
      have HV := Lib.hid hov
      clear hov hbel hH
      go_wp2_with fail
      refine (kO.out _).mono ?_
      rintro e w2 ⟨rfl, hb2⟩
      have hr : RAt w2 w.heap.size W 0 D 0#64 := RAt.below ⟨c0, c1, c2, c3, f0, f1, f2, f3⟩ hb2
      have HB2 := Lib.hid (below_next HB.out hb2)
      clear c0 c1 c2 c3 f0 f1 f2 f3 hb2 HB kO
      have l0 := hr.lt
      have HR := Lib.hid hr
      obtain ⟨c0, c1, c2, c3, f0, f1, f2, f3⟩ := hr
      go_wp2_with fail
      refine (kF.out _).mono ?_
      rintro e w3 ⟨rfl, rfl⟩
      have HB := HB2
      clear HB2 kF
      go_wp2_with fail
      by_cases hlt : i < len
      · obtain ⟨b, off, rfl, hz⟩ := HS.out.cell (by omega)
        have hzi := hz i hlt
        have hbb : b < w.heap.size := World.block_lt_of_cell? w _ hzi
        have z0 : w2.cell? ⟨b, off + i, none⟩ = some (.int .u64 (nv (zs.getD i 0#64))) := (HB.out.cell (p := ⟨b, off + i, none⟩) hbb).trans hzi
        have hbb2 : b < w2.heap.size := World.block_lt_of_cell? w2 _ z0
        have hltI : (i : Int) < (len : Int) := by omega
        clear hz hzi
        generalize zs.getD i 0#64 = x at *
        have kx := Lib.hid (fun U => and_any x (firstI N) U)
        have ky := Lib.hid (fun U => less_any (x &&& firstI N) D U)
        by_cases hX : x &&& firstI N &&& ~~~D = 0#64
        · have eX : (nv (x &&& firstI N &&& ~~~D) == 0) = true := by rw [nv_is0]; simpa using hX
          clear hX
          refine wp_region_boxes w2 (by kernel_rfl) (by kernel_rfl) (Below.refl _ _) ?_
          (refine textB_det ?_ rfl rfl ?_ (fun W hS => ?_) ?_; rotate_left; (focus go_simp); (focus (obtain ⟨hc, hf⟩ := bcell hS; go_simp; first | (refine ⟨?_, Below.refl _ _⟩; rfl) | rfl | exact Below.refl _ _)); (try go_simp))
          (refine textB_det ?_ rfl rfl ?_ (fun W hS => ?_) ?_; rotate_left; (focus go_simp); (focus (obtain ⟨hc, hf⟩ := bcell hS; go_simp; first | (refine ⟨?_, Below.refl _ _⟩; rfl) | rfl | exact Below.refl _ _)); (try go_simp))
          (refine textB_det ?_ rfl rfl ?_ (fun W hS => ?_) ?_; rotate_left; (focus go_simp); (focus (obtain ⟨hc, hf⟩ := bcell hS; go_simp; first | (refine ⟨?_, Below.refl _ _⟩; rfl) | rfl | exact Below.refl _ _)); (try go_simp))
          (refine textB_det ?_ rfl rfl ?_ (fun W hS => ?_) ?_; rotate_left; (focus go_simp); (focus (obtain ⟨hc, hf⟩ := bcell hS; go_simp; first | (refine ⟨?_, Below.refl _ _⟩; rfl) | rfl | exact Below.refl _ _)); (try go_simp))
          (refine textB_det ?_ rfl rfl ?_ (fun W hS => ?_) ?_; rotate_left; (focus go_simp); (focus (obtain ⟨hc, hf⟩ := bcell hS; go_simp; first | (refine ⟨?_, Below.refl _ _⟩; rfl) | rfl | exact Below.refl _ _)); (try go_simp))
          (refine textB_det ?_ rfl rfl ?_ (fun W hS => ?_) ?_; rotate_left; (focus go_simp); (focus (obtain ⟨hc, hf⟩ := bcell hS; go_simp; first | (refine ⟨?_, Below.refl _ _⟩; rfl) | rfl | exact Below.refl _ _)); (try go_simp))
          (refine textB_det ?_ rfl rfl ?_ (fun W hS => ?_) ?_; rotate_left; (focus go_simp); (focus (obtain ⟨hc, hf⟩ := bcell hS; go_simp; first | (refine ⟨?_, Below.refl _ _⟩; rfl) | rfl | exact Below.refl _ _)); (try go_simp))
          (refine textB_det ?_ rfl rfl ?_ (fun W hS => ?_) ?_; rotate_left; (focus go_simp); (focus (obtain ⟨hc, hf⟩ := bcell hS; go_simp; first | (refine ⟨?_, Below.refl _ _⟩; rfl) | rfl | exact Below.refl _ _)); (try go_simp))
          (refine textB_det ?_ rfl rfl ?_ (fun W hS => ?_) ?_; rotate_left; (focus go_simp); (focus (obtain ⟨hc, hf⟩ := bcell hS; go_simp; first | (refine ⟨?_, Below.refl _ _⟩; rfl) | rfl | exact Below.refl _ _)); (try go_simp))
          (refine textB_det ?_ rfl rfl ?_ (fun W hS => ?_) ?_; rotate_left; (focus go_simp); (focus (obtain ⟨hc, hf⟩ := bcell hS; go_simp; first | (refine ⟨?_, Below.refl _ _⟩; rfl) | rfl | exact Below.refl _ _)); (try go_simp))
          (refine textB_det ?_ rfl rfl ?_ (fun W hS => ?_) ?_; rotate_left; (focus go_simp); (focus (obtain ⟨hc, hf⟩ := bcell hS; go_simp; refine (kx.out _).mono ?_; rintro e w1 ⟨rfl, rfl⟩; refine ⟨?_, Below.refl _ _⟩; rfl)); (try go_simp))
          (refine textB_det ?_ rfl rfl ?_ (fun W hS => ?_) ?_; rotate_left; (focus go_simp); (focus (obtain ⟨hc, hf⟩ := bcell hS; go_simp; first | (refine ⟨?_, Below.refl _ _⟩; rfl) | rfl | exact Below.refl _ _)); (try go_simp))
          (refine textB_det ?_ rfl rfl ?_ (fun W hS => ?_) ?_; rotate_left; (focus go_simp); (focus (obtain ⟨hc, hf⟩ := bcell hS; go_simp; first | (refine ⟨?_, Below.refl _ _⟩; rfl) | rfl | exact Below.refl _ _)); (try go_simp))
          (refine textB_det ?_ rfl rfl ?_ (fun W hS => ?_) ?_; rotate_left; (focus go_simp); (focus (obtain ⟨hc, hf⟩ := bcell hS; go_simp; refine (ky.out _).mono ?_; rintro e w1 ⟨rfl, rfl⟩; refine ⟨?_, Below.refl _ _⟩; rfl)); (try go_simp))
          (refine textB_det ?_ rfl rfl ?_ (fun W hS => ?_) ?_; rotate_left; (focus go_simp); (focus (obtain ⟨hc, hf⟩ := bcell hS; go_simp; first | (refine ⟨?_, Below.refl _ _⟩; rfl) | rfl | exact Below.refl _ _)); (try go_simp))
          (refine textB_det ?_ rfl rfl ?_ (fun W hS => ?_) ?_; rotate_left; (focus go_simp); (focus (obtain ⟨hc, hf⟩ := bcell hS; go_simp; first | (refine ⟨?_, Below.refl _ _⟩; rfl) | rfl | exact Below.refl _ _)); (try go_simp))
          -- REGION9
          intro blk w3 hb3 hn1 hn2
          clear hn1 hn2
          simp only [List.map_nil, putAll]
          clear blk
          have hr : RAt w3 w.heap.size W 0 D 0#64 := RAt.below ⟨c0, c1, c2, c3, f0, f1, f2, f3⟩ hb3
          replace HB := Lib.hid (below_next HB.out hb3)
          clear c0 c1 c2 c3 f0 f1 f2 f3 hb3 HR z0 hbb2 kx ky
          have hA1 : Sub (firstI N) (firstI N) := sub_refl _
          have hA2 := HV.out
          clear l0
          clear w2
          obtain ⟨S, hS, hNx⟩ := next_turn W D (firstI N) i hW (by omega) hA2
          have KN := Lib.hid hNx
          have ene : (nv S == 0) = false := by rw [nv_is0]; simpa using hS.ne
          have kA := Lib.hid (fun U => and_none S D hS.dis U)
          have kL := Lib.hid (fun U => less_none S (firstI N) hS.inn U)
          have kO := Lib.hid (fun U => or_is D S (D ||| S) rfl U)
          have kH := Lib.hid (fun U => hold_turn W D S U)
          have kC := Lib.hid (fun U => len_any S U)
          have hSF : Sub S (firstI N) := sub_trans hS.inn hA1
          have hDF : Sub (D ||| S) (firstI N) := sub_or HH.out.sub hSF
          have kR := Lib.hid (fun U => right_turn W D S N hN hW (by rw [and_comm']; exact hS.dis) hDF hS.wide U)
          have kR2 := Lib.hid (fun U => right_turn W (D ||| S) 0#64 N hN hW (by simp) (by rw [or_zero_r]; exact hDF) (by rw [card_zero]; omega) U)
          have kB := Lib.hid (fun k hk U => back_at W 0 D S k hk U)
          have hwid : (card S : Int) ≤ W := hS.wide
          have hmore := hS.more
          have hmany := HH.out.many
          have HM := Lib.hid (And.intro (show i + 1 ≤ card (D ||| S) by omega) hDF)
          clear hNx hSF hDF hA1 hA2 hS hmore hmany
          generalize (card S : Int) = cS at *
          obtain ⟨c0, c1, c2, c3, f0, f1, f2, f3⟩ := hr
          go_wp2_with fail
          refine (KN.out _ (HT.out.below HB.out)).mono ?_
          rintro e wn ⟨rfl, hbn⟩
          have hr : RAt wn w.heap.size W 0 D 0#64 := RAt.below ⟨c0, c1, c2, c3, f0, f1, f2, f3⟩ hbn
          have HB3 := Lib.hid (below_next HB.out hbn)
          clear c0 c1 c2 c3 f0 f1 f2 f3 hbn HB KN
          obtain ⟨c0, c1, c2, c3, f0, f1, f2, f3⟩ := hr
          go_wp2_with fail
          refine (kA.out _).mono ?_
          rintro e w4 ⟨rfl, rfl⟩
          go_wp2_with fail
          refine (kL.out _).mono ?_
          rintro e w4 ⟨rfl, rfl⟩
          go_wp2_with fail
          refine (kO.out _).mono ?_
          rintro e w4 ⟨rfl, rfl⟩
          go_wp2_with fail
          refine (kH.out _).mono ?_
          rintro e w4 ⟨rfl, hb4⟩
          have hr : RAt w4 w.heap.size W 0 D 0#64 := RAt.below ⟨c0, c1, c2, c3, f0, f1, f2, f3⟩ hb4
          have HB4 := Lib.hid (below_next HB3.out hb4)
          clear c0 c1 c2 c3 f0 f1 f2 f3 hb4 HB3 kA kL kO kH
          have hrs := Lib.hid (hr.store (W' := W) (F' := 0) (D' := D) (H' := S))
          have HB5 := Lib.hid (below_store HB4.out (Nat.le_refl _) (.int .i64 W) (.int .i64 0) (.int .u64 (nv D)) (.int .u64 (nv S)))
          obtain ⟨c0, c1, c2, c3, f0, f1, f2, f3⟩ := hr
          go_wp2_with fail
          generalize ((((w4.setCell ⟨w.heap.size, 0, none⟩ (.int .i64 W)).setCell ⟨w.heap.size, 1, none⟩ (.int .i64 0)).setCell ⟨w.heap.size, 2, none⟩ (.int .u64 (nv D))).setCell ⟨w.heap.size, 3, none⟩ (.int .u64 (nv S))) = w5 at *
          clear c0 c1 c2 c3 f0 f1 f2 f3 HB4
          clear w4
          obtain ⟨c0, c1, c2, c3, f0, f1, f2, f3⟩ := hrs.out
          clear hrs
          refine (kC.out _).mono ?_
          rintro e w6 ⟨rfl, rfl⟩
          go_wp2_with fail
          refine (kR.out _).mono ?_
          rintro e w6 ⟨rfl, hb6⟩
          have hr : RAt w6 w.heap.size W 0 D S := RAt.below ⟨c0, c1, c2, c3, f0, f1, f2, f3⟩ hb6
          have HB6 := Lib.hid (below_next HB5.out hb6)
          clear c0 c1 c2 c3 f0 f1 f2 f3 hb6 HB5 kC kR
          have HR6 := Lib.hid hr
          clear hr
          go_wp2_with fail
          go_loopw [13] (fun v wi => ∃ k : Nat, k ≤ 64 ∧ v = .int .i64 k ∧ RAt wi w.heap.size W 0 (dAt D S k) (hAt S k) ∧ Below w.heap.size w wi) (fun v _ => 64 - (intOf v).toNat)
          case atStart => exact ⟨0, by omega, rfl, by rw [dAt_0, hAt_0]; exact HR6.out, HB6.out⟩
          case round =>
            obtain ⟨k, hk, rfl, hri, hbi⟩ := hrel
            clear HR6 HB6
            have HBI := Lib.hid hbi
            clear hbi
            by_cases hk6 : k < 64
            · have KB := Lib.hid (fun U => kB.out k hk6 U)
              have hkI : (k : Int) < 64 := by omega
              clear kB kR2
              obtain ⟨c0, c1, c2, c3, f0, f1, f2, f3⟩ := hri
              go_wp2_with fail
              refine (KB.out _).mono ?_
              rintro e w7 ⟨rfl, hb7⟩
              have hr : RAt w7 w.heap.size W 0 (dAt D S k) (hAt S k) := RAt.below ⟨c0, c1, c2, c3, f0, f1, f2, f3⟩ hb7
              have HB7 := Lib.hid (below_next HBI.out hb7)
              clear c0 c1 c2 c3 f0 f1 f2 f3 hb7 HBI KB
              have hrs := Lib.hid (hr.store (W' := W) (F' := 0) (D' := dAt D S (k + 1)) (H' := hAt S (k + 1)))
              have HB8 := Lib.hid (below_store HB7.out (Nat.le_refl _) (.int .i64 W) (.int .i64 0) (.int .u64 (nv (dAt D S (k + 1)))) (.int .u64 (nv (hAt S (k + 1)))))
              obtain ⟨c0, c1, c2, c3, f0, f1, f2, f3⟩ := hr
              go_wp2_with fail
              go_roundw
              case rel => exact ⟨k + 1, by omega, by go_num, hrs.out, HB8.out⟩
              case measure => simp [intOf]; omega
            · obtain rfl : k = 64 := by omega
              rw [dAt_64, hAt_64] at hri
              obtain ⟨c0, c1, c2, c3, f0, f1, f2, f3⟩ := hri
              have e00 : (nv 0#64 == 0) = true := by decide
              clear kB
              go_wp2_with fail
              refine (kR2.out _).mono ?_
              rintro e w7 ⟨rfl, hb7⟩
              have hr : RAt w7 w.heap.size W 0 (D ||| S) 0#64 := RAt.below ⟨c0, c1, c2, c3, f0, f1, f2, f3⟩ hb7
              have HB7 := Lib.hid (below_next HBI.out hb7)
              have HRR := Lib.hid hr
              clear c0 c1 c2 c3 f0 f1 f2 f3 hb7 HBI kR2 hr
              go_wp2_with fail
              go_roundw
              case rel => exact ⟨i + 1, D ||| S, ⟨HM.out.2, HM.out.1, HB7.out, HRR.out⟩, rfl, by go_num, by go_num⟩
              case measure => simp [intOf]; omega
        · have eX : (nv (x &&& firstI N &&& ~~~D) == 0) = false := by rw [nv_is0]; simpa using hX
          have hA2 := Lib.hid hX
          clear hX
          refine wp_region_boxes w2 (by kernel_rfl) (by kernel_rfl) (Below.refl _ _) ?_
          (refine textB_det ?_ rfl rfl ?_ (fun W hS => ?_) ?_; rotate_left; (focus go_simp); (focus (obtain ⟨hc, hf⟩ := bcell hS; go_simp; first | (refine ⟨?_, Below.refl _ _⟩; rfl) | rfl | exact Below.refl _ _)); (try go_simp))
          (refine textB_det ?_ rfl rfl ?_ (fun W hS => ?_) ?_; rotate_left; (focus go_simp); (focus (obtain ⟨hc, hf⟩ := bcell hS; go_simp; first | (refine ⟨?_, Below.refl _ _⟩; rfl) | rfl | exact Below.refl _ _)); (try go_simp))
          (refine textB_det ?_ rfl rfl ?_ (fun W hS => ?_) ?_; rotate_left; (focus go_simp); (focus (obtain ⟨hc, hf⟩ := bcell hS; go_simp; first | (refine ⟨?_, Below.refl _ _⟩; rfl) | rfl | exact Below.refl _ _)); (try go_simp))
          (refine textB_det ?_ rfl rfl ?_ (fun W hS => ?_) ?_; rotate_left; (focus go_simp); (focus (obtain ⟨hc, hf⟩ := bcell hS; go_simp; first | (refine ⟨?_, Below.refl _ _⟩; rfl) | rfl | exact Below.refl _ _)); (try go_simp))
          (refine textB_det ?_ rfl rfl ?_ (fun W hS => ?_) ?_; rotate_left; (focus go_simp); (focus (obtain ⟨hc, hf⟩ := bcell hS; go_simp; first | (refine ⟨?_, Below.refl _ _⟩; rfl) | rfl | exact Below.refl _ _)); (try go_simp))
          (refine textB_det ?_ rfl rfl ?_ (fun W hS => ?_) ?_; rotate_left; (focus go_simp); (focus (obtain ⟨hc, hf⟩ := bcell hS; go_simp; first | (refine ⟨?_, Below.refl _ _⟩; rfl) | rfl | exact Below.refl _ _)); (try go_simp))
          (refine textB_det ?_ rfl rfl ?_ (fun W hS => ?_) ?_; rotate_left; (focus go_simp); (focus (obtain ⟨hc, hf⟩ := bcell hS; go_simp; first | (refine ⟨?_, Below.refl _ _⟩; rfl) | rfl | exact Below.refl _ _)); (try go_simp))
          (refine textB_det ?_ rfl rfl ?_ (fun W hS => ?_) ?_; rotate_left; (focus go_simp); (focus (obtain ⟨hc, hf⟩ := bcell hS; go_simp; first | (refine ⟨?_, Below.refl _ _⟩; rfl) | rfl | exact Below.refl _ _)); (try go_simp))
          (refine textB_det ?_ rfl rfl ?_ (fun W hS => ?_) ?_; rotate_left; (focus go_simp); (focus (obtain ⟨hc, hf⟩ := bcell hS; go_simp; first | (refine ⟨?_, Below.refl _ _⟩; rfl) | rfl | exact Below.refl _ _)); (try go_simp))
          (refine textB_det ?_ rfl rfl ?_ (fun W hS => ?_) ?_; rotate_left; (focus go_simp); (focus (obtain ⟨hc, hf⟩ := bcell hS; go_simp; first | (refine ⟨?_, Below.refl _ _⟩; rfl) | rfl | exact Below.refl _ _)); (try go_simp))
          (refine textB_det ?_ rfl rfl ?_ (fun W hS => ?_) ?_; rotate_left; (focus go_simp); (focus (obtain ⟨hc, hf⟩ := bcell hS; go_simp; refine (kx.out _).mono ?_; rintro e w1 ⟨rfl, rfl⟩; refine ⟨?_, Below.refl _ _⟩; rfl)); (try go_simp))
          (refine textB_det ?_ rfl rfl ?_ (fun W hS => ?_) ?_; rotate_left; (focus go_simp); (focus (obtain ⟨hc, hf⟩ := bcell hS; go_simp; first | (refine ⟨?_, Below.refl _ _⟩; rfl) | rfl | exact Below.refl _ _)); (try go_simp))
          (refine textB_det ?_ rfl rfl ?_ (fun W hS => ?_) ?_; rotate_left; (focus go_simp); (focus (obtain ⟨hc, hf⟩ := bcell hS; go_simp; first | (refine ⟨?_, Below.refl _ _⟩; rfl) | rfl | exact Below.refl _ _)); (try go_simp))
          (refine textB_det ?_ rfl rfl ?_ (fun W hS => ?_) ?_; rotate_left; (focus go_simp); (focus (obtain ⟨hc, hf⟩ := bcell hS; go_simp; refine (ky.out _).mono ?_; rintro e w1 ⟨rfl, rfl⟩; refine ⟨?_, Below.refl _ _⟩; rfl)); (try go_simp))
          (refine textB_det ?_ rfl rfl ?_ (fun W hS => ?_) ?_; rotate_left; (focus go_simp); (focus (obtain ⟨hc, hf⟩ := bcell hS; go_simp; first | (refine ⟨?_, Below.refl _ _⟩; rfl) | rfl | exact Below.refl _ _)); (try go_simp))
          (refine textB_det ?_ rfl rfl ?_ (fun W hS => ?_) ?_; rotate_left; (focus go_simp); (focus (obtain ⟨hc, hf⟩ := bcell hS; go_simp; first | (refine ⟨?_, Below.refl _ _⟩; rfl) | rfl | exact Below.refl _ _)); (try go_simp))
          intro blk w3 hb3 hn1 hn2
          clear hn1 hn2
          simp only [List.map_nil, putAll]
          clear blk
          have hr : RAt w3 w.heap.size W 0 D 0#64 := RAt.below ⟨c0, c1, c2, c3, f0, f1, f2, f3⟩ hb3
          replace z0 := ((bcell hb3).1 b (off + i) hbb2).trans z0
          replace HB := Lib.hid (below_next HB.out hb3)
          clear c0 c1 c2 c3 f0 f1 f2 f3 hb3 HR hbb2 ky
          clear l0
          clear w2
          go_wp2_with fail
          refine (kx.out _).mono ?_
          rintro e wk ⟨rfl, rfl⟩
          clear kx
          have hA1 : Sub (x &&& firstI N) (firstI N) := sub_and_l _ _
          replace hA2 := hA2.out
          obtain ⟨S, hS, hNx⟩ := next_turn W D (x &&& firstI N) i hW (by omega) hA2
          have KN := Lib.hid hNx
          have ene : (nv S == 0) = false := by rw [nv_is0]; simpa using hS.ne
          have kA := Lib.hid (fun U => and_none S D hS.dis U)
          have kL := Lib.hid (fun U => less_none S (x &&& firstI N) hS.inn U)
          have kO := Lib.hid (fun U => or_is D S (D ||| S) rfl U)
          have kH := Lib.hid (fun U => hold_turn W D S U)
          have kC := Lib.hid (fun U => len_any S U)
          have hSF : Sub S (firstI N) := sub_trans hS.inn hA1
          have hDF : Sub (D ||| S) (firstI N) := sub_or HH.out.sub hSF
          have kR := Lib.hid (fun U => right_turn W D S N hN hW (by rw [and_comm']; exact hS.dis) hDF hS.wide U)
          have kR2 := Lib.hid (fun U => right_turn W (D ||| S) 0#64 N hN hW (by simp) (by rw [or_zero_r]; exact hDF) (by rw [card_zero]; omega) U)
          have kB := Lib.hid (fun k hk U => back_at W 0 D S k hk U)
          have hwid : (card S : Int) ≤ W := hS.wide
          have hmore := hS.more
          have hmany := HH.out.many
          have HM := Lib.hid (And.intro (show i + 1 ≤ card (D ||| S) by omega) hDF)
          clear hNx hSF hDF hA1 hA2 hS hmore hmany
          generalize (card S : Int) = cS at *
          obtain ⟨c0, c1, c2, c3, f0, f1, f2, f3⟩ := hr
          go_wp2_with fail
          refine (KN.out _ (HT.out.below HB.out)).mono ?_
          rintro e wn ⟨rfl, hbn⟩
          have hr : RAt wn w.heap.size W 0 D 0#64 := RAt.below ⟨c0, c1, c2, c3, f0, f1, f2, f3⟩ hbn
          have HB3 := Lib.hid (below_next HB.out hbn)
          clear c0 c1 c2 c3 f0 f1 f2 f3 hbn HB KN
          obtain ⟨c0, c1, c2, c3, f0, f1, f2, f3⟩ := hr
          go_wp2_with fail
          refine (kA.out _).mono ?_
          rintro e w4 ⟨rfl, rfl⟩
          go_wp2_with fail
          refine (kL.out _).mono ?_
          rintro e w4 ⟨rfl, rfl⟩
          go_wp2_with fail
          refine (kO.out _).mono ?_
          rintro e w4 ⟨rfl, rfl⟩
          go_wp2_with fail
          refine (kH.out _).mono ?_
          rintro e w4 ⟨rfl, hb4⟩
          have hr : RAt w4 w.heap.size W 0 D 0#64 := RAt.below ⟨c0, c1, c2, c3, f0, f1, f2, f3⟩ hb4
          have HB4 := Lib.hid (below_next HB3.out hb4)
          clear c0 c1 c2 c3 f0 f1 f2 f3 hb4 HB3 kA kL kO kH
          have hrs := Lib.hid (hr.store (W' := W) (F' := 0) (D' := D) (H' := S))
          have HB5 := Lib.hid (below_store HB4.out (Nat.le_refl _) (.int .i64 W) (.int .i64 0) (.int .u64 (nv D)) (.int .u64 (nv S)))
          obtain ⟨c0, c1, c2, c3, f0, f1, f2, f3⟩ := hr
          go_wp2_with fail
          generalize ((((w4.setCell ⟨w.heap.size, 0, none⟩ (.int .i64 W)).setCell ⟨w.heap.size, 1, none⟩ (.int .i64 0)).setCell ⟨w.heap.size, 2, none⟩ (.int .u64 (nv D))).setCell ⟨w.heap.size, 3, none⟩ (.int .u64 (nv S))) = w5 at *
          clear c0 c1 c2 c3 f0 f1 f2 f3 HB4
          clear w4
          obtain ⟨c0, c1, c2, c3, f0, f1, f2, f3⟩ := hrs.out
          clear hrs
          refine (kC.out _).mono ?_
          rintro e w6 ⟨rfl, rfl⟩
          go_wp2_with fail
          refine (kR.out _).mono ?_
          rintro e w6 ⟨rfl, hb6⟩
          have hr : RAt w6 w.heap.size W 0 D S := RAt.below ⟨c0, c1, c2, c3, f0, f1, f2, f3⟩ hb6
          have HB6 := Lib.hid (below_next HB5.out hb6)
          clear c0 c1 c2 c3 f0 f1 f2 f3 hb6 HB5 kC kR
          have HR6 := Lib.hid hr
          clear hr
          go_wp2_with fail
          go_loopw [13] (fun v wi => ∃ k : Nat, k ≤ 64 ∧ v = .int .i64 k ∧ RAt wi w.heap.size W 0 (dAt D S k) (hAt S k) ∧ Below w.heap.size w wi) (fun v _ => 64 - (intOf v).toNat)
          case atStart => exact ⟨0, by omega, rfl, by rw [dAt_0, hAt_0]; exact HR6.out, HB6.out⟩
          case round =>
            obtain ⟨k, hk, rfl, hri, hbi⟩ := hrel
            clear HR6 HB6
            have HBI := Lib.hid hbi
            clear hbi
            by_cases hk6 : k < 64
            · have KB := Lib.hid (fun U => kB.out k hk6 U)
              have hkI : (k : Int) < 64 := by omega
              clear kB kR2
              obtain ⟨c0, c1, c2, c3, f0, f1, f2, f3⟩ := hri
              go_wp2_with fail
              refine (KB.out _).mono ?_
              rintro e w7 ⟨rfl, hb7⟩
              have hr : RAt w7 w.heap.size W 0 (dAt D S k) (hAt S k) := RAt.below ⟨c0, c1, c2, c3, f0, f1, f2, f3⟩ hb7
              have HB7 := Lib.hid (below_next HBI.out hb7)
              clear c0 c1 c2 c3 f0 f1 f2 f3 hb7 HBI KB
              have hrs := Lib.hid (hr.store (W' := W) (F' := 0) (D' := dAt D S (k + 1)) (H' := hAt S (k + 1)))
              have HB8 := Lib.hid (below_store HB7.out (Nat.le_refl _) (.int .i64 W) (.int .i64 0) (.int .u64 (nv (dAt D S (k + 1)))) (.int .u64 (nv (hAt S (k + 1)))))
              obtain ⟨c0, c1, c2, c3, f0, f1, f2, f3⟩ := hr
              go_wp2_with fail
              go_roundw
              case rel => exact ⟨k + 1, by omega, by go_num, hrs.out, HB8.out⟩
              case measure => simp [intOf]; omega
            · obtain rfl : k = 64 := by omega
              rw [dAt_64, hAt_64] at hri
              obtain ⟨c0, c1, c2, c3, f0, f1, f2, f3⟩ := hri
              have e00 : (nv 0#64 == 0) = true := by decide
              clear kB
              go_wp2_with fail
              refine (kR2.out _).mono ?_
              rintro e w7 ⟨rfl, hb7⟩
              have hr : RAt w7 w.heap.size W 0 (D ||| S) 0#64 := RAt.below ⟨c0, c1, c2, c3, f0, f1, f2, f3⟩ hb7
              have HB7 := Lib.hid (below_next HBI.out hb7)
              have HRR := Lib.hid hr
              clear c0 c1 c2 c3 f0 f1 f2 f3 hb7 HBI kR2 hr
              go_wp2_with fail
              go_roundw
              case rel => exact ⟨i + 1, D ||| S, ⟨HM.out.2, HM.out.1, HB7.out, HRR.out⟩, rfl, by go_num, by go_num⟩
              case measure => simp [intOf]; omega
      · have hltI : (len : Int) ≤ (i : Int) := by omega
        refine wp_region_boxes w2 (by kernel_rfl) (by kernel_rfl) (Below.refl _ _) ?_
        (refine textB_det ?_ rfl rfl ?_ (fun W hS => ?_) ?_; rotate_left; (focus go_simp); (focus (obtain ⟨hc, hf⟩ := bcell hS; go_simp; first | (refine ⟨?_, Below.refl _ _⟩; rfl) | rfl | exact Below.refl _ _)); (try go_simp))
        (refine textB_det ?_ rfl rfl ?_ (fun W hS => ?_) ?_; rotate_left; (focus go_simp); (focus (obtain ⟨hc, hf⟩ := bcell hS; go_simp; first | (refine ⟨?_, Below.refl _ _⟩; rfl) | rfl | exact Below.refl _ _)); (try go_simp))
        (refine textB_det ?_ rfl rfl ?_ (fun W hS => ?_) ?_; rotate_left; (focus go_simp); (focus (obtain ⟨hc, hf⟩ := bcell hS; go_simp; first | (refine ⟨?_, Below.refl _ _⟩; rfl) | rfl | exact Below.refl _ _)); (try go_simp))
        (refine textB_det ?_ rfl rfl ?_ (fun W hS => ?_) ?_; rotate_left; (focus go_simp); (focus (obtain ⟨hc, hf⟩ := bcell hS; go_simp; first | (refine ⟨?_, Below.refl _ _⟩; rfl) | rfl | exact Below.refl _ _)); (try go_simp))
        (refine textB_det ?_ rfl rfl ?_ (fun W hS => ?_) ?_; rotate_left; (focus go_simp); (focus (obtain ⟨hc, hf⟩ := bcell hS; go_simp; first | (refine ⟨?_, Below.refl _ _⟩; rfl) | rfl | exact Below.refl _ _)); (try go_simp))
        (refine textB_skip rfl rfl ?_ ?_; (focus (first | (go_simp; done) | (go_simp; intro h; cases h))); (try go_simp))
        (refine textB_skip rfl rfl ?_ ?_; (focus (first | (go_simp; done) | (go_simp; intro h; cases h))); (try go_simp))
        (refine textB_skip rfl rfl ?_ ?_; (focus (first | (go_simp; done) | (go_simp; intro h; cases h))); (try go_simp))
        (refine textB_skip rfl rfl ?_ ?_; (focus (first | (go_simp; done) | (go_simp; intro h; cases h))); (try go_simp))
        (refine textB_skip rfl rfl ?_ ?_; (focus (first | (go_simp; done) | (go_simp; intro h; cases h))); (try go_simp))
        (refine textB_skip rfl rfl ?_ ?_; (focus (first | (go_simp; done) | (go_simp; intro h; cases h))); (try go_simp))
        (refine textB_skip rfl rfl ?_ ?_; (focus (first | (go_simp; done) | (go_simp; intro h; cases h))); (try go_simp))
        (refine textB_skip rfl rfl ?_ ?_; (focus (first | (go_simp; done) | (go_simp; intro h; cases h))); (try go_simp))
        (refine textB_skip rfl rfl ?_ ?_; (focus (first | (go_simp; done) | (go_simp; intro h; cases h))); (try go_simp))
        (refine textB_skip rfl rfl ?_ ?_; (focus (first | (go_simp; done) | (go_simp; intro h; cases h))); (try go_simp))
        (refine textB_det ?_ rfl rfl ?_ (fun W hS => ?_) ?_; rotate_left; (focus go_simp); (focus (obtain ⟨hc, hf⟩ := bcell hS; go_simp; first | (refine ⟨?_, Below.refl _ _⟩; rfl) | rfl | exact Below.refl _ _)); (try go_simp))
        intro blk w3 hb3 hn1 hn2
        clear hn1 hn2
        simp only [List.map_nil, putAll]
        clear blk
        have hr : RAt w3 w.heap.size W 0 D 0#64 := RAt.below ⟨c0, c1, c2, c3, f0, f1, f2, f3⟩ hb3
        replace HB := Lib.hid (below_next HB.out hb3)
        clear c0 c1 c2 c3 f0 f1 f2 f3 hb3 HR
        have hA1 : Sub (firstI N) (firstI N) := sub_refl _
        have hA2 := HV.out
        clear l0
        clear w2
        obtain ⟨S, hS, hNx⟩ := next_turn W D (firstI N) i hW (by omega) hA2
        have KN := Lib.hid hNx
        have ene : (nv S == 0) = false := by rw [nv_is0]; simpa using hS.ne
        have kA := Lib.hid (fun U => and_none S D hS.dis U)
        have kL := Lib.hid (fun U => less_none S (firstI N) hS.inn U)
        have kO := Lib.hid (fun U => or_is D S (D ||| S) rfl U)
        have kH := Lib.hid (fun U => hold_turn W D S U)
        have kC := Lib.hid (fun U => len_any S U)
        have hSF : Sub S (firstI N) := sub_trans hS.inn hA1
        have hDF : Sub (D ||| S) (firstI N) := sub_or HH.out.sub hSF
        have kR := Lib.hid (fun U => right_turn W D S N hN hW (by rw [and_comm']; exact hS.dis) hDF hS.wide U)
        have kR2 := Lib.hid (fun U => right_turn W (D ||| S) 0#64 N hN hW (by simp) (by rw [or_zero_r]; exact hDF) (by rw [card_zero]; omega) U)
        have kB := Lib.hid (fun k hk U => back_at W 0 D S k hk U)
        have hwid : (card S : Int) ≤ W := hS.wide
        have hmore := hS.more
        have hmany := HH.out.many
        have HM := Lib.hid (And.intro (show i + 1 ≤ card (D ||| S) by omega) hDF)
        clear hNx hSF hDF hA1 hA2 hS hmore hmany
        generalize (card S : Int) = cS at *
        obtain ⟨c0, c1, c2, c3, f0, f1, f2, f3⟩ := hr
        go_wp2_with fail
        refine (KN.out _ (HT.out.below HB.out)).mono ?_
        rintro e wn ⟨rfl, hbn⟩
        have hr : RAt wn w.heap.size W 0 D 0#64 := RAt.below ⟨c0, c1, c2, c3, f0, f1, f2, f3⟩ hbn
        have HB3 := Lib.hid (below_next HB.out hbn)
        clear c0 c1 c2 c3 f0 f1 f2 f3 hbn HB KN
        obtain ⟨c0, c1, c2, c3, f0, f1, f2, f3⟩ := hr
        go_wp2_with fail
        refine (kA.out _).mono ?_
        rintro e w4 ⟨rfl, rfl⟩
        go_wp2_with fail
        refine (kL.out _).mono ?_
        rintro e w4 ⟨rfl, rfl⟩
        go_wp2_with fail
        refine (kO.out _).mono ?_
        rintro e w4 ⟨rfl, rfl⟩
        go_wp2_with fail
        refine (kH.out _).mono ?_
        rintro e w4 ⟨rfl, hb4⟩
        have hr : RAt w4 w.heap.size W 0 D 0#64 := RAt.below ⟨c0, c1, c2, c3, f0, f1, f2, f3⟩ hb4
        have HB4 := Lib.hid (below_next HB3.out hb4)
        clear c0 c1 c2 c3 f0 f1 f2 f3 hb4 HB3 kA kL kO kH
        have hrs := Lib.hid (hr.store (W' := W) (F' := 0) (D' := D) (H' := S))
        have HB5 := Lib.hid (below_store HB4.out (Nat.le_refl _) (.int .i64 W) (.int .i64 0) (.int .u64 (nv D)) (.int .u64 (nv S)))
        obtain ⟨c0, c1, c2, c3, f0, f1, f2, f3⟩ := hr
        go_wp2_with fail
        generalize ((((w4.setCell ⟨w.heap.size, 0, none⟩ (.int .i64 W)).setCell ⟨w.heap.size, 1, none⟩ (.int .i64 0)).setCell ⟨w.heap.size, 2, none⟩ (.int .u64 (nv D))).setCell ⟨w.heap.size, 3, none⟩ (.int .u64 (nv S))) = w5 at *
        clear c0 c1 c2 c3 f0 f1 f2 f3 HB4
        clear w4
        obtain ⟨c0, c1, c2, c3, f0, f1, f2, f3⟩ := hrs.out
        clear hrs
        refine (kC.out _).mono ?_
        rintro e w6 ⟨rfl, rfl⟩
        go_wp2_with fail
        refine (kR.out _).mono ?_
        rintro e w6 ⟨rfl, hb6⟩
        have hr : RAt w6 w.heap.size W 0 D S := RAt.below ⟨c0, c1, c2, c3, f0, f1, f2, f3⟩ hb6
        have HB6 := Lib.hid (below_next HB5.out hb6)
        clear c0 c1 c2 c3 f0 f1 f2 f3 hb6 HB5 kC kR
        have HR6 := Lib.hid hr
        clear hr
        go_wp2_with fail
        go_loopw [13] (fun v wi => ∃ k : Nat, k ≤ 64 ∧ v = .int .i64 k ∧ RAt wi w.heap.size W 0 (dAt D S k) (hAt S k) ∧ Below w.heap.size w wi) (fun v _ => 64 - (intOf v).toNat)
        case atStart => exact ⟨0, by omega, rfl, by rw [dAt_0, hAt_0]; exact HR6.out, HB6.out⟩
        case round =>
          obtain ⟨k, hk, rfl, hri, hbi⟩ := hrel
          clear HR6 HB6
          have HBI := Lib.hid hbi
          clear hbi
          by_cases hk6 : k < 64
          · have KB := Lib.hid (fun U => kB.out k hk6 U)
            have hkI : (k : Int) < 64 := by omega
            clear kB kR2
            obtain ⟨c0, c1, c2, c3, f0, f1, f2, f3⟩ := hri
            go_wp2_with fail
            refine (KB.out _).mono ?_
            rintro e w7 ⟨rfl, hb7⟩
            have hr : RAt w7 w.heap.size W 0 (dAt D S k) (hAt S k) := RAt.below ⟨c0, c1, c2, c3, f0, f1, f2, f3⟩ hb7
            have HB7 := Lib.hid (below_next HBI.out hb7)
            clear c0 c1 c2 c3 f0 f1 f2 f3 hb7 HBI KB
            have hrs := Lib.hid (hr.store (W' := W) (F' := 0) (D' := dAt D S (k + 1)) (H' := hAt S (k + 1)))
            have HB8 := Lib.hid (below_store HB7.out (Nat.le_refl _) (.int .i64 W) (.int .i64 0) (.int .u64 (nv (dAt D S (k + 1)))) (.int .u64 (nv (hAt S (k + 1)))))
            obtain ⟨c0, c1, c2, c3, f0, f1, f2, f3⟩ := hr
            go_wp2_with fail
            go_roundw
            case rel => exact ⟨k + 1, by omega, by go_num, hrs.out, HB8.out⟩
            case measure => simp [intOf]; omega
          · obtain rfl : k = 64 := by omega
            rw [dAt_64, hAt_64] at hri
            obtain ⟨c0, c1, c2, c3, f0, f1, f2, f3⟩ := hri
            have e00 : (nv 0#64 == 0) = true := by decide
            clear kB
            go_wp2_with fail
            refine (kR2.out _).mono ?_
            rintro e w7 ⟨rfl, hb7⟩
            have hr : RAt w7 w.heap.size W 0 (D ||| S) 0#64 := RAt.below ⟨c0, c1, c2, c3, f0, f1, f2, f3⟩ hb7
            have HB7 := Lib.hid (below_next HBI.out hb7)
            have HRR := Lib.hid hr
            clear c0 c1 c2 c3 f0 f1 f2 f3 hb7 HBI kR2 hr
            go_wp2_with fail
            go_roundw
            case rel => exact ⟨i + 1, D ||| S, ⟨HM.out.2, HM.out.1, HB7.out, HRR.out⟩, rfl, by go_num, by go_num⟩
            case measure => simp [intOf]; omega
end Go.Proofs.YtkllhnfnkgkelaaDoor
