/- Contracts of a drain (layer 21, roll): Next, Right. Condition: math/bits' table of trailing zeros lies as its text lays it (Next). -/
import Derived.Test.YtkllhnfnkgkelaaDoorRoll
namespace Go.Proofs.YtkllhnfnkgkelaaDoor
set_option linter.unusedVariables false
open Go.ChangeShapes Go.WideShapes Go.ChangeAt Go.RowKit Go.Shelf
attribute [local go_sem ↓] Go.wp_at_zero Go.wp_at_succ comesTo_value_eq comesTo_skip_eq comesTo_enter_eq

def minZ (x y : Int) : Int := if y < x then y else x
theorem run_minZ {P : Program} (w : World) (ts : Array TypeId) (t : TypeId) (k k' : IntKind) (x y : Int) : (Builtin.min_ ts t #[.int k x, .int k' y]).run P w = .ok (.int k (minZ x y)) w := run_min_int2 w ts t k k' x y
attribute [local go_sem high] run_minZ

theorem next_late (W F : Int) (D H : NSet) (n : Int) (I : NSet) (w : World) (h : n < F) :
    Calls Tryd.prog 40 #[.agg #[.int .i64 W, .int .i64 F, .int .u64 (nv D), .int .u64 (nv H)], .int .i64 n, .int .u64 (nv I)] w fun e w' => e = .returned (.int .u64 0) ∧ Below w.heap.size w w' := by
  have hd : decide (F ≤ n) = false := by simp; omega
  have k1 := Lib.hid (fun W' => len_any H W')
  have k2 := Lib.hid (fun W' => rollon_any W F D H n W')
  rw [hd] at k2
  clear hd h
  generalize (card H : Int) = c at *
  go_enter Tryd.func40, Tryd.ntmps40
  go_wp2_with fail
  refine (k1.out _).mono ?_
  rintro e w1 ⟨rfl, rfl⟩
  go_wp2_with fail
  refine (k2.out _).mono ?_
  rintro e w1 ⟨rfl, hb1⟩
  have HB := Lib.hid (show Below w.heap.size w w1 from Below.trans (by exact (by repeat (first | exact Below.refl _ _ | assumption | refine below_drewN ?_ _ | refine Below.drew ?_ | refine below_alloc ?_ _ | refine Below.alloc ?_ (by first | omega | (simp; done) | (simp; omega)) _ | refine Below.setCell ?_ (Below.size (by assumption)) _ | refine Below.setCell ?_ (by first | omega | (simp; done) | (simp; omega)) _ | (refine Below.trans ?_ (Below.mono (by assumption) (by first | omega | (simp; done) | (simp; omega)))) | refine below_next ?_ (by assumption)))) (hb1.mono (by simp)))
  clear hb1
  go_wp2
  go_ret
  exact ⟨rfl, HB.out⟩
theorem next_full (W F : Int) (D H : NSet) (n : Int) (I : NSet) (w : World) (h : F ≤ n) (hc : W ≤ (card H : Int)) :
    Calls Tryd.prog 40 #[.agg #[.int .i64 W, .int .i64 F, .int .u64 (nv D), .int .u64 (nv H)], .int .i64 n, .int .u64 (nv I)] w fun e w' => e = .returned (.int .u64 0) ∧ Below w.heap.size w w' := by
  have hd : decide (F ≤ n) = true := by simp; omega
  have k1 := Lib.hid (fun W' => len_any H W')
  have k2 := Lib.hid (fun W' => rollon_any W F D H n W')
  rw [hd] at k2
  clear hd h
  generalize (card H : Int) = c at *
  go_enter Tryd.func40, Tryd.ntmps40
  go_wp2_with fail
  refine (k1.out _).mono ?_
  rintro e w1 ⟨rfl, rfl⟩
  go_wp2_with fail
  refine (k2.out _).mono ?_
  rintro e w1 ⟨rfl, hb1⟩
  obtain ⟨hc', hf⟩ := bcell hb1
  have a0 : w1.cell? ⟨w.heap.size, 0, none⟩ = some (.int .i64 W) := (hc' _ 0 (by simp)).trans (by go_simp)
  have HB := Lib.hid (show Below w.heap.size w w1 from Below.trans (by exact (by repeat (first | exact Below.refl _ _ | assumption | refine below_drewN ?_ _ | refine Below.drew ?_ | refine below_alloc ?_ _ | refine Below.alloc ?_ (by first | omega | (simp; done) | (simp; omega)) _ | refine Below.setCell ?_ (Below.size (by assumption)) _ | refine Below.setCell ?_ (by first | omega | (simp; done) | (simp; omega)) _ | (refine Below.trans ?_ (Below.mono (by assumption) (by first | omega | (simp; done) | (simp; omega)))) | refine below_next ?_ (by assumption)))) (hb1.mono (by simp)))
  clear hb1 hc' hf
  go_wp2
  go_ret
  exact ⟨rfl, HB.out⟩
set_option maxRecDepth 100000 in
set_option maxHeartbeats 1000000 in
theorem next_goes (W F : Int) (D H : NSet) (n : Int) (I : NSet) (w : World) (hT : TabZ w) (h : F ≤ n) (hc : (card H : Int) < W) (hW : W ≤ 9223372036854775807) :
    Calls Tryd.prog 40 #[.agg #[.int .i64 W, .int .i64 F, .int .u64 (nv D), .int .u64 (nv H)], .int .i64 n, .int .u64 (nv I)] w fun e w' => e = .returned (.int .u64 (nv (tk (minZ (W - card H) (card (I &&& ~~~(D ||| H)))).toNat (I &&& ~~~(D ||| H))))) ∧ Below w.heap.size w w' := by
  have hd : decide (F ≤ n) = true := by simp; omega
  have k1 := Lib.hid (fun W' => len_any H W')
  have k2 := Lib.hid (fun W' => rollon_any W F D H n W')
  rw [hd] at k2
  have k3 := Lib.hid (fun W' => or_any D H W')
  have k4 := Lib.hid (fun W' => less_any I (D ||| H) W')
  generalize I &&& ~~~(D ||| H) = M at *
  generalize D ||| H = DH at *
  have k5 := Lib.hid (fun W' => len_any M W')
  have hm := card_le M
  have hH := card_le H
  have hle : minZ (W - card H) (card M) ≤ (card M : Int) := by unfold minZ; split <;> omega
  have hlo : 0 ≤ minZ (W - card H) (card M) := by unfold minZ; split <;> omega
  have k6 := Lib.hid (fun W' hT' => take_yes M (minZ (W - card H) (card M)) W' hT' hle (by omega))
  have hcI : 0 ≤ (card H : Int) ∧ (card H : Int) ≤ 64 := by omega
  have hmI : 0 ≤ (card M : Int) ∧ (card M : Int) ≤ 64 := by omega
  have HT := Lib.hid hT
  clear hd h hT hle hlo
  generalize tk (minZ (W - card H) (card M)).toNat M = R at *
  generalize (card H : Int) = c at *
  generalize (card M : Int) = m at *
  go_enter Tryd.func40, Tryd.ntmps40
  go_wp2_with fail
  refine (k1.out _).mono ?_
  rintro e w1 ⟨rfl, rfl⟩
  go_wp2_with fail
  refine (k2.out _).mono ?_
  rintro e w1 ⟨rfl, hb1⟩
  obtain ⟨hc', hf⟩ := bcell hb1
  have a0 : w1.cell? ⟨w.heap.size, 0, none⟩ = some (.int .i64 W) := (hc' _ 0 (by simp)).trans (by go_simp)
  have a2 : w1.cell? ⟨w.heap.size, 2, none⟩ = some (.int .u64 (nv D)) := (hc' _ 2 (by simp)).trans (by go_simp)
  have a3 : w1.cell? ⟨w.heap.size, 3, none⟩ = some (.int .u64 (nv H)) := (hc' _ 3 (by simp)).trans (by go_simp)
  have HB := Lib.hid (show Below w.heap.size w w1 from Below.trans (by exact (by repeat (first | exact Below.refl _ _ | assumption | refine below_drewN ?_ _ | refine Below.drew ?_ | refine below_alloc ?_ _ | refine Below.alloc ?_ (by first | omega | (simp; done) | (simp; omega)) _ | refine Below.setCell ?_ (Below.size (by assumption)) _ | refine Below.setCell ?_ (by first | omega | (simp; done) | (simp; omega)) _ | (refine Below.trans ?_ (Below.mono (by assumption) (by first | omega | (simp; done) | (simp; omega)))) | refine below_next ?_ (by assumption)))) (hb1.mono (by simp)))
  have l0 : w.heap.size < w1.heap.size := World.block_lt_of_cell? w1 _ a0
  clear hb1 hc' hf k1 k2
  go_wp2_with fail
  refine (k3.out _).mono ?_
  rintro e w2 ⟨rfl, rfl⟩
  go_wp2_with fail
  refine (k4.out _).mono ?_
  rintro e w2 ⟨rfl, rfl⟩
  go_wp2_with fail
  have q1 : IntKind.i64.wrap (W - c) = W - c := IntWalk.i64_in _ (by omega)
  refine wp_region_boxes w1 (by kernel_rfl) (by kernel_rfl) (Below.refl _ _) ?_
  (refine textB_det ?_ rfl rfl ?_ (fun W hS => ?_) ?_; rotate_left; (focus go_simp); (focus (obtain ⟨hc, hf⟩ := bcell hS; go_simp; first | (refine ⟨?_, Below.refl _ _⟩; rfl) | rfl | exact Below.refl _ _)); (try go_simp))
  (refine textB_det ?_ rfl rfl ?_ (fun W hS => ?_) ?_; rotate_left; (focus go_simp); (focus (obtain ⟨hc, hf⟩ := bcell hS; go_simp; first | (refine ⟨?_, Below.refl _ _⟩; rfl) | rfl | exact Below.refl _ _)); (try go_simp))
  (refine textB_det ?_ rfl rfl ?_ (fun W hS => ?_) ?_; rotate_left; (focus go_simp); (focus (obtain ⟨hc, hf⟩ := bcell hS; go_simp; first | (refine ⟨?_, Below.refl _ _⟩; rfl) | rfl | exact Below.refl _ _)); (try go_simp))
  (refine textB_det ?_ rfl rfl ?_ (fun W hS => ?_) ?_; rotate_left; (focus go_simp); (focus (obtain ⟨hc, hf⟩ := bcell hS; go_simp; first | (refine ⟨?_, Below.refl _ _⟩; rfl) | rfl | exact Below.refl _ _)); (try go_simp))
  (refine textB_det ?_ rfl rfl ?_ (fun W hS => ?_) ?_; rotate_left; (focus go_simp); (focus (obtain ⟨hc, hf⟩ := bcell hS; go_simp; first | (refine ⟨?_, Below.refl _ _⟩; rfl) | rfl | exact Below.refl _ _)); (try go_simp))
  (refine textB_det ?_ rfl rfl ?_ (fun W hS => ?_) ?_; rotate_left; (focus go_simp); (focus (obtain ⟨hc, hf⟩ := bcell hS; go_simp; first | (refine ⟨?_, Below.refl _ _⟩; rfl) | rfl | exact Below.refl _ _)); (try go_simp))
  (refine textB_det ?_ rfl rfl ?_ (fun W hS => ?_) ?_; rotate_left; (focus go_simp); (focus (obtain ⟨hc, hf⟩ := bcell hS; go_simp; refine (k5.out _).mono ?_; rintro e w1 ⟨rfl, rfl⟩; refine ⟨?_, Below.refl _ _⟩; rfl)); (try go_simp))
  (refine textB_det ?_ rfl rfl ?_ (fun W hS => ?_) ?_; rotate_left; (focus go_simp); (focus (obtain ⟨hc, hf⟩ := bcell hS; go_simp; first | (refine ⟨?_, Below.refl _ _⟩; rfl) | rfl | exact Below.refl _ _)); (try go_simp))
  (refine textB_det ?_ rfl rfl ?_ (fun W hS => ?_) ?_; rotate_left; (focus go_simp); (focus (obtain ⟨hc, hf⟩ := bcell hS; go_simp; refine (k6.out _ (HT.out.below (HB.out.trans (hS.mono HB.out.size)))).mono ?_; rintro e w1 ⟨rfl, rfl⟩; refine ⟨?_, Below.refl _ _⟩; rfl)); (try go_simp))
  (refine textB_det ?_ rfl rfl ?_ (fun W hS => ?_) ?_; rotate_left; (focus go_simp); (focus (obtain ⟨hc, hf⟩ := bcell hS; go_simp; first | (refine ⟨?_, Below.refl _ _⟩; rfl) | rfl | exact Below.refl _ _)); (try go_simp))
  (refine textB_det ?_ rfl rfl ?_ (fun W hS => ?_) ?_; rotate_left; (focus go_simp); (focus (obtain ⟨hc, hf⟩ := bcell hS; go_simp; first | (refine ⟨?_, Below.refl _ _⟩; rfl) | rfl | exact Below.refl _ _)); (try go_simp))
  (refine textB_det ?_ rfl rfl ?_ (fun W hS => ?_) ?_; rotate_left; (focus go_simp); (focus (obtain ⟨hc, hf⟩ := bcell hS; go_simp; first | (refine ⟨?_, Below.refl _ _⟩; rfl) | rfl | exact Below.refl _ _)); (try go_simp))
  (refine textB_det ?_ rfl rfl ?_ (fun W hS => ?_) ?_; rotate_left; (focus go_simp); (focus (obtain ⟨hc, hf⟩ := bcell hS; go_simp; first | (refine ⟨?_, Below.refl _ _⟩; rfl) | rfl | exact Below.refl _ _)); (try go_simp))
  (refine textB_det ?_ rfl rfl ?_ (fun W hS => ?_) ?_; rotate_left; (focus go_simp); (focus (obtain ⟨hc, hf⟩ := bcell hS; go_simp; first | (refine ⟨?_, Below.refl _ _⟩; rfl) | rfl | exact Below.refl _ _)); (try go_simp))
  intro blk w2 hb2 hn1 hn2
  clear hn1 hn2
  simp only [List.map_nil, putAll]
  clear blk
  go_wp2
  go_ret
  exact ⟨rfl, below_next HB.out hb2⟩
end Go.Proofs.YtkllhnfnkgkelaaDoor
