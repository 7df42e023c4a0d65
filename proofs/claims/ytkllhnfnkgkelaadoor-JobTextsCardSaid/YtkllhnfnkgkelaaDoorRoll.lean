/- Contracts of a drain (layer 21, roll): On, Over, Next, Hold, Back, Right. Condition: math/bits' table of trailing zeros lies as its text lays it (Next). -/
import Derived.Test.YtkllhnfnkgkelaaDoorBitsLow
import Derived.Deep.RegionWith
namespace Go.Proofs.YtkllhnfnkgkelaaDoor
set_option linter.unusedVariables false
open Go.ChangeShapes Go.WideShapes Go.ChangeAt Go.RowKit Go.Shelf
attribute [local go_sem ↓] Go.wp_at_zero Go.wp_at_succ comesTo_value_eq comesTo_skip_eq comesTo_enter_eq

theorem rollon_any (W F : Int) (D H : NSet) (n : Int) (w : World) :
    Calls Tryd.prog 60 #[.agg #[.int .i64 W, .int .i64 F, .int .u64 (nv D), .int .u64 (nv H)], .int .i64 n] w fun e w' => e = .returned (.bool (decide (F ≤ n))) ∧ Below w.heap.size w w' := by
  go_enter Tryd.func60, Tryd.ntmps60
  go_wp2
  go_ret
  exact ⟨rfl, (by repeat (first | exact Below.refl _ _ | assumption | refine below_drewN ?_ _ | refine Below.drew ?_ | refine below_alloc ?_ _ | refine Below.alloc ?_ (by first | omega | (simp; done) | (simp; omega)) _ | refine Below.setCell ?_ (Below.size (by assumption)) _ | refine Below.setCell ?_ (by first | omega | (simp; done) | (simp; omega)) _ | (refine Below.trans ?_ (Below.mono (by assumption) (by first | omega | (simp; done) | (simp; omega)))) | refine below_next ?_ (by assumption)))⟩
set_option maxRecDepth 100000 in
theorem rollover_any (W F : Int) (D H : NSet) (n : Int) (w : World) :
    Calls Tryd.prog 39 #[.agg #[.int .i64 W, .int .i64 F, .int .u64 (nv D), .int .u64 (nv H)], .int .i64 n] w fun e w' => e = .returned (.bool (decide (firstI n &&& ~~~D = 0#64))) ∧ Below w.heap.size w w' := by
  have E := Lib.hid (nv_is0 (firstI n &&& ~~~D))
  have k1 := Lib.hid (fun W => first_any n W)
  have k2 := Lib.hid (fun W => less_any (firstI n) D W)
  generalize decide (firstI n &&& ~~~D = 0#64) = R at *
  go_enter Tryd.func39, Tryd.ntmps39
  go_wp2_with fail
  generalize hW : w.alloc (.cells #[.int .i64 W, .int .i64 F, .int .u64 (nv D), .int .u64 (nv H)] 58) = W0
  have d2 : W0.cell? ⟨w.heap.size, 2, none⟩ = some (.int .u64 (nv D)) := by subst hW; go_simp
  have hx0 := Lib.hid (show Below w.heap.size w W0 by rw [← hW]; exact (by repeat (first | exact Below.refl _ _ | assumption | refine below_drewN ?_ _ | refine Below.drew ?_ | refine below_alloc ?_ _ | refine Below.alloc ?_ (by first | omega | (simp; done) | (simp; omega)) _ | refine Below.setCell ?_ (Below.size (by assumption)) _ | refine Below.setCell ?_ (by first | omega | (simp; done) | (simp; omega)) _ | (refine Below.trans ?_ (Below.mono (by assumption) (by first | omega | (simp; done) | (simp; omega)))) | refine below_next ?_ (by assumption))))
  clear hW
  have l0 : w.heap.size < W0.heap.size := World.block_lt_of_cell? W0 _ d2
  refine wp_region_boxes W0 (by kernel_rfl) (by kernel_rfl) (Below.refl _ _) ?_
  (refine textB_det ?_ rfl rfl ?_ (fun W hS => ?_) ?_; rotate_left; (focus go_simp); (focus (obtain ⟨hc, hf⟩ := bcell hS; go_simp; first | (refine ⟨?_, Below.refl _ _⟩; rfl) | rfl | exact Below.refl _ _)); (try go_simp))
  (refine textB_det ?_ rfl rfl ?_ (fun W hS => ?_) ?_; rotate_left; (focus go_simp); (focus (obtain ⟨hc, hf⟩ := bcell hS; go_simp; refine (k1.out _).mono ?_; rintro e w1 ⟨rfl, rfl⟩; refine ⟨?_, Below.refl _ _⟩; rfl)); (try go_simp))
  (refine textB_det ?_ rfl rfl ?_ (fun W hS => ?_) ?_; rotate_left; (focus go_simp); (focus (obtain ⟨hc, hf⟩ := bcell hS; go_simp; first | (refine ⟨?_, Below.refl _ _⟩; rfl) | rfl | exact Below.refl _ _)); (try go_simp))
  (refine textB_det ?_ rfl rfl ?_ (fun W hS => ?_) ?_; rotate_left; (focus go_simp); (focus (obtain ⟨hc, hf⟩ := bcell hS; go_simp; first | (refine ⟨?_, Below.refl _ _⟩; rfl) | rfl | exact Below.refl _ _)); (try go_simp))
  (refine textB_det ?_ rfl rfl ?_ (fun W hS => ?_) ?_; rotate_left; (focus go_simp); (focus (obtain ⟨hc, hf⟩ := bcell hS; go_simp; refine (k2.out _).mono ?_; rintro e w1 ⟨rfl, rfl⟩; refine ⟨?_, Below.refl _ _⟩; rfl)); (try go_simp))
  (refine textB_det ?_ rfl rfl ?_ (fun W hS => ?_) ?_; rotate_left; (focus go_simp); (focus (obtain ⟨hc, hf⟩ := bcell hS; go_simp; first | (refine ⟨?_, Below.refl _ _⟩; rfl) | rfl | exact Below.refl _ _)); (try go_simp))
  (refine textB_det ?_ rfl rfl ?_ (fun W hS => ?_) ?_; rotate_left; (focus go_simp); (focus (obtain ⟨hc, hf⟩ := bcell hS; go_simp; first | (refine ⟨?_, Below.refl _ _⟩; rfl) | rfl | exact Below.refl _ _)); (try go_simp))
  intro blk w2 hb2 hn1 hn2
  clear hn1 hn2
  simp only [List.map_nil, putAll]
  clear blk
  go_wp2
  go_ret
  exact ⟨ret_bool' E.out, below_next hx0.out hb2⟩
set_option maxRecDepth 100000 in
theorem hold_any (W F : Int) (D H s : NSet) (w : World) :
    Calls Tryd.prog 41 #[.agg #[.int .i64 W, .int .i64 F, .int .u64 (nv D), .int .u64 (nv H)], .int .u64 (nv s)] w fun e w' => e = .returned (.agg #[.int .i64 W, .int .i64 F, .int .u64 (nv D), .int .u64 (nv (H ||| s))]) ∧ Below w.heap.size w w' := by
  go_enter Tryd.func41, Tryd.ntmps41
  go_wp2_with (go_at_call 29; refine (or_any _ _ _).mono ?_; rintro e w' ⟨rfl, rfl⟩)
  exact bodyPost_ret (v := .agg #[.int .i64 W, .int .i64 F, .int .u64 (nv D), .int .u64 (nv (H ||| s))]) (by simp only [results, Tryd.results41]; go_simp) rfl ⟨rfl, (by repeat (first | exact Below.refl _ _ | assumption | refine below_drewN ?_ _ | refine Below.drew ?_ | refine below_alloc ?_ _ | refine Below.alloc ?_ (by first | omega | (simp; done) | (simp; omega)) _ | refine Below.setCell ?_ (Below.size (by assumption)) _ | refine Below.setCell ?_ (by first | omega | (simp; done) | (simp; omega)) _ | (refine Below.trans ?_ (Below.mono (by assumption) (by first | omega | (simp; done) | (simp; omega)))) | refine below_next ?_ (by assumption)))⟩
/-- one comes back -/
def backH (H : NSet) (n : Int) : NSet := if hasI H n = true then H &&& ~~~oneI n else H
def backD (D H : NSet) (n : Int) : NSet := if hasI H n = true then D ||| oneI n else D
set_option maxRecDepth 100000 in
set_option maxHeartbeats 1000000 in
theorem back_any (W F : Int) (D H : NSet) (n : Int) (w : World) :
    Calls Tryd.prog 43 #[.agg #[.int .i64 W, .int .i64 F, .int .u64 (nv D), .int .u64 (nv H)], .int .i64 n] w fun e w' => e = .returned (.agg #[.int .i64 W, .int .i64 F, .int .u64 (nv (backD D H n)), .int .u64 (nv (backH H n))]) ∧ Below w.heap.size w w' := by
  have k1 := Lib.hid (fun W => has_any H n W)
  unfold backD backH
  cases h : hasI H n with
  | false =>
    rw [h] at k1
    rw [if_neg (by decide), if_neg (by decide)]
    clear h
    go_enter Tryd.func43, Tryd.ntmps43
    go_wp2_with (go_at_call 18; refine (k1.out _).mono ?_; rintro e w' ⟨rfl, rfl⟩)
    exact bodyPost_ret (v := .agg #[.int .i64 W, .int .i64 F, .int .u64 (nv D), .int .u64 (nv H)]) (by simp only [results, Tryd.results43]; go_simp) rfl ⟨rfl, (by repeat (first | exact Below.refl _ _ | assumption | refine below_drewN ?_ _ | refine Below.drew ?_ | refine below_alloc ?_ _ | refine Below.alloc ?_ (by first | omega | (simp; done) | (simp; omega)) _ | refine Below.setCell ?_ (Below.size (by assumption)) _ | refine Below.setCell ?_ (by first | omega | (simp; done) | (simp; omega)) _ | (refine Below.trans ?_ (Below.mono (by assumption) (by first | omega | (simp; done) | (simp; omega)))) | refine below_next ?_ (by assumption)))⟩
  | true =>
    rw [h] at k1
    rw [if_pos rfl, if_pos rfl]
    clear h
    have k2 := Lib.hid (fun W => without_any H n W)
    have k3 := Lib.hid (fun W => with_any D n W)
    generalize H &&& ~~~oneI n = H2 at *
    generalize D ||| oneI n = D2 at *
    go_enter Tryd.func43, Tryd.ntmps43
    go_wp2_with (go_at_call 18; refine (k1.out _).mono ?_; rintro e w' ⟨rfl, rfl⟩)
    go_region_with (first | (go_at_call 16; refine (k2.out _).mono ?_; rintro e w' ⟨rfl, rfl⟩) | (go_at_call 15; refine (k3.out _).mono ?_; rintro e w' ⟨rfl, rfl⟩))
    all_goals go_wp2
    all_goals exact bodyPost_ret (v := .agg #[.int .i64 W, .int .i64 F, .int .u64 (nv D2), .int .u64 (nv H2)]) (by simp only [results, Tryd.results43]; go_simp) rfl ⟨rfl, (by repeat (first | exact Below.refl _ _ | assumption | refine below_drewN ?_ _ | refine Below.drew ?_ | refine below_alloc ?_ _ | refine Below.alloc ?_ (by first | omega | (simp; done) | (simp; omega)) _ | refine Below.setCell ?_ (Below.size (by assumption)) _ | refine Below.setCell ?_ (by first | omega | (simp; done) | (simp; omega)) _ | (refine Below.trans ?_ (Below.mono (by assumption) (by first | omega | (simp; done) | (simp; omega)))) | refine below_next ?_ (by assumption)))⟩
end Go.Proofs.YtkllhnfnkgkelaaDoor
