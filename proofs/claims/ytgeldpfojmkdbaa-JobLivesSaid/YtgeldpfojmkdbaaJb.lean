/- Whether a job may be (layer 15): within, isTime, fits, rightState, Right walked at any job. No condition. -/
import Derived.Test.YtgeldpfojmkdbaaJa
import Derived.Test.YtgeldpfojmkdbaaRelL
import Derived.RangeFuncRecord
namespace Go.Proofs.Ytgeldpfojmkdbaa
set_option linter.unusedVariables false
open Go.ChangeShapes Go.WideShapes Go.ChangeAt Go.RowKit
attribute [local go_sem ↓] Go.wp_at_zero Go.wp_at_succ comesTo_value_eq comesTo_skip_eq comesTo_enter_eq Rl.comesToR_value_eq Rl.comesToR_skip_eq Rl.comesToR_enter_eq

theorem within_any (v lo hi : Int) (w : World) : Calls Try.prog 15 #[.int .i64 v, .int .i64 lo, .int .i64 hi] w fun e w' => e = .returned (.bool (inI v lo hi)) ∧ w = w' := by
  by_cases h : lo ≤ v
  · have hd : decide (lo ≤ v) = true := decide_eq_true h
    have e : inI v lo hi = decide (v ≤ hi) := by unfold inI; rw [hd, Bool.true_and]
    have E := Lib.hid e
    clear e
    go_enter Try.func15, Try.ntmps15
    go_wp2
    go_ret
    exact ⟨by rw [E.out]; rfl, rfl⟩
  · have hd : decide (lo ≤ v) = false := decide_eq_false h
    have e : inI v lo hi = false := by unfold inI; rw [hd, Bool.false_and]
    have E := Lib.hid e
    clear e h
    go_enter Try.func15, Try.ntmps15
    go_wp2
    go_ret
    exact ⟨by rw [E.out]; rfl, rfl⟩
theorem within_is {v lo hi : Int} {b : Bool} (h : inI v lo hi = b) (w : World) : Calls Try.prog 15 #[.int .i64 v, .int .i64 lo, .int .i64 hi] w fun e w' => e = .returned (.bool b) ∧ w = w' := h ▸ within_any v lo hi w
theorem istime_any (t : Int) (w : World) : Calls Try.prog 16 #[.int .i64 t] w fun e w' => e = .returned (.bool (timeB t)) ∧ w = w' := by
  have E := Lib.hid (show (t == clampI t) = timeB t from rfl)
  go_enter Try.func16, Try.ntmps16
  go_wp2_with (go_at_call 33; refine (clamp_any _ _).mono ?_; rintro e w' ⟨rfl, rfl⟩)
  go_ret
  exact ⟨by rw [E.out]; rfl, rfl⟩
theorem istime_is {t : Int} {b : Bool} (h : timeB t = b) (w : World) : Calls Try.prog 16 #[.int .i64 t] w fun e w' => e = .returned (.bool b) ∧ w = w' := h ▸ istime_any t w
set_option maxRecDepth 100000 in
set_option maxHeartbeats 400000 in
theorem fits_any (j : JobV) (n : NSet) (w : World) : Calls Try.prog 21 #[.agg (jobC j).toArray, .int .u64 (nv n)] w fun e w' => e = .returned (.bool (fitsB j n)) ∧ Below w.heap.size w w' := by
  have k3 : (jobC j).toArray[3]? = some (.int .i64 j.width) := rfl
  have k13 : (jobC j).toArray[13]? = some (.int .u64 (nv j.black)) := rfl
  have hmx : Try.prog.follows .mixedOrders = true := by kernel_rfl
  generalize hl : jobC j = l at *
  clear hl
  go_enter Try.func21, Try.ntmps21
  go_upto_region 1 with fail
  have hC := World.alloc_heap_new w (.cells l.toArray 26)
  have HB := Lib.hid (below_alloc (Below.refl _ w) (.cells l.toArray 26))
  have l0 : w.heap.size < (w.alloc (.cells l.toArray 26)).heap.size := by simp
  generalize w.alloc (.cells l.toArray 26) = U at *
  have c3 := cell_of_block (o := 3) hC k3
  have c13 := cell_of_block (o := 13) hC k13
  clear hC k3 k13
  by_cases hw : (card n : Int) = j.width
  · have hd : ((card n : Int) == j.width) = true := by rw [hw]; exact beq_self_eq_true _
    have E := Lib.hid (show fitsB j n = (nv (n &&& j.black) == 0) by unfold fitsB; rw [hd, Bool.true_and])
    clear hw
    refine Rl.wp_region_rel (fun a b => Below a.heap.size a b) U (fun a b c h h' => below_next h h') (fun a => Below.refl _ _) hmx (by kernel_rfl) (Below.refl _ _).drew ?_
    (refine Rl.textR_run ?_ (fun ρ => ?_) (fun ρ W hS hd => ?_) ?_; rotate_left; (focus go_simp); (focus (obtain ⟨hc, hf⟩ := bcell hS; go_simp; first | exact ⟨rfl, Below.refl _ _⟩ | (refine ⟨?_, Below.refl _ _⟩; rfl))); (try go_simp))
    (refine Rl.textR_run ?_ (fun ρ => ?_) (fun ρ W hS hd => ?_) ?_; rotate_left; (focus go_simp); (focus (obtain ⟨hc, hf⟩ := bcell hS; go_simp; refine (len_any _ _).mono ?_; rintro e w1 ⟨rfl, rfl⟩; refine ⟨_, rfl, ?_, Below.refl _ _⟩; rfl)); (try go_simp))
    (refine Rl.textR_run ?_ (fun ρ => ?_) (fun ρ W hS hd => ?_) ?_; rotate_left; (focus go_simp); (focus (obtain ⟨hc, hf⟩ := bcell hS; go_simp; first | exact ⟨rfl, Below.refl _ _⟩ | (refine ⟨?_, Below.refl _ _⟩; rfl))); (try go_simp))
    (refine Rl.textR_run ?_ (fun ρ => ?_) (fun ρ W hS hd => ?_) ?_; rotate_left; (focus go_simp); (focus (obtain ⟨hc, hf⟩ := bcell hS; go_simp; first | exact ⟨rfl, Below.refl _ _⟩ | (refine ⟨?_, Below.refl _ _⟩; rfl))); (try go_simp))
    (refine Rl.textR_run ?_ (fun ρ => ?_) (fun ρ W hS hd => ?_) ?_; rotate_left; (focus go_simp); (focus (obtain ⟨hc, hf⟩ := bcell hS; go_simp; first | exact ⟨rfl, Below.refl _ _⟩ | (refine ⟨?_, Below.refl _ _⟩; rfl))); (try go_simp))
    (refine Rl.textR_run ?_ (fun ρ => ?_) (fun ρ W hS hd => ?_) ?_; rotate_left; (focus go_simp); (focus (obtain ⟨hc, hf⟩ := bcell hS; go_simp; first | exact ⟨rfl, Below.refl _ _⟩ | (refine ⟨?_, Below.refl _ _⟩; rfl))); (try go_simp))
    (refine Rl.textR_run ?_ (fun ρ => ?_) (fun ρ W hS hd => ?_) ?_; rotate_left; (focus go_simp); (focus (obtain ⟨hc, hf⟩ := bcell hS; go_simp; first | exact ⟨rfl, Below.refl _ _⟩ | (refine ⟨?_, Below.refl _ _⟩; rfl))); (try go_simp))
    (refine Rl.textR_run ?_ (fun ρ => ?_) (fun ρ W hS hd => ?_) ?_; rotate_left; (focus go_simp); (focus (obtain ⟨hc, hf⟩ := bcell hS; go_simp; first | exact ⟨rfl, Below.refl _ _⟩ | (refine ⟨?_, Below.refl _ _⟩; rfl))); (try go_simp))
    (refine Rl.textR_run ?_ (fun ρ => ?_) (fun ρ W hS hd => ?_) ?_; rotate_left; (focus go_simp); (focus (obtain ⟨hc, hf⟩ := bcell hS; go_simp; first | exact ⟨rfl, Below.refl _ _⟩ | (refine ⟨?_, Below.refl _ _⟩; rfl))); (try go_simp))
    (refine Rl.textR_run ?_ (fun ρ => ?_) (fun ρ W hS hd => ?_) ?_; rotate_left; (focus go_simp); (focus (obtain ⟨hc, hf⟩ := bcell hS; go_simp; refine (and_any _ _ _).mono ?_; rintro e w1 ⟨rfl, rfl⟩; refine ⟨_, rfl, ?_, Below.refl _ _⟩; rfl)); (try go_simp))
    (refine Rl.textR_run ?_ (fun ρ => ?_) (fun ρ W hS hd => ?_) ?_; rotate_left; (focus go_simp); (focus (obtain ⟨hc, hf⟩ := bcell hS; go_simp; first | exact ⟨rfl, Below.refl _ _⟩ | (refine ⟨?_, Below.refl _ _⟩; rfl))); (try go_simp))
    (refine Rl.textR_run ?_ (fun ρ => ?_) (fun ρ W hS hd => ?_) ?_; rotate_left; (focus go_simp); (focus (obtain ⟨hc, hf⟩ := bcell hS; go_simp; first | exact ⟨rfl, Below.refl _ _⟩ | (refine ⟨?_, Below.refl _ _⟩; rfl))); (try go_simp))
    (refine Rl.textR_run ?_ (fun ρ => ?_) (fun ρ W hS hd => ?_) ?_; rotate_left; (focus go_simp); (focus (obtain ⟨hc, hf⟩ := bcell hS; go_simp; first | exact ⟨rfl, Below.refl _ _⟩ | (refine ⟨?_, Below.refl _ _⟩; rfl))); (try go_simp))
    refine Rl.textR_nil ?_
    intro ρ w1 hg hk
    dsimp only
    go_wp2
    go_ret
    exact ⟨by rw [E.out]; rfl, HB.out.trans (hg.mono HB.out.size)⟩
  · have hd : ((card n : Int) == j.width) = false := by rw [beq_eq_false_iff_ne]; exact hw
    have E := Lib.hid (show fitsB j n = false by unfold fitsB; rw [hd, Bool.false_and])
    clear hw
    refine Rl.wp_region_rel (fun a b => Below a.heap.size a b) U (fun a b c h h' => below_next h h') (fun a => Below.refl _ _) hmx (by kernel_rfl) (Below.refl _ _).drew ?_
    (refine Rl.textR_run ?_ (fun ρ => ?_) (fun ρ W hS hd => ?_) ?_; rotate_left; (focus go_simp); (focus (obtain ⟨hc, hf⟩ := bcell hS; go_simp; first | exact ⟨rfl, Below.refl _ _⟩ | (refine ⟨?_, Below.refl _ _⟩; rfl))); (try go_simp))
    (refine Rl.textR_run ?_ (fun ρ => ?_) (fun ρ W hS hd => ?_) ?_; rotate_left; (focus go_simp); (focus (obtain ⟨hc, hf⟩ := bcell hS; go_simp; refine (len_any _ _).mono ?_; rintro e w1 ⟨rfl, rfl⟩; refine ⟨_, rfl, ?_, Below.refl _ _⟩; rfl)); (try go_simp))
    (refine Rl.textR_run ?_ (fun ρ => ?_) (fun ρ W hS hd => ?_) ?_; rotate_left; (focus go_simp); (focus (obtain ⟨hc, hf⟩ := bcell hS; go_simp; first | exact ⟨rfl, Below.refl _ _⟩ | (refine ⟨?_, Below.refl _ _⟩; rfl))); (try go_simp))
    (refine Rl.textR_run ?_ (fun ρ => ?_) (fun ρ W hS hd => ?_) ?_; rotate_left; (focus go_simp); (focus (obtain ⟨hc, hf⟩ := bcell hS; go_simp; first | exact ⟨rfl, Below.refl _ _⟩ | (refine ⟨?_, Below.refl _ _⟩; rfl))); (try go_simp))
    (refine Rl.textR_run ?_ (fun ρ => ?_) (fun ρ W hS hd => ?_) ?_; rotate_left; (focus go_simp); (focus (obtain ⟨hc, hf⟩ := bcell hS; go_simp; first | exact ⟨rfl, Below.refl _ _⟩ | (refine ⟨?_, Below.refl _ _⟩; rfl))); (try go_simp))
    (refine Rl.textR_run ?_ (fun ρ => ?_) (fun ρ W hS hd => ?_) ?_; rotate_left; (focus go_simp); (focus (obtain ⟨hc, hf⟩ := bcell hS; go_simp; first | exact ⟨rfl, Below.refl _ _⟩ | (refine ⟨?_, Below.refl _ _⟩; rfl))); (try go_simp))
    (refine Rl.textR_skip (fun ρ => ?_) ?_; (focus (first | rfl | (go_simp; done) | (go_simp; rfl))); (try go_simp))
    (refine Rl.textR_skip (fun ρ => ?_) ?_; (focus (first | rfl | (go_simp; done) | (go_simp; rfl))); (try go_simp))
    (refine Rl.textR_skip (fun ρ => ?_) ?_; (focus (first | rfl | (go_simp; done) | (go_simp; rfl))); (try go_simp))
    (refine Rl.textR_skip (fun ρ => ?_) ?_; (focus (first | rfl | (go_simp; done) | (go_simp; rfl))); (try go_simp))
    (refine Rl.textR_skip (fun ρ => ?_) ?_; (focus (first | rfl | (go_simp; done) | (go_simp; rfl))); (try go_simp))
    (refine Rl.textR_run ?_ (fun ρ => ?_) (fun ρ W hS hd => ?_) ?_; rotate_left; (focus go_simp); (focus (obtain ⟨hc, hf⟩ := bcell hS; go_simp; first | exact ⟨rfl, Below.refl _ _⟩ | (refine ⟨?_, Below.refl _ _⟩; rfl))); (try go_simp))
    (refine Rl.textR_run ?_ (fun ρ => ?_) (fun ρ W hS hd => ?_) ?_; rotate_left; (focus go_simp); (focus (obtain ⟨hc, hf⟩ := bcell hS; go_simp; first | exact ⟨rfl, Below.refl _ _⟩ | (refine ⟨?_, Below.refl _ _⟩; rfl))); (try go_simp))
    refine Rl.textR_nil ?_
    intro ρ w1 hg hk
    dsimp only
    go_wp2
    go_ret
    exact ⟨by rw [E.out]; rfl, HB.out.trans (hg.mono HB.out.size)⟩
end Go.Proofs.Ytgeldpfojmkdbaa
