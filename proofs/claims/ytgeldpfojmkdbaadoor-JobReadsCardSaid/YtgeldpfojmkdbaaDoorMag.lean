/- Laws that belong together: Whether a job may be (layer 15): within, isTime, fits, rightState, Right walked at any job. No condition.; Whether a job may be in its state (layer 15): rightState walked at any job. No condition.; Whether a job may be (layer 15): Right walked at any job. No condition.; A job's smaller contracts (layer 15): Over, Until, late, end at any job. No condition but that its numbers fit their kinds.; What begins (layer 15): Begin walked at any job. No condition. -/
import Derived.Test.YtgeldpfojmkdbaaDoorMac
import Derived.Test.YtgeldpfojmkdbaaDoorMaf
import Derived.RangeFuncRecord
namespace Go.Proofs.YtgeldpfojmkdbaaDoor
set_option linter.unusedVariables false
open Go.ChangeShapes Go.WideShapes Go.ChangeAt Go.RowKit
attribute [local go_sem ↓] Go.wp_at_zero Go.wp_at_succ comesTo_value_eq comesTo_skip_eq comesTo_enter_eq Rl.comesToR_value_eq Rl.comesToR_skip_eq Rl.comesToR_enter_eq

theorem within_any (v lo hi : Int) (w : World) : Calls Tryd.prog 32 #[.int .i64 v, .int .i64 lo, .int .i64 hi] w fun e w' => e = .returned (.bool (inI v lo hi)) ∧ w = w' := by
  by_cases h : lo ≤ v
  · have hd : decide (lo ≤ v) = true := decide_eq_true h
    have e : inI v lo hi = decide (v ≤ hi) := by unfold inI; rw [hd, Bool.true_and]
    have E := Lib.hid e
    clear e
    go_enter Tryd.func32, Tryd.ntmps32
    go_wp2
    go_ret
    exact ⟨by rw [E.out]; rfl, rfl⟩
  · have hd : decide (lo ≤ v) = false := decide_eq_false h
    have e : inI v lo hi = false := by unfold inI; rw [hd, Bool.false_and]
    have E := Lib.hid e
    clear e h
    go_enter Tryd.func32, Tryd.ntmps32
    go_wp2
    go_ret
    exact ⟨by rw [E.out]; rfl, rfl⟩
theorem within_is {v lo hi : Int} {b : Bool} (h : inI v lo hi = b) (w : World) : Calls Tryd.prog 32 #[.int .i64 v, .int .i64 lo, .int .i64 hi] w fun e w' => e = .returned (.bool b) ∧ w = w' := h ▸ within_any v lo hi w
theorem istime_any (t : Int) (w : World) : Calls Tryd.prog 33 #[.int .i64 t] w fun e w' => e = .returned (.bool (timeB t)) ∧ w = w' := by
  have E := Lib.hid (show (t == clampI t) = timeB t from rfl)
  go_enter Tryd.func33, Tryd.ntmps33
  go_wp2_with (go_at_call 53; refine (clamp_any _ _).mono ?_; rintro e w' ⟨rfl, rfl⟩)
  go_ret
  exact ⟨by rw [E.out]; rfl, rfl⟩
theorem istime_is {t : Int} {b : Bool} (h : timeB t = b) (w : World) : Calls Tryd.prog 33 #[.int .i64 t] w fun e w' => e = .returned (.bool b) ∧ w = w' := h ▸ istime_any t w
set_option maxRecDepth 100000 in
set_option maxHeartbeats 400000 in
theorem fits_any (j : JobV) (n : NSet) (w : World) : Calls Tryd.prog 35 #[.agg (jobC j).toArray, .int .u64 (nv n)] w fun e w' => e = .returned (.bool (fitsB j n)) ∧ Below w.heap.size w w' := by
  have k3 : (jobC j).toArray[3]? = some (.int .i64 j.width) := rfl
  have k13 : (jobC j).toArray[13]? = some (.int .u64 (nv j.black)) := rfl
  have hmx : Tryd.prog.follows .mixedOrders = true := by kernel_rfl
  generalize hl : jobC j = l at *
  clear hl
  go_enter Tryd.func35, Tryd.ntmps35
  go_upto_region 1 with fail
  have hC := World.alloc_heap_new w (.cells l.toArray 26)
  have HB := Lib.hid (below_alloc (Below.refl _ w) (.cells l.toArray 26))
  have l0 : w.heap.size < (w.alloc (.cells l.toArray 26)).heap.size := by simp
  generalize w.alloc (.cells l.toArray 26) = U at *
  have c3 := cell_of_block (o := 3) hC k3
  have c13 := cell_of_block (o := 13) hC k13
  clear hC k3 k13
  by_cases hw : (card n : Int) = j.width
  · have hd : ((card n : Int) == j.width) = true := by rw [hw]; exact beq_self_eq_true _
    have E := Lib.hid (show fitsB j n = (nv (n &&& j.black) == 0) by unfold fitsB; rw [hd, Bool.true_and])
    clear hw
    refine Rl.wp_region_rel (fun a b => Below a.heap.size a b) U (fun a b c h h' => below_next h h') (fun a => Below.refl _ _) hmx (by kernel_rfl) (Below.refl _ _).drew ?_
    (refine Rl.textR_run ?_ (fun ρ => ?_) (fun ρ W hS hd => ?_) ?_; rotate_left; (focus go_simp); (focus (obtain ⟨hc, hf⟩ := bcell hS; go_simp; first | exact ⟨rfl, Below.refl _ _⟩ | (refine ⟨?_, Below.refl _ _⟩; rfl))); (try go_simp))
    (refine Rl.textR_run ?_ (fun ρ => ?_) (fun ρ W hS hd => ?_) ?_; rotate_left; (focus go_simp); (focus (obtain ⟨hc, hf⟩ := bcell hS; go_simp; refine (len_any _ _).mono ?_; rintro e w1 ⟨rfl, rfl⟩; refine ⟨_, rfl, ?_, Below.refl _ _⟩; rfl)); (try go_simp))
    (refine Rl.textR_run ?_ (fun ρ => ?_) (fun ρ W hS hd => ?_) ?_; rotate_left; (focus go_simp); (focus (obtain ⟨hc, hf⟩ := bcell hS; go_simp; first | exact ⟨rfl, Below.refl _ _⟩ | (refine ⟨?_, Below.refl _ _⟩; rfl))); (try go_simp))
    (refine Rl.textR_run ?_ (fun ρ => ?_) (fun ρ W hS hd => ?_) ?_; rotate_left; (focus go_simp); (focus (obtain ⟨hc, hf⟩ := bcell hS; go_simp; first | exact ⟨rfl, Below.refl _ _⟩ | (refine ⟨?_, Below.refl _ _⟩; rfl))); (try go_simp))
    (refine Rl.textR_run ?_ (fun ρ => ?_) (fun ρ W hS hd => ?_) ?_; rotate_left; (focus go_simp); (focus (obtain ⟨hc, hf⟩ := bcell hS; go_simp; first | exact ⟨rfl, Below.refl _ _⟩ | (refine ⟨?_, Below.refl _ _⟩; rfl))); (try go_simp))
    (refine Rl.textR_run ?_ (fun ρ => ?_) (fun ρ W hS hd => ?_) ?_; rotate_left; (focus go_simp); (focus (obtain ⟨hc, hf⟩ := bcell hS; go_simp; first | exact ⟨rfl, Below.refl _ _⟩ | (refine ⟨?_, Below.refl _ _⟩; rfl))); (try go_simp))
    (refine Rl.textR_run ?_ (fun ρ => ?_) (fun ρ W hS hd => ?_) ?_; rotate_left; (focus go_simp); (focus (obtain ⟨hc, hf⟩ := bcell hS; go_simp; first | exact ⟨rfl, Below.refl _ _⟩ | (refine ⟨?_, Below.refl _ _⟩; rfl))); (try go_simp))
    (refine Rl.textR_run ?_ (fun ρ => ?_) (fun ρ W hS hd => ?_) ?_; rotate_left; (focus go_simp); (focus (obtain ⟨hc, hf⟩ := bcell hS; go_simp; first | exact ⟨rfl, Below.refl _ _⟩ | (refine ⟨?_, Below.refl _ _⟩; rfl))); (try go_simp))
    (refine Rl.textR_run ?_ (fun ρ => ?_) (fun ρ W hS hd => ?_) ?_; rotate_left; (focus go_simp); (focus (obtain ⟨hc, hf⟩ := bcell hS; go_simp; first | exact ⟨rfl, Below.refl _ _⟩ | (refine ⟨?_, Below.refl _ _⟩; rfl))); (try go_simp))
    (refine Rl.textR_run ?_ (fun ρ => ?_) (fun ρ W hS hd => ?_) ?_; rotate_left; (focus go_simp); (focus (obtain ⟨hc, hf⟩ := bcell hS; go_simp; refine (and_any _ _ _).mono ?_; rintro e w1 ⟨rfl, rfl⟩; refine ⟨_, rfl, ?_, Below.refl _ _⟩; rfl)); (try go_simp))
    (refine Rl.textR_run ?_ (fun ρ => ?_) (fun ρ W hS hd => ?_) ?_; rotate_left; (focus go_simp); (focus (obtain ⟨hc, hf⟩ := bcell hS; go_simp; first | exact ⟨rfl, Below.refl _ _⟩ | (refine ⟨?_, Below.refl _ _⟩; rfl))); (try go_simp))
    (refine Rl.textR_run ?_ (fun ρ => ?_) (fun ρ W hS hd => ?_) ?_; rotate_left; (focus go_simp); (focus (obtain ⟨hc, hf⟩ := bcell hS; go_simp; first | exact ⟨rfl, Below.refl _ _⟩ | (refine ⟨?_, Below.refl _ _⟩; rfl))); (try go_simp))
    (refine Rl.textR_run ?_ (fun ρ => ?_) (fun ρ W hS hd => ?_) ?_; rotate_left; (focus go_simp); (focus (obtain ⟨hc, hf⟩ := bcell hS; go_simp; first | exact ⟨rfl, Below.refl _ _⟩ | (refine ⟨?_, Below.refl _ _⟩; rfl))); (try go_simp))
    refine Rl.textR_nil ?_
    intro ρ w1 hg hk
    dsimp only
    go_wp2
    go_ret
    exact ⟨by rw [E.out]; rfl, HB.out.trans (hg.mono HB.out.size)⟩
  · have hd : ((card n : Int) == j.width) = false := by rw [beq_eq_false_iff_ne]; exact hw
    have E := Lib.hid (show fitsB j n = false by unfold fitsB; rw [hd, Bool.false_and])
    clear hw
    refine Rl.wp_region_rel (fun a b => Below a.heap.size a b) U (fun a b c h h' => below_next h h') (fun a => Below.refl _ _) hmx (by kernel_rfl) (Below.refl _ _).drew ?_
    (refine Rl.textR_run ?_ (fun ρ => ?_) (fun ρ W hS hd => ?_) ?_; rotate_left; (focus go_simp); (focus (obtain ⟨hc, hf⟩ := bcell hS; go_simp; first | exact ⟨rfl, Below.refl _ _⟩ | (refine ⟨?_, Below.refl _ _⟩; rfl))); (try go_simp))
    (refine Rl.textR_run ?_ (fun ρ => ?_) (fun ρ W hS hd => ?_) ?_; rotate_left; (focus go_simp); (focus (obtain ⟨hc, hf⟩ := bcell hS; go_simp; refine (len_any _ _).mono ?_; rintro e w1 ⟨rfl, rfl⟩; refine ⟨_, rfl, ?_, Below.refl _ _⟩; rfl)); (try go_simp))
    (refine Rl.textR_run ?_ (fun ρ => ?_) (fun ρ W hS hd => ?_) ?_; rotate_left; (focus go_simp); (focus (obtain ⟨hc, hf⟩ := bcell hS; go_simp; first | exact ⟨rfl, Below.refl _ _⟩ | (refine ⟨?_, Below.refl _ _⟩; rfl))); (try go_simp))
    (refine Rl.textR_run ?_ (fun ρ => ?_) (fun ρ W hS hd => ?_) ?_; rotate_left; (focus go_simp); (focus (obtain ⟨hc, hf⟩ := bcell hS; go_simp; first | exact ⟨rfl, Below.refl _ _⟩ | (refine ⟨?_, Below.refl _ _⟩; rfl))); (try go_simp))
    (refine Rl.textR_run ?_ (fun ρ => ?_) (fun ρ W hS hd => ?_) ?_; rotate_left; (focus go_simp); (focus (obtain ⟨hc, hf⟩ := bcell hS; go_simp; first | exact ⟨rfl, Below.refl _ _⟩ | (refine ⟨?_, Below.refl _ _⟩; rfl))); (try go_simp))
    (refine Rl.textR_run ?_ (fun ρ => ?_) (fun ρ W hS hd => ?_) ?_; rotate_left; (focus go_simp); (focus (obtain ⟨hc, hf⟩ := bcell hS; go_simp; first | exact ⟨rfl, Below.refl _ _⟩ | (refine ⟨?_, Below.refl _ _⟩; rfl))); (try go_simp))
    (refine Rl.textR_skip (fun ρ => ?_) ?_; (focus (first | rfl | (go_simp; done) | (go_simp; rfl))); (try go_simp))
    (refine Rl.textR_skip (fun ρ => ?_) ?_; (focus (first | rfl | (go_simp; done) | (go_simp; rfl))); (try go_simp))
    (refine Rl.textR_skip (fun ρ => ?_) ?_; (focus (first | rfl | (go_simp; done) | (go_simp; rfl))); (try go_simp))
    (refine Rl.textR_skip (fun ρ => ?_) ?_; (focus (first | rfl | (go_simp; done) | (go_simp; rfl))); (try go_simp))
    (refine Rl.textR_skip (fun ρ => ?_) ?_; (focus (first | rfl | (go_simp; done) | (go_simp; rfl))); (try go_simp))
    (refine Rl.textR_run ?_ (fun ρ => ?_) (fun ρ W hS hd => ?_) ?_; rotate_left; (focus go_simp); (focus (obtain ⟨hc, hf⟩ := bcell hS; go_simp; first | exact ⟨rfl, Below.refl _ _⟩ | (refine ⟨?_, Below.refl _ _⟩; rfl))); (try go_simp))
    (refine Rl.textR_run ?_ (fun ρ => ?_) (fun ρ W hS hd => ?_) ?_; rotate_left; (focus go_simp); (focus (obtain ⟨hc, hf⟩ := bcell hS; go_simp; first | exact ⟨rfl, Below.refl _ _⟩ | (refine ⟨?_, Below.refl _ _⟩; rfl))); (try go_simp))
    refine Rl.textR_nil ?_
    intro ρ w1 hg hk
    dsimp only
    go_wp2
    go_ret
    exact ⟨by rw [E.out]; rfl, HB.out.trans (hg.mono HB.out.size)⟩
end Go.Proofs.YtgeldpfojmkdbaaDoor
namespace Go.Proofs.YtgeldpfojmkdbaaDoor
set_option linter.unusedVariables false
open Go.ChangeShapes Go.WideShapes Go.ChangeAt Go.RowKit
attribute [local go_sem ↓] Go.wp_at_zero Go.wp_at_succ comesTo_value_eq comesTo_skip_eq comesTo_enter_eq Rl.comesToR_value_eq Rl.comesToR_skip_eq Rl.comesToR_enter_eq

set_option maxRecDepth 100000 in
set_option maxHeartbeats 4000000 in
theorem state_any (j : JobV) (w : World) : Calls Tryd.prog 34 #[.agg (jobC j).toArray] w fun e w' => e = .returned (.bool (stateB j)) ∧ Below w.heap.size w w' := by
  have KF := Lib.hid (fun b (h : fitsB j j.nodes = b) W => h ▸ fits_any j j.nodes W)
  have hS : j.state = 0 ∨ j.state = 1 ∨ (inI j.state 2 5 = true ∧ (j.state = 2 ∨ j.state = 3 ∨ j.state = 4 ∨ j.state = 5)) ∨ (inI j.state 2 5 = false ∧ (j.state == 0) = false ∧ (j.state == 1) = false ∧ (j.state == 2) = false ∧ (j.state == 3) = false ∧ (j.state == 4) = false ∧ (j.state == 5) = false) := by
    cases h : inI j.state 2 5 with
    | true => have := inI_yes h; by_cases h0 : j.state = 0; exact .inl h0; by_cases h1 : j.state = 1; exact .inr (.inl h1); exact .inr (.inr (.inl ⟨rfl, by omega⟩))
    | false =>
      have := inI_no h
      by_cases h0 : j.state = 0; exact .inl h0; by_cases h1 : j.state = 1; exact .inr (.inl h1)
      refine .inr (.inr (.inr ⟨rfl, ?_, ?_, ?_, ?_, ?_, ?_⟩)) <;> (rw [beq_eq_false_iff_ne]; omega)
  have hmx : Tryd.prog.follows .mixedOrders = true := by kernel_rfl
  have HLEN := Lib.hid (jobC_len j)
  have k3 : (jobC j).toArray[3]? = some (.int .i64 j.width) := rfl
  have k7 : (jobC j).toArray[7]? = some (.bool j.hold) := rfl
  have k8 : (jobC j).toArray[8]? = some (.int .i64 j.state) := rfl
  have k12 : (jobC j).toArray[12]? = some (.int .i64 j.tries) := rfl
  have k14 : (jobC j).toArray[14]? = some (.int .u64 (nv j.nodes)) := rfl
  have k15 : (jobC j).toArray[15]? = some (.int .i64 j.start) := rfl
  have k16 : (jobC j).toArray[16]? = some (.int .i64 j.fin) := rfl
  generalize hl : jobC j = l at *
  clear hl
  go_enter Tryd.func34, Tryd.ntmps34
  go_upto_region 1 with fail
  have hC := World.alloc_heap_new w (.cells l.toArray 26)
  have HB := Lib.hid (below_alloc (Below.refl _ w) (.cells l.toArray 26))
  have l0 : w.heap.size < (w.alloc (.cells l.toArray 26)).heap.size := by simp
  generalize w.alloc (.cells l.toArray 26) = U at *
  have c3 := cell_of_block (o := 3) hC k3
  have c7 := cell_of_block (o := 7) hC k7
  have c8 := cell_of_block (o := 8) hC k8
  have c12 := cell_of_block (o := 12) hC k12
  have c14 := cell_of_block (o := 14) hC k14
  have c15 := cell_of_block (o := 15) hC k15
  have c16 := cell_of_block (o := 16) hC k16
  have HC := Lib.hid hC
  have L0 := Lib.hid l0
  have HK3 := Lib.hid k3
  have HK7 := Lib.hid k7
  have HK8 := Lib.hid k8
  have HK12 := Lib.hid k12
  have HK14 := Lib.hid k14
  have HK15 := Lib.hid k15
  have HK16 := Lib.hid k16
  clear hC k3 k7 k8 k12 k14 k15 k16
  rcases hS with hs | hs | ⟨hi, hs⟩ | ⟨hi, h0, h1, h2, h3, h4, h5⟩
  · rw [hs] at c8
    have E0 := Lib.hid (show stateB j = ((nv j.nodes == 0) && (j.start == 0) && (j.fin == 0)) by unfold stateB; rw [hs]; rfl)
    clear hs
    cases ha : (nv j.nodes == 0) with
    | false =>
      have E := Lib.hid (show stateB j = false by rw [E0.out, ha]; simp)
      go_wp2
      go_ret
      exact ⟨by rw [E.out]; rfl, HB.out⟩
    | true =>
      cases hb : (j.start == 0) with
      | false =>
        have E := Lib.hid (show stateB j = false by rw [E0.out, hb]; simp)
        go_wp2
        go_ret
        exact ⟨by rw [E.out]; rfl, HB.out⟩
      | true =>
        cases hc : (j.fin == 0) with
        | false =>
          have E := Lib.hid (show stateB j = false by rw [E0.out, hc]; simp)
          go_wp2
          go_ret
          exact ⟨by rw [E.out]; rfl, HB.out⟩
        | true =>
          have E := Lib.hid (show stateB j = true by rw [E0.out, ha, hb, hc]; rfl)
          go_wp2
          go_ret
          exact ⟨by rw [E.out]; rfl, HB.out⟩
  · rw [hs] at c8
    have E0 := Lib.hid (show stateB j = (!j.hold && fitsB j j.nodes && decide (1 ≤ j.tries) && decide (j.start < 1099511627776) && (j.fin == 0)) by unfold stateB; rw [hs]; rfl)
    clear hs
    cases hh : j.hold with
    | true =>
      rw [hh] at c7
      have E := Lib.hid (show stateB j = false by rw [E0.out, hh]; rfl)
      go_wp2
      go_ret
      exact ⟨by rw [E.out]; rfl, HB.out⟩
    | false =>
      rw [hh] at c7
      have hf : fitsB j j.nodes = true ∨ fitsB j j.nodes = false := by cases fitsB j j.nodes; exact .inr rfl; exact .inl rfl
      go_upto_region 5 with fail
      refine wp_region_lit ?_
      refine wpList_yield (w' := U) (v := .pointer (some ⟨w.heap.size, 7, none⟩)) rfl (by first | (go_simp; done) | (go_simp; rfl)) ?_
      refine wpList_yield (w' := U) (v := .bool false) rfl (by first | (go_simp; done) | (go_simp; rfl)) ?_
      refine wpList_yield (w' := U) (v := .bool true) rfl (by first | (go_simp; done) | (go_simp; rfl)) ?_
      refine wpList_yield (w' := U) (v := .bool true) rfl (by first | (go_simp; done) | (go_simp; rfl)) ?_
      refine wpList_load_all_w (by first | (go_simp; done) | (go_simp; rfl)) 26 _ rfl w.heap.size l _ (by go_simp) HC.out Tryd.underlying26 rfl (by rw [HLEN.out]; kernel_rfl) ?_
      refine wpList_yield_w (w' := U) (v := .pointer (some ⟨w.heap.size, 14, none⟩)) (by first | (go_simp; done) | (go_simp; rfl)) (by first | (go_simp; done) | (go_simp; rfl)) ?_
      refine wpList_yield_w (w' := U) (v := .int .u64 (nv j.nodes)) (by first | (go_simp; done) | (go_simp; rfl)) (by first | (go_simp; done) | (go_simp; rfl)) ?_
      rcases hf with hf | hf
      · refine wpList_enter_w (by first | (go_simp; done) | (go_simp; rfl)) (by go_simp) (KF.out true hf U) ?_
        rintro e w2 ⟨rfl, hb2⟩
        refine ⟨_, rfl, ?_⟩
        have hc2 := (hb2.block w.heap.size L0.out).trans HC.out
        have HB2 := Lib.hid (below_next HB.out hb2)
        clear c3 c7 c8 c12 c14 c15 c16 hb2 l0
        have c12 := cell_of_block (o := 12) hc2 HK12.out
        have c15 := cell_of_block (o := 15) hc2 HK15.out
        have c16 := cell_of_block (o := 16) hc2 HK16.out
        clear hc2
        cases ha : decide (1 ≤ j.tries) with
        | false =>
          have E := Lib.hid (show stateB j = false by rw [E0.out, hh, hf, ha]; simp)
          go_wp2
          go_ret
          exact ⟨by rw [E.out]; rfl, HB2.out⟩
        | true =>
          cases hb : decide (j.start < 1099511627776) with
          | false =>
            have E := Lib.hid (show stateB j = false by rw [E0.out, hh, hf, hb]; simp)
            go_wp2
            go_ret
            exact ⟨by rw [E.out]; rfl, HB2.out⟩
          | true =>
            cases hc : (j.fin == 0) with
            | false =>
              have E := Lib.hid (show stateB j = false by rw [E0.out, hh, hf, hc]; simp)
              go_wp2
              go_ret
              exact ⟨by rw [E.out]; rfl, HB2.out⟩
            | true =>
              have E := Lib.hid (show stateB j = true by rw [E0.out, hh, hf, ha, hb, hc]; rfl)
              go_wp2
              go_ret
              exact ⟨by rw [E.out]; rfl, HB2.out⟩
      · refine wpList_enter_w (by first | (go_simp; done) | (go_simp; rfl)) (by go_simp) (KF.out false hf U) ?_
        rintro e w2 ⟨rfl, hb2⟩
        refine ⟨_, rfl, ?_⟩
        have hc2 := (hb2.block w.heap.size L0.out).trans HC.out
        have HB2 := Lib.hid (below_next HB.out hb2)
        clear c3 c7 c8 c12 c14 c15 c16 hb2 l0
        have c12 := cell_of_block (o := 12) hc2 HK12.out
        have c15 := cell_of_block (o := 15) hc2 HK15.out
        have c16 := cell_of_block (o := 16) hc2 HK16.out
        clear hc2
        have E := Lib.hid (show stateB j = false by rw [E0.out, hh, hf]; rfl)
        go_wp2
        go_ret
        exact ⟨by rw [E.out]; rfl, HB2.out⟩
  · have hs0 : (j.state == 0) = false := by rcases hs with h | h | h | h <;> (rw [h]; rfl)
    have hs1 : (j.state == 1) = false := by rcases hs with h | h | h | h <;> (rw [h]; rfl)
    have E0 := Lib.hid (show stateB j = (if j.tries == 0 then (nv j.nodes == 0) && decide (j.start ≤ j.fin) else ((card j.nodes : Int) == j.width) && decide (j.start ≤ j.fin)) by unfold stateB; rw [hs0, hs1, hi]; rfl)
    clear hs0 hs1 hi
    cases ht : (j.tries == 0) with
    | true =>
      cases ha : (nv j.nodes == 0) with
      | false =>
        have E := Lib.hid (show stateB j = false by rw [E0.out, ht, ha]; rfl)
        rcases hs with hs | hs | hs | hs <;> rw [hs] at c8
        all_goals clear hs
        all_goals go_wp2
        all_goals go_ret
        all_goals exact ⟨by rw [E.out]; rfl, HB.out⟩
      | true =>
        cases hb : decide (j.start ≤ j.fin) with
        | false =>
          have E := Lib.hid (show stateB j = false by rw [E0.out, ht, ha, hb]; rfl)
          rcases hs with hs | hs | hs | hs <;> rw [hs] at c8
          all_goals clear hs
          all_goals go_wp2
          all_goals go_ret
          all_goals exact ⟨by rw [E.out]; rfl, HB.out⟩
        | true =>
          have E := Lib.hid (show stateB j = true by rw [E0.out, ht, ha, hb]; rfl)
          rcases hs with hs | hs | hs | hs <;> rw [hs] at c8
          all_goals clear hs
          all_goals go_wp2
          all_goals go_ret
          all_goals exact ⟨by rw [E.out]; rfl, HB.out⟩
    | false =>
      have hm : (((card j.nodes : Nat) : Int) == j.width) = true ∨ (((card j.nodes : Nat) : Int) == j.width) = false := by cases (((card j.nodes : Nat) : Int) == j.width); exact .inr rfl; exact .inl rfl
      rcases hm with ha | ha
      · have E := Lib.hid (show stateB j = decide (j.start ≤ j.fin) by rw [E0.out, ht, ha]; rfl)
        rcases hs with hs | hs | hs | hs <;> rw [hs] at c8
        all_goals clear hs
        all_goals go_upto_region 12 with fail
        all_goals (
          refine Rl.wp_region_rel (fun a b => Below a.heap.size a b) U (fun a b c h h' => below_next h h') (fun a => Below.refl _ _) hmx (by kernel_rfl) (Below.refl _ _).drew ?_
          (refine Rl.textR_run ?_ (fun ρ => ?_) (fun ρ W hS hd => ?_) ?_; rotate_left; (focus go_simp); (focus (obtain ⟨hc, hf⟩ := bcell hS; go_simp; first | exact ⟨rfl, Below.refl _ _⟩ | (refine ⟨?_, Below.refl _ _⟩; rfl))); (try go_simp))
          (refine Rl.textR_run ?_ (fun ρ => ?_) (fun ρ W hS hd => ?_) ?_; rotate_left; (focus go_simp); (focus (obtain ⟨hc, hf⟩ := bcell hS; go_simp; first | exact ⟨rfl, Below.refl _ _⟩ | (refine ⟨?_, Below.refl _ _⟩; rfl))); (try go_simp))
          (refine Rl.textR_run ?_ (fun ρ => ?_) (fun ρ W hS hd => ?_) ?_; rotate_left; (focus go_simp); (focus (obtain ⟨hc, hf⟩ := bcell hS; go_simp; refine (len_any _ _).mono ?_; rintro e w1 ⟨rfl, rfl⟩; refine ⟨_, rfl, ?_, Below.refl _ _⟩; rfl)); (try go_simp))
          (refine Rl.textR_run ?_ (fun ρ => ?_) (fun ρ W hS hd => ?_) ?_; rotate_left; (focus go_simp); (focus (obtain ⟨hc, hf⟩ := bcell hS; go_simp; first | exact ⟨rfl, Below.refl _ _⟩ | (refine ⟨?_, Below.refl _ _⟩; rfl))); (try go_simp))
          (refine Rl.textR_run ?_ (fun ρ => ?_) (fun ρ W hS hd => ?_) ?_; rotate_left; (focus go_simp); (focus (obtain ⟨hc, hf⟩ := bcell hS; go_simp; first | exact ⟨rfl, Below.refl _ _⟩ | (refine ⟨?_, Below.refl _ _⟩; rfl))); (try go_simp))
          (refine Rl.textR_run ?_ (fun ρ => ?_) (fun ρ W hS hd => ?_) ?_; rotate_left; (focus go_simp); (focus (obtain ⟨hc, hf⟩ := bcell hS; go_simp; first | exact ⟨rfl, Below.refl _ _⟩ | (refine ⟨?_, Below.refl _ _⟩; rfl))); (try go_simp))
          (refine Rl.textR_run ?_ (fun ρ => ?_) (fun ρ W hS hd => ?_) ?_; rotate_left; (focus go_simp); (focus (obtain ⟨hc, hf⟩ := bcell hS; go_simp; first | exact ⟨rfl, Below.refl _ _⟩ | (refine ⟨?_, Below.refl _ _⟩; rfl))); (try go_simp))
          (refine Rl.textR_run ?_ (fun ρ => ?_) (fun ρ W hS hd => ?_) ?_; rotate_left; (focus go_simp); (focus (obtain ⟨hc, hf⟩ := bcell hS; go_simp; first | exact ⟨rfl, Below.refl _ _⟩ | (refine ⟨?_, Below.refl _ _⟩; rfl))); (try go_simp))
          (refine Rl.textR_run ?_ (fun ρ => ?_) (fun ρ W hS hd => ?_) ?_; rotate_left; (focus go_simp); (focus (obtain ⟨hc, hf⟩ := bcell hS; go_simp; first | exact ⟨rfl, Below.refl _ _⟩ | (refine ⟨?_, Below.refl _ _⟩; rfl))); (try go_simp))
          (refine Rl.textR_run ?_ (fun ρ => ?_) (fun ρ W hS hd => ?_) ?_; rotate_left; (focus go_simp); (focus (obtain ⟨hc, hf⟩ := bcell hS; go_simp; first | exact ⟨rfl, Below.refl _ _⟩ | (refine ⟨?_, Below.refl _ _⟩; rfl))); (try go_simp))
          (refine Rl.textR_run ?_ (fun ρ => ?_) (fun ρ W hS hd => ?_) ?_; rotate_left; (focus go_simp); (focus (obtain ⟨hc, hf⟩ := bcell hS; go_simp; first | exact ⟨rfl, Below.refl _ _⟩ | (refine ⟨?_, Below.refl _ _⟩; rfl))); (try go_simp))
          (refine Rl.textR_run ?_ (fun ρ => ?_) (fun ρ W hS hd => ?_) ?_; rotate_left; (focus go_simp); (focus (obtain ⟨hc, hf⟩ := bcell hS; go_simp; first | exact ⟨rfl, Below.refl _ _⟩ | (refine ⟨?_, Below.refl _ _⟩; rfl))); (try go_simp))
          (refine Rl.textR_run ?_ (fun ρ => ?_) (fun ρ W hS hd => ?_) ?_; rotate_left; (focus go_simp); (focus (obtain ⟨hc, hf⟩ := bcell hS; go_simp; first | exact ⟨rfl, Below.refl _ _⟩ | (refine ⟨?_, Below.refl _ _⟩; rfl))); (try go_simp))
          (refine Rl.textR_run ?_ (fun ρ => ?_) (fun ρ W hS hd => ?_) ?_; rotate_left; (focus go_simp); (focus (obtain ⟨hc, hf⟩ := bcell hS; go_simp; first | exact ⟨rfl, Below.refl _ _⟩ | (refine ⟨?_, Below.refl _ _⟩; rfl))); (try go_simp))
          refine Rl.textR_nil ?_
          intro ρ w1 hg hk
          dsimp only
          go_wp2
          go_ret
          exact ⟨by rw [E.out]; rfl, HB.out.trans (hg.mono HB.out.size)⟩)
      · have E := Lib.hid (show stateB j = false by rw [E0.out, ht, ha]; rfl)
        rcases hs with hs | hs | hs | hs <;> rw [hs] at c8
        all_goals clear hs
        all_goals go_upto_region 12 with fail
        all_goals (
          refine Rl.wp_region_rel (fun a b => Below a.heap.size a b) U (fun a b c h h' => below_next h h') (fun a => Below.refl _ _) hmx (by kernel_rfl) (Below.refl _ _).drew ?_
          (refine Rl.textR_run ?_ (fun ρ => ?_) (fun ρ W hS hd => ?_) ?_; rotate_left; (focus go_simp); (focus (obtain ⟨hc, hf⟩ := bcell hS; go_simp; first | exact ⟨rfl, Below.refl _ _⟩ | (refine ⟨?_, Below.refl _ _⟩; rfl))); (try go_simp))
          (refine Rl.textR_run ?_ (fun ρ => ?_) (fun ρ W hS hd => ?_) ?_; rotate_left; (focus go_simp); (focus (obtain ⟨hc, hf⟩ := bcell hS; go_simp; first | exact ⟨rfl, Below.refl _ _⟩ | (refine ⟨?_, Below.refl _ _⟩; rfl))); (try go_simp))
          (refine Rl.textR_run ?_ (fun ρ => ?_) (fun ρ W hS hd => ?_) ?_; rotate_left; (focus go_simp); (focus (obtain ⟨hc, hf⟩ := bcell hS; go_simp; refine (len_any _ _).mono ?_; rintro e w1 ⟨rfl, rfl⟩; refine ⟨_, rfl, ?_, Below.refl _ _⟩; rfl)); (try go_simp))
          (refine Rl.textR_run ?_ (fun ρ => ?_) (fun ρ W hS hd => ?_) ?_; rotate_left; (focus go_simp); (focus (obtain ⟨hc, hf⟩ := bcell hS; go_simp; first | exact ⟨rfl, Below.refl _ _⟩ | (refine ⟨?_, Below.refl _ _⟩; rfl))); (try go_simp))
          (refine Rl.textR_run ?_ (fun ρ => ?_) (fun ρ W hS hd => ?_) ?_; rotate_left; (focus go_simp); (focus (obtain ⟨hc, hf⟩ := bcell hS; go_simp; first | exact ⟨rfl, Below.refl _ _⟩ | (refine ⟨?_, Below.refl _ _⟩; rfl))); (try go_simp))
          (refine Rl.textR_run ?_ (fun ρ => ?_) (fun ρ W hS hd => ?_) ?_; rotate_left; (focus go_simp); (focus (obtain ⟨hc, hf⟩ := bcell hS; go_simp; first | exact ⟨rfl, Below.refl _ _⟩ | (refine ⟨?_, Below.refl _ _⟩; rfl))); (try go_simp))
          (refine Rl.textR_run ?_ (fun ρ => ?_) (fun ρ W hS hd => ?_) ?_; rotate_left; (focus go_simp); (focus (obtain ⟨hc, hf⟩ := bcell hS; go_simp; first | exact ⟨rfl, Below.refl _ _⟩ | (refine ⟨?_, Below.refl _ _⟩; rfl))); (try go_simp))
          (refine Rl.textR_skip (fun ρ => ?_) ?_; (focus (first | rfl | (go_simp; done) | (go_simp; rfl))); (try go_simp))
          (refine Rl.textR_skip (fun ρ => ?_) ?_; (focus (first | rfl | (go_simp; done) | (go_simp; rfl))); (try go_simp))
          (refine Rl.textR_skip (fun ρ => ?_) ?_; (focus (first | rfl | (go_simp; done) | (go_simp; rfl))); (try go_simp))
          (refine Rl.textR_skip (fun ρ => ?_) ?_; (focus (first | rfl | (go_simp; done) | (go_simp; rfl))); (try go_simp))
          (refine Rl.textR_skip (fun ρ => ?_) ?_; (focus (first | rfl | (go_simp; done) | (go_simp; rfl))); (try go_simp))
          (refine Rl.textR_run ?_ (fun ρ => ?_) (fun ρ W hS hd => ?_) ?_; rotate_left; (focus go_simp); (focus (obtain ⟨hc, hf⟩ := bcell hS; go_simp; first | exact ⟨rfl, Below.refl _ _⟩ | (refine ⟨?_, Below.refl _ _⟩; rfl))); (try go_simp))
          (refine Rl.textR_run ?_ (fun ρ => ?_) (fun ρ W hS hd => ?_) ?_; rotate_left; (focus go_simp); (focus (obtain ⟨hc, hf⟩ := bcell hS; go_simp; first | exact ⟨rfl, Below.refl _ _⟩ | (refine ⟨?_, Below.refl _ _⟩; rfl))); (try go_simp))
          refine Rl.textR_nil ?_
          intro ρ w1 hg hk
          dsimp only
          go_wp2
          go_ret
          exact ⟨by rw [E.out]; rfl, HB.out.trans (hg.mono HB.out.size)⟩)
  · have E := Lib.hid (show stateB j = false by unfold stateB; rw [h0, h1, hi]; rfl)
    go_wp2
    go_ret
    exact ⟨by rw [E.out]; rfl, HB.out⟩
end Go.Proofs.YtgeldpfojmkdbaaDoor
namespace Go.Proofs.YtgeldpfojmkdbaaDoor
set_option linter.unusedVariables false
open Go.ChangeShapes Go.WideShapes Go.ChangeAt Go.RowKit
attribute [local go_sem ↓] Go.wp_at_zero Go.wp_at_succ comesTo_value_eq comesTo_skip_eq comesTo_enter_eq Rl.comesToR_value_eq Rl.comesToR_skip_eq Rl.comesToR_enter_eq

theorem index5 (a b c d e : Int) (k : Nat) (hk : k < 5) (w : World) : (Instr.index 67 (.agg #[.int .i64 a, .int .i64 b, .int .i64 c, .int .i64 d, .int .i64 e]) (.int .i64 (k : Int))).run Tryd.prog w = .ok (.int .i64 ([a, b, c, d, e].getD k 0)) w := by
  rcases (show k = 0 ∨ k = 1 ∨ k = 2 ∨ k = 3 ∨ k = 4 by omega) with rfl | rfl | rfl | rfl | rfl <;> kernel_rfl
set_option maxRecDepth 100000 in
set_option maxHeartbeats 4000000 in
theorem right_any (j : JobV) (w : World) : Calls Tryd.prog 11 #[.agg (jobC j).toArray] w fun e w' => e = .returned (.bool (rightB j)) ∧ Below w.heap.size w w' := by
  have KS := Lib.hid (fun W => state_any j W)
  have HIX := Lib.hid (fun k hk W => index5 j.sent j.plan j.promise j.start j.fin k hk W)
  have HTS := Lib.hid (show timesJ j = [j.sent, j.plan, j.promise, j.start, j.fin] from rfl)
  have hmx : Tryd.prog.follows .mixedOrders = true := by kernel_rfl
  have HLEN := Lib.hid (jobC_len j)
  have k0 : (jobC j).toArray[0]? = some (.int .i64 j.id) := rfl
  have k1 : (jobC j).toArray[1]? = some (.int .i64 j.user) := rfl
  have k2 : (jobC j).toArray[2]? = some (.int .i64 j.part) := rfl
  have k3 : (jobC j).toArray[3]? = some (.int .i64 j.width) := rfl
  have k4 : (jobC j).toArray[4]? = some (.int .i64 j.limit) := rfl
  have k5 : (jobC j).toArray[5]? = some (.int .i64 j.nice) := rfl
  have k6 : (jobC j).toArray[6]? = some (.int .i64 j.after) := rfl
  have k9 : (jobC j).toArray[9]? = some (.int .i64 j.sent) := rfl
  have k10 : (jobC j).toArray[10]? = some (.int .i64 j.plan) := rfl
  have k11 : (jobC j).toArray[11]? = some (.int .i64 j.promise) := rfl
  have k12 : (jobC j).toArray[12]? = some (.int .i64 j.tries) := rfl
  have k15 : (jobC j).toArray[15]? = some (.int .i64 j.start) := rfl
  have k16 : (jobC j).toArray[16]? = some (.int .i64 j.fin) := rfl
  generalize hl : jobC j = l at *
  clear hl
  go_enter Tryd.func11, Tryd.ntmps11
  go_upto_region 1 with fail
  have hC := World.alloc_heap_new w (.cells l.toArray 26)
  have HB := Lib.hid (below_alloc (Below.refl _ w) (.cells l.toArray 26))
  have l0 : w.heap.size < (w.alloc (.cells l.toArray 26)).heap.size := by simp
  generalize w.alloc (.cells l.toArray 26) = U at *
  have c0 := cell_of_block (o := 0) hC k0
  have c1 := cell_of_block (o := 1) hC k1
  have c2 := cell_of_block (o := 2) hC k2
  have c3 := cell_of_block (o := 3) hC k3
  have c4 := cell_of_block (o := 4) hC k4
  have c5 := cell_of_block (o := 5) hC k5
  have c6 := cell_of_block (o := 6) hC k6
  have c9 := cell_of_block (o := 9) hC k9
  have c10 := cell_of_block (o := 10) hC k10
  have c11 := cell_of_block (o := 11) hC k11
  have c12 := cell_of_block (o := 12) hC k12
  have c15 := cell_of_block (o := 15) hC k15
  have c16 := cell_of_block (o := 16) hC k16
  have HC := Lib.hid hC
  have L0 := Lib.hid l0
  have HK0 := Lib.hid k0
  have HK1 := Lib.hid k1
  have HK2 := Lib.hid k2
  have HK3 := Lib.hid k3
  have HK4 := Lib.hid k4
  have HK5 := Lib.hid k5
  have HK6 := Lib.hid k6
  have HK9 := Lib.hid k9
  have HK10 := Lib.hid k10
  have HK11 := Lib.hid k11
  have HK12 := Lib.hid k12
  have HK15 := Lib.hid k15
  have HK16 := Lib.hid k16
  clear hC k0 k1 k2 k3 k4 k5 k6 k9 k10 k11 k12 k15 k16
  cases h1 : inI j.id 1 1073741824 with
  | false =>
    have E := Lib.hid (show rightB j = false by unfold rightB numsB; rw [h1]; rfl)
    go_wp2_with (go_at_call 32; ((with_reducible refine (within_is (by assumption) _).mono ?_)); rintro e w' ⟨rfl, rfl⟩)
    go_ret
    exact ⟨by rw [E.out]; rfl, HB.out⟩
  | true =>
    cases h2 : inI j.user 1 16 with
    | false =>
      have E := Lib.hid (show rightB j = false by unfold rightB numsB; rw [h1, h2]; rfl)
      go_wp2_with (go_at_call 32; ((with_reducible refine (within_is (by assumption) _).mono ?_)); rintro e w' ⟨rfl, rfl⟩)
      go_ret
      exact ⟨by rw [E.out]; rfl, HB.out⟩
    | true =>
      cases h3 : inI j.part 0 3 with
      | false =>
        have E := Lib.hid (show rightB j = false by unfold rightB numsB; rw [h1, h2, h3]; rfl)
        go_wp2_with (go_at_call 32; ((with_reducible refine (within_is (by assumption) _).mono ?_)); rintro e w' ⟨rfl, rfl⟩)
        go_ret
        exact ⟨by rw [E.out]; rfl, HB.out⟩
      | true =>
        cases h4 : inI j.width 1 64 with
        | false =>
          have E := Lib.hid (show rightB j = false by unfold rightB numsB; rw [h1, h2, h3, h4]; rfl)
          go_wp2_with (go_at_call 32; ((with_reducible refine (within_is (by assumption) _).mono ?_)); rintro e w' ⟨rfl, rfl⟩)
          go_ret
          exact ⟨by rw [E.out]; rfl, HB.out⟩
        | true =>
          have hn : numsB j = true := by unfold numsB; rw [h1, h2, h3, h4]; rfl
          obtain ⟨hi1, hi2⟩ := inI_yes h1
          cases m1 : decide (1 ≤ j.limit) with
          | false =>
            have E := Lib.hid (show rightB j = false by unfold rightB; rw [hn]; unfold moreB; rw [m1]; rfl)
            have dm1 : decide (j.limit < 1) = true := decide_eq_true (by have := of_decide_eq_false m1; omega)
            go_wp2_with (go_at_call 32; ((with_reducible refine (within_is (by assumption) _).mono ?_)); rintro e w' ⟨rfl, rfl⟩)
            go_ret
            exact ⟨by rw [E.out]; rfl, HB.out⟩
          | true =>
            have dm1 : decide (j.limit < 1) = false := decide_eq_false (by have := of_decide_eq_true m1; omega)
            cases m2 : decide (j.limit ≤ 1048576) with
            | false =>
              have E := Lib.hid (show rightB j = false by unfold rightB; rw [hn]; unfold moreB; rw [m1, m2]; rfl)
              have dm2 : decide (j.limit > 1048576) = true := decide_eq_true (by have := of_decide_eq_false m2; omega)
              go_wp2_with (go_at_call 32; ((with_reducible refine (within_is (by assumption) _).mono ?_)); rintro e w' ⟨rfl, rfl⟩)
              go_ret
              exact ⟨by rw [E.out]; rfl, HB.out⟩
            | true =>
              have dm2 : decide (j.limit > 1048576) = false := decide_eq_false (by have := of_decide_eq_true m2; omega)
              cases m3 : inI j.nice (-100) 100 with
              | false =>
                have E := Lib.hid (show rightB j = false by unfold rightB; rw [hn]; unfold moreB; rw [m1, m2, m3]; rfl)
                go_wp2_with (go_at_call 32; ((with_reducible refine (within_is (by assumption) _).mono ?_)); rintro e w' ⟨rfl, rfl⟩)
                go_ret
                exact ⟨by rw [E.out]; rfl, HB.out⟩
              | true =>
                cases m4 : inI j.after 0 (j.id - 1) with
                | false =>
                  have E := Lib.hid (show rightB j = false by unfold rightB; rw [hn]; unfold moreB; rw [m1, m2, m3, m4]; rfl)
                  go_wp2_with (go_at_call 32; ((with_reducible refine (within_is (by assumption) _).mono ?_)); rintro e w' ⟨rfl, rfl⟩)
                  go_ret
                  exact ⟨by rw [E.out]; rfl, HB.out⟩
                | true =>
                  cases m5 : inI j.tries 0 9 with
                  | false =>
                    have E := Lib.hid (show rightB j = false by unfold rightB; rw [hn]; unfold moreB; rw [m1, m2, m3, m4, m5]; rfl)
                    go_wp2_with (go_at_call 32; ((with_reducible refine (within_is (by assumption) _).mono ?_)); rintro e w' ⟨rfl, rfl⟩)
                    go_ret
                    exact ⟨by rw [E.out]; rfl, HB.out⟩
                  | true =>
                    have hm : moreB j = true := by unfold moreB; rw [m1, m2, m3, m4, m5]; rfl
                    have E0 := Lib.hid (show rightB j = ((timesJ j).all timeB && stateB j) by unfold rightB; rw [hn, hm]; rfl)
                    clear hn hm
                    have hts : (timesJ j).length = 5 := rfl
                    rw [← HTS.out] at HIX
                    generalize timesJ j = ts at *
                    have HTL := Lib.hid hts
                    clear hts HTS
                    go_wp2_with (first | fail | (go_at_call 32; ((with_reducible refine (within_is (by assumption) _).mono ?_)); rintro e w' ⟨rfl, rfl⟩))
                    go_loopw [67] (fun i wr => ∃ k : Nat, k ≤ 5 ∧ i = .int .i64 k ∧ (∀ t ∈ ts.take k, timeB t = true) ∧ wr = U) (fun i _ => 5 - (intOf i).toNat)
                    case atStart => exact ⟨0, Nat.zero_le _, rfl, (fun t ht => by cases ht), rfl⟩
                    case round =>
                      obtain ⟨k, hk, rfl, hall, rfl⟩ := hrel
                      have HA := Lib.hid hall
                      clear hall
                      by_cases hlt : k < 5
                      · have hd : decide ((k : Int) < 5) = true := decide_eq_true (by omega)
                        have hkl : k < ts.length := by rw [HTL.out]; exact hlt
                        have hix := HIX.out k hlt wr
                        have htk : ts.take (k + 1) = ts.take k ++ [ts.getD k 0] := by
                          rw [List.take_add_one]; simp [List.getD, hkl]
                        have hmem : ts.getD k 0 ∈ ts := by simp [List.getD, hkl]
                        have HTK := Lib.hid htk
                        have HMEM := Lib.hid hmem
                        clear htk hmem hkl
                        generalize ts.getD k 0 = t at *
                        cases ht : timeB t with
                        | false =>
                          have E := Lib.hid (show rightB j = false by
                            rw [E0.out, Bool.and_eq_false_iff]; left; rw [List.all_eq_false]; exact ⟨t, HMEM.out, by rw [ht]; decide⟩)
                          go_wp2_with (go_at_call 33; ((with_reducible refine (istime_is (by assumption) _).mono ?_)); rintro e w' ⟨rfl, rfl⟩)
                          go_ret
                          exact ⟨by rw [E.out]; rfl, HB.out⟩
                        | true =>
                          go_wp2_with (go_at_call 33; ((with_reducible refine (istime_is (by assumption) _).mono ?_)); rintro e w' ⟨rfl, rfl⟩)
                          go_roundw
                          case rel =>
                            refine ⟨k + 1, by omega, by go_num, fun x hx => ?_, trivial⟩
                            rw [HTK.out] at hx
                            rcases List.mem_append.1 hx with hx | hx
                            · exact HA.out x hx
                            · rw [List.mem_singleton.1 hx]; exact ht
                          case measure => simp [intOf]; omega
                      · have hd : decide ((k : Int) < 5) = false := decide_eq_false (by omega)
                        have E := Lib.hid (show rightB j = stateB j by
                          rw [E0.out, List.all_eq_true.2 (fun x hx => HA.out x (by rw [List.take_of_length_le (by rw [HTL.out]; omega)]; exact hx)), Bool.true_and])
                        go_upto_region 11 with fail
                        refine wp_region_lit ?_
                        refine wpList_load_all rfl 26 _ rfl w.heap.size l _ (by go_simp) HC.out Tryd.underlying26 rfl (by rw [HLEN.out]; kernel_rfl) ?_
                        refine wpList_enter rfl (by go_simp) (KS.out wr) ?_
                        rintro e w2 ⟨rfl, hb2⟩
                        refine ⟨_, rfl, ?_⟩
                        have HB2 := Lib.hid (below_next HB.out hb2)
                        clear hb2
                        go_wp2
                        go_ret
                        exact ⟨by rw [E.out]; rfl, HB2.out⟩

theorem right_is {j : JobV} {b : Bool} (h : rightB j = b) (w : World) : Calls Tryd.prog 11 #[.agg (jobC j).toArray] w fun e w' => e = .returned (.bool b) ∧ Below w.heap.size w w' := h ▸ right_any j w
end Go.Proofs.YtgeldpfojmkdbaaDoor
namespace Go.Proofs.YtgeldpfojmkdbaaDoor
set_option linter.unusedVariables false
open Go.ChangeShapes Go.WideShapes Go.ChangeAt Go.RowKit
attribute [local go_sem ↓] Go.wp_at_zero Go.wp_at_succ comesTo_value_eq comesTo_skip_eq comesTo_enter_eq Rl.comesToR_value_eq Rl.comesToR_skip_eq Rl.comesToR_enter_eq

set_option maxRecDepth 100000 in
set_option maxHeartbeats 4000000 in
theorem over_any (j : JobV) (w : World) : Calls Tryd.prog 17 #[.agg (jobC j).toArray] w fun e w' => e = .returned (.bool (overB j)) ∧ Below w.heap.size w w' := by
  have E := Lib.hid (show inI j.state 2 5 = overB j from rfl)
  have hmx : Tryd.prog.follows .mixedOrders = true := by kernel_rfl
  have HLEN := Lib.hid (jobC_len j)
  have k8 : (jobC j).toArray[8]? = some (.int .i64 j.state) := rfl
  generalize hl : jobC j = l at *
  clear hl
  go_enter Tryd.func17, Tryd.ntmps17
  go_upto_region 1 with fail
  have hC := World.alloc_heap_new w (.cells l.toArray 26)
  have HB := Lib.hid (below_alloc (Below.refl _ w) (.cells l.toArray 26))
  have l0 : w.heap.size < (w.alloc (.cells l.toArray 26)).heap.size := by simp
  generalize w.alloc (.cells l.toArray 26) = U at *
  have c8 := cell_of_block (o := 8) hC k8
  have HC := Lib.hid hC
  have L0 := Lib.hid l0
  have HK8 := Lib.hid k8
  clear hC k8
  go_wp2_with (go_at_call 32; refine (within_any _ _ _ _).mono ?_; rintro e w' ⟨rfl, rfl⟩)
  go_ret
  exact ⟨by rw [← E.out]; rfl, HB.out⟩
theorem over_is {j : JobV} {b : Bool} (h : overB j = b) (w : World) : Calls Tryd.prog 17 #[.agg (jobC j).toArray] w fun e w' => e = .returned (.bool b) ∧ Below w.heap.size w w' := h ▸ over_any j w
set_option maxRecDepth 100000 in
set_option maxHeartbeats 4000000 in
theorem until_any (j : JobV) (w : World) : Calls Tryd.prog 31 #[.agg (jobC j).toArray] w fun e w' => e = .returned (.int .i64 (untilJ j)) ∧ Below w.heap.size w w' := by
  have hs : (j.state == 1) = true ∨ (j.state == 1) = false := by cases (j.state == 1); exact .inr rfl; exact .inl rfl
  have hmx : Tryd.prog.follows .mixedOrders = true := by kernel_rfl
  have HLEN := Lib.hid (jobC_len j)
  have k4 : (jobC j).toArray[4]? = some (.int .i64 j.limit) := rfl
  have k8 : (jobC j).toArray[8]? = some (.int .i64 j.state) := rfl
  have k15 : (jobC j).toArray[15]? = some (.int .i64 j.start) := rfl
  generalize hl : jobC j = l at *
  clear hl
  go_enter Tryd.func31, Tryd.ntmps31
  go_upto_region 1 with fail
  have hC := World.alloc_heap_new w (.cells l.toArray 26)
  have HB := Lib.hid (below_alloc (Below.refl _ w) (.cells l.toArray 26))
  have l0 : w.heap.size < (w.alloc (.cells l.toArray 26)).heap.size := by simp
  generalize w.alloc (.cells l.toArray 26) = U at *
  have c4 := cell_of_block (o := 4) hC k4
  have c8 := cell_of_block (o := 8) hC k8
  have c15 := cell_of_block (o := 15) hC k15
  have HC := Lib.hid hC
  have L0 := Lib.hid l0
  have HK4 := Lib.hid k4
  have HK8 := Lib.hid k8
  have HK15 := Lib.hid k15
  clear hC k4 k8 k15
  rcases hs with hs | hs
  · have E := Lib.hid (show untilJ j = addI j.start j.limit by unfold untilJ; rw [hs]; rfl)
    go_wp2_with (go_at_call 52; refine (add_any _ _ _).mono ?_; rintro e w' ⟨rfl, rfl⟩)
    go_ret
    exact ⟨by rw [E.out]; rfl, HB.out⟩
  · have E := Lib.hid (show untilJ j = 0 by unfold untilJ; rw [hs]; rfl)
    go_wp2
    go_ret
    exact ⟨by rw [E.out]; rfl, HB.out⟩
set_option maxRecDepth 100000 in
set_option maxHeartbeats 4000000 in
theorem late_any (j : JobV) (now : Int) (w : World) : Calls Tryd.prog 36 #[.agg (jobC j).toArray, .int .i64 now] w fun e w' => e = .returned (.bool (lateB j now)) ∧ Below w.heap.size w w' := by
  have hs : (j.state == 1) = true ∨ (j.state == 1) = false := by cases (j.state == 1); exact .inr rfl; exact .inl rfl
  have hmx : Tryd.prog.follows .mixedOrders = true := by kernel_rfl
  have HLEN := Lib.hid (jobC_len j)
  have k8 : (jobC j).toArray[8]? = some (.int .i64 j.state) := rfl
  have k15 : (jobC j).toArray[15]? = some (.int .i64 j.start) := rfl
  generalize hl : jobC j = l at *
  clear hl
  go_enter Tryd.func36, Tryd.ntmps36
  go_upto_region 1 with fail
  have hC := World.alloc_heap_new w (.cells l.toArray 26)
  have HB := Lib.hid (below_alloc (Below.refl _ w) (.cells l.toArray 26))
  have l0 : w.heap.size < (w.alloc (.cells l.toArray 26)).heap.size := by simp
  generalize w.alloc (.cells l.toArray 26) = U at *
  have c8 := cell_of_block (o := 8) hC k8
  have c15 := cell_of_block (o := 15) hC k15
  have HC := Lib.hid hC
  have L0 := Lib.hid l0
  have HK8 := Lib.hid k8
  have HK15 := Lib.hid k15
  clear hC k8 k15
  cases ht : timeB now with
  | false =>
    have E := Lib.hid (show lateB j now = true by unfold lateB; rw [ht]; rfl)
    go_wp2_with (go_at_call 33; ((with_reducible refine (istime_is (by assumption) _).mono ?_)); rintro e w' ⟨rfl, rfl⟩)
    go_ret
    exact ⟨by rw [E.out]; rfl, HB.out⟩
  | true =>
    rcases hs with hs | hs
    · have E := Lib.hid (show lateB j now = decide (now < j.start) by unfold lateB; rw [ht, hs]; rfl)
      go_wp2_with (go_at_call 33; ((with_reducible refine (istime_is (by assumption) _).mono ?_)); rintro e w' ⟨rfl, rfl⟩)
      go_ret
      exact ⟨by rw [E.out]; rfl, HB.out⟩
    · have E := Lib.hid (show lateB j now = false by unfold lateB; rw [ht, hs]; rfl)
      go_wp2_with (go_at_call 33; ((with_reducible refine (istime_is (by assumption) _).mono ?_)); rintro e w' ⟨rfl, rfl⟩)
      go_ret
      exact ⟨by rw [E.out]; rfl, HB.out⟩
theorem late_is {j : JobV} {now : Int} {b : Bool} (h : lateB j now = b) (w : World) : Calls Tryd.prog 36 #[.agg (jobC j).toArray, .int .i64 now] w fun e w' => e = .returned (.bool b) ∧ Below w.heap.size w w' := h ▸ late_any j now w
set_option maxRecDepth 100000 in
set_option maxHeartbeats 4000000 in
theorem end_wait (j : JobV) (now how : Int) (hs : j.state = 0) (w : World) : Calls Tryd.prog 37 #[.agg (jobC j).toArray, .int .i64 now, .int .i64 how] w fun e w' => e = .returned (.agg (jobC (endJ j now how)).toArray) ∧ Below w.heap.size w w' := by
  have he : endJ j now how = { j with start := now, tries := 0, state := how, fin := now } := by unfold endJ; rw [hs]; rfl
  rw [he]
  clear he
  have HSET := Lib.hid (show (((((jobC j).toArray).setIfInBounds 15 (.int .i64 now)).setIfInBounds 12 (.int .i64 0)).setIfInBounds 8 (.int .i64 how)).setIfInBounds 16 (.int .i64 now) = (jobC ({ j with start := now, tries := 0, state := how, fin := now })).toArray from rfl)
  have HLEN' := Lib.hid (jobC_len ({ j with start := now, tries := 0, state := how, fin := now }))
  have HONE' := Lib.hid (jobC_one ({ j with start := now, tries := 0, state := how, fin := now }))
  have HLEN := Lib.hid (jobC_len j)
  have k8 : (jobC j).toArray[8]? = some (.int .i64 j.state) := rfl
  have k15 : (jobC j).toArray[15]? = some (.int .i64 j.start) := rfl
  have k12 : (jobC j).toArray[12]? = some (.int .i64 j.tries) := rfl
  have k16 : (jobC j).toArray[16]? = some (.int .i64 j.fin) := rfl
  generalize hl' : jobC ({ j with start := now, tries := 0, state := how, fin := now }) = l' at *
  clear hl'
  generalize hl : jobC j = l at *
  clear hl
  go_enter Tryd.func37, Tryd.ntmps37
  go_upto_region 1 with fail
  generalize hU : (w.alloc (.cells l.toArray 26)).alloc (.cells #[.int .i64 0, .int .i64 0, .int .i64 0, .int .i64 0, .int .i64 0, .int .i64 0, .int .i64 0, .bool false, .int .i64 0, .int .i64 0, .int .i64 0, .int .i64 0, .int .i64 0, .int .u64 0, .int .u64 0, .int .i64 0, .int .i64 0] 26) = U
  have hC : U.heap[w.heap.size]? = some (.cells l.toArray 26 (0, 0)) := by rw [← hU]; exact ((below_alloc (Below.refl _ _) _).block _ (by simp)).trans (World.alloc_heap_new w _)
  have hZ : U.heap[w.heap.size + 1]? = some (.cells #[.int .i64 0, .int .i64 0, .int .i64 0, .int .i64 0, .int .i64 0, .int .i64 0, .int .i64 0, .bool false, .int .i64 0, .int .i64 0, .int .i64 0, .int .i64 0, .int .i64 0, .int .u64 0, .int .u64 0, .int .i64 0, .int .i64 0] 26 (0, 0)) := by
    rw [← hU]
    have := World.alloc_heap_new (w.alloc (.cells l.toArray 26)) (.cells #[.int .i64 0, .int .i64 0, .int .i64 0, .int .i64 0, .int .i64 0, .int .i64 0, .int .i64 0, .bool false, .int .i64 0, .int .i64 0, .int .i64 0, .int .i64 0, .int .i64 0, .int .u64 0, .int .u64 0, .int .i64 0, .int .i64 0] 26)
    rwa [show (w.alloc (.cells l.toArray 26)).heap.size = w.heap.size + 1 by simp] at this
  have HB := Lib.hid (show Below w.heap.size w U by rw [← hU]; exact (by repeat (first | exact Below.refl _ _ | assumption | refine below_drewN ?_ _ | refine Below.drew ?_ | refine below_alloc ?_ _ | refine Below.alloc ?_ (by first | omega | (simp; done) | (simp; omega)) _ | refine Below.setCell ?_ (Below.size (by assumption)) _ | refine Below.setCell ?_ (by first | omega | (simp; done) | (simp; omega)) _ | (refine Below.trans ?_ (Below.mono (by assumption) (by first | omega | (simp; done) | (simp; omega)))) | refine below_next ?_ (by assumption))))
  have HS := Lib.hid (show U.heap.size = w.heap.size + 2 by rw [← hU]; simp)
  clear hU
  have HC := Lib.hid hC
  have HZ := Lib.hid hZ
  clear hC hZ
  have HK8 := Lib.hid k8
  have HK15 := Lib.hid k15
  have HK12 := Lib.hid k12
  have HK16 := Lib.hid k16
  clear k8 k15 k12 k16
  have c8 := cell_of_block (o := 8) HC.out HK8.out
  have c15 := cell_of_block (o := 15) HC.out HK15.out
  have c12 := cell_of_block (o := 12) HC.out HK12.out
  have c16 := cell_of_block (o := 16) HC.out HK16.out
  have f15 := free_of_block 15 HC.out
  have f12 := free_of_block 12 HC.out
  have f8 := free_of_block 8 HC.out
  have f16 := free_of_block 16 HC.out
  rw [hs] at c8
  clear hs
  go_upto_region 6 with fail
  have hW := ((((wrote_refl HC.out).set 15 (.int .i64 now)).set 12 (.int .i64 0)).set 8 (.int .i64 how)).set 16 (.int .i64 now)
  rw [HSET.out] at hW
  have HV := Lib.hid hW.there
  have HZV := Lib.hid ((hW.rest (w.heap.size + 1) (by omega)).trans HZ.out)
  have HBV := Lib.hid (hW.below HB.out (Nat.le_refl _))
  clear hW c8 c15 c12 c16 f15 f12 f8 f16
  generalize ((((U).setCell ⟨w.heap.size, 15, none⟩ (.int .i64 now)).setCell ⟨w.heap.size, 12, none⟩ (.int .i64 0)).setCell ⟨w.heap.size, 8, none⟩ (.int .i64 how)).setCell ⟨w.heap.size, 16, none⟩ (.int .i64 now) = V at *
  refine wp_region_lit ?_
  refine wpList_load_all rfl 26 _ rfl (w.heap.size) l' _ (by go_simp) HV.out Tryd.underlying26 rfl (by rw [HLEN'.out]; kernel_rfl) ?_
  refine wpList_store_all rfl 26 _ _ rfl (w.heap.size + 1) (T := 26) l' (by go_simp) (by go_simp) HZV.out (by rw [HLEN'.out]; rfl) (by rw [HLEN'.out]; kernel_rfl) HONE'.out ?_
  intro w9 hw9
  have HW9 := Lib.hid hw9.there
  have HB9 := Lib.hid (hw9.below HBV.out (by omega))
  clear hw9
  go_wp2_with fail
  exact bodyPost_ret (results_all l' _ Tryd.results37 (by go_simp) HW9.out Tryd.underlying26 rfl (by rw [HLEN'.out]; kernel_rfl)) rfl ⟨rfl, HB9.out⟩
set_option maxRecDepth 100000 in
set_option maxHeartbeats 4000000 in
theorem end_run (j : JobV) (now how : Int) (hs : j.state = 1) (w : World) : Calls Tryd.prog 37 #[.agg (jobC j).toArray, .int .i64 now, .int .i64 how] w fun e w' => e = .returned (.agg (jobC (endJ j now how)).toArray) ∧ Below w.heap.size w w' := by
  have he : endJ j now how = { j with state := how, fin := now } := by unfold endJ; rw [hs]; rfl
  rw [he]
  clear he
  have HSET := Lib.hid (show (((jobC j).toArray).setIfInBounds 8 (.int .i64 how)).setIfInBounds 16 (.int .i64 now) = (jobC ({ j with state := how, fin := now })).toArray from rfl)
  have HLEN' := Lib.hid (jobC_len ({ j with state := how, fin := now }))
  have HONE' := Lib.hid (jobC_one ({ j with state := how, fin := now }))
  have HLEN := Lib.hid (jobC_len j)
  have k8 : (jobC j).toArray[8]? = some (.int .i64 j.state) := rfl
  have k16 : (jobC j).toArray[16]? = some (.int .i64 j.fin) := rfl
  generalize hl' : jobC ({ j with state := how, fin := now }) = l' at *
  clear hl'
  generalize hl : jobC j = l at *
  clear hl
  go_enter Tryd.func37, Tryd.ntmps37
  go_upto_region 1 with fail
  generalize hU : (w.alloc (.cells l.toArray 26)).alloc (.cells #[.int .i64 0, .int .i64 0, .int .i64 0, .int .i64 0, .int .i64 0, .int .i64 0, .int .i64 0, .bool false, .int .i64 0, .int .i64 0, .int .i64 0, .int .i64 0, .int .i64 0, .int .u64 0, .int .u64 0, .int .i64 0, .int .i64 0] 26) = U
  have hC : U.heap[w.heap.size]? = some (.cells l.toArray 26 (0, 0)) := by rw [← hU]; exact ((below_alloc (Below.refl _ _) _).block _ (by simp)).trans (World.alloc_heap_new w _)
  have hZ : U.heap[w.heap.size + 1]? = some (.cells #[.int .i64 0, .int .i64 0, .int .i64 0, .int .i64 0, .int .i64 0, .int .i64 0, .int .i64 0, .bool false, .int .i64 0, .int .i64 0, .int .i64 0, .int .i64 0, .int .i64 0, .int .u64 0, .int .u64 0, .int .i64 0, .int .i64 0] 26 (0, 0)) := by
    rw [← hU]
    have := World.alloc_heap_new (w.alloc (.cells l.toArray 26)) (.cells #[.int .i64 0, .int .i64 0, .int .i64 0, .int .i64 0, .int .i64 0, .int .i64 0, .int .i64 0, .bool false, .int .i64 0, .int .i64 0, .int .i64 0, .int .i64 0, .int .i64 0, .int .u64 0, .int .u64 0, .int .i64 0, .int .i64 0] 26)
    rwa [show (w.alloc (.cells l.toArray 26)).heap.size = w.heap.size + 1 by simp] at this
  have HB := Lib.hid (show Below w.heap.size w U by rw [← hU]; exact (by repeat (first | exact Below.refl _ _ | assumption | refine below_drewN ?_ _ | refine Below.drew ?_ | refine below_alloc ?_ _ | refine Below.alloc ?_ (by first | omega | (simp; done) | (simp; omega)) _ | refine Below.setCell ?_ (Below.size (by assumption)) _ | refine Below.setCell ?_ (by first | omega | (simp; done) | (simp; omega)) _ | (refine Below.trans ?_ (Below.mono (by assumption) (by first | omega | (simp; done) | (simp; omega)))) | refine below_next ?_ (by assumption))))
  have HS := Lib.hid (show U.heap.size = w.heap.size + 2 by rw [← hU]; simp)
  clear hU
  have HC := Lib.hid hC
  have HZ := Lib.hid hZ
  clear hC hZ
  have HK8 := Lib.hid k8
  have HK16 := Lib.hid k16
  clear k8 k16
  have c8 := cell_of_block (o := 8) HC.out HK8.out
  have c16 := cell_of_block (o := 16) HC.out HK16.out
  have f8 := free_of_block 8 HC.out
  have f16 := free_of_block 16 HC.out
  rw [hs] at c8
  clear hs
  go_upto_region 6 with fail
  have hW := ((wrote_refl HC.out).set 8 (.int .i64 how)).set 16 (.int .i64 now)
  rw [HSET.out] at hW
  have HV := Lib.hid hW.there
  have HZV := Lib.hid ((hW.rest (w.heap.size + 1) (by omega)).trans HZ.out)
  have HBV := Lib.hid (hW.below HB.out (Nat.le_refl _))
  clear hW c8 c16 f8 f16
  generalize ((U).setCell ⟨w.heap.size, 8, none⟩ (.int .i64 how)).setCell ⟨w.heap.size, 16, none⟩ (.int .i64 now) = V at *
  refine wp_region_lit ?_
  refine wpList_load_all rfl 26 _ rfl (w.heap.size) l' _ (by go_simp) HV.out Tryd.underlying26 rfl (by rw [HLEN'.out]; kernel_rfl) ?_
  refine wpList_store_all rfl 26 _ _ rfl (w.heap.size + 1) (T := 26) l' (by go_simp) (by go_simp) HZV.out (by rw [HLEN'.out]; rfl) (by rw [HLEN'.out]; kernel_rfl) HONE'.out ?_
  intro w9 hw9
  have HW9 := Lib.hid hw9.there
  have HB9 := Lib.hid (hw9.below HBV.out (by omega))
  clear hw9
  go_wp2_with fail
  exact bodyPost_ret (results_all l' _ Tryd.results37 (by go_simp) HW9.out Tryd.underlying26 rfl (by rw [HLEN'.out]; kernel_rfl)) rfl ⟨rfl, HB9.out⟩
set_option maxRecDepth 100000 in
set_option maxHeartbeats 4000000 in
theorem end_over (j : JobV) (now how : Int) (h0 : (j.state == 0) = false) (h1 : (j.state == 1) = false) (w : World) : Calls Tryd.prog 37 #[.agg (jobC j).toArray, .int .i64 now, .int .i64 how] w fun e w' => e = .returned (.agg (jobC (endJ j now how)).toArray) ∧ Below w.heap.size w w' := by
  have he : endJ j now how = j := by unfold endJ; rw [h0, h1]; rfl
  rw [he]
  clear he
  have HSET := Lib.hid (show (jobC j).toArray = (jobC (j)).toArray from rfl)
  have HLEN' := Lib.hid (jobC_len (j))
  have HONE' := Lib.hid (jobC_one (j))
  have HLEN := Lib.hid (jobC_len j)
  have k8 : (jobC j).toArray[8]? = some (.int .i64 j.state) := rfl
  generalize hl : jobC j = l at *
  clear hl
  go_enter Tryd.func37, Tryd.ntmps37
  go_upto_region 1 with fail
  generalize hU : (w.alloc (.cells l.toArray 26)).alloc (.cells #[.int .i64 0, .int .i64 0, .int .i64 0, .int .i64 0, .int .i64 0, .int .i64 0, .int .i64 0, .bool false, .int .i64 0, .int .i64 0, .int .i64 0, .int .i64 0, .int .i64 0, .int .u64 0, .int .u64 0, .int .i64 0, .int .i64 0] 26) = U
  have hC : U.heap[w.heap.size]? = some (.cells l.toArray 26 (0, 0)) := by rw [← hU]; exact ((below_alloc (Below.refl _ _) _).block _ (by simp)).trans (World.alloc_heap_new w _)
  have hZ : U.heap[w.heap.size + 1]? = some (.cells #[.int .i64 0, .int .i64 0, .int .i64 0, .int .i64 0, .int .i64 0, .int .i64 0, .int .i64 0, .bool false, .int .i64 0, .int .i64 0, .int .i64 0, .int .i64 0, .int .i64 0, .int .u64 0, .int .u64 0, .int .i64 0, .int .i64 0] 26 (0, 0)) := by
    rw [← hU]
    have := World.alloc_heap_new (w.alloc (.cells l.toArray 26)) (.cells #[.int .i64 0, .int .i64 0, .int .i64 0, .int .i64 0, .int .i64 0, .int .i64 0, .int .i64 0, .bool false, .int .i64 0, .int .i64 0, .int .i64 0, .int .i64 0, .int .i64 0, .int .u64 0, .int .u64 0, .int .i64 0, .int .i64 0] 26)
    rwa [show (w.alloc (.cells l.toArray 26)).heap.size = w.heap.size + 1 by simp] at this
  have HB := Lib.hid (show Below w.heap.size w U by rw [← hU]; exact (by repeat (first | exact Below.refl _ _ | assumption | refine below_drewN ?_ _ | refine Below.drew ?_ | refine below_alloc ?_ _ | refine Below.alloc ?_ (by first | omega | (simp; done) | (simp; omega)) _ | refine Below.setCell ?_ (Below.size (by assumption)) _ | refine Below.setCell ?_ (by first | omega | (simp; done) | (simp; omega)) _ | (refine Below.trans ?_ (Below.mono (by assumption) (by first | omega | (simp; done) | (simp; omega)))) | refine below_next ?_ (by assumption))))
  have HS := Lib.hid (show U.heap.size = w.heap.size + 2 by rw [← hU]; simp)
  clear hU
  have HC := Lib.hid hC
  have HZ := Lib.hid hZ
  clear hC hZ
  have HK8 := Lib.hid k8
  clear k8
  have HC2 := Lib.hid HC.out
  have c8 := cell_of_block (o := 8) HC.out HK8.out
  go_upto_region 6 with fail
  have HZV := Lib.hid HZ.out
  have HBV := Lib.hid HB.out
  clear c8
  refine wp_region_lit ?_
  refine wpList_load_all rfl 26 _ rfl (w.heap.size) l _ (by go_simp) HC.out Tryd.underlying26 rfl (by rw [HLEN.out]; kernel_rfl) ?_
  refine wpList_store_all rfl 26 _ _ rfl (w.heap.size + 1) (T := 26) l (by go_simp) (by go_simp) HZV.out (by rw [HLEN.out]; rfl) (by rw [HLEN.out]; kernel_rfl) HONE'.out ?_
  intro w9 hw9
  have HW9 := Lib.hid hw9.there
  have HB9 := Lib.hid (hw9.below HBV.out (by omega))
  clear hw9
  go_wp2_with fail
  exact bodyPost_ret (results_all l _ Tryd.results37 (by go_simp) HW9.out Tryd.underlying26 rfl (by rw [HLEN.out]; kernel_rfl)) rfl ⟨rfl, HB9.out⟩
theorem end_any (j : JobV) (now how : Int) (w : World) : Calls Tryd.prog 37 #[.agg (jobC j).toArray, .int .i64 now, .int .i64 how] w fun e w' => e = .returned (.agg (jobC (endJ j now how)).toArray) ∧ Below w.heap.size w w' := by
  by_cases h0 : j.state = 0
  · exact end_wait j now how h0 w
  · by_cases h1 : j.state = 1
    · exact end_run j now how h1 w
    · exact end_over j now how (by rw [beq_eq_false_iff_ne]; exact h0) (by rw [beq_eq_false_iff_ne]; exact h1) w
end Go.Proofs.YtgeldpfojmkdbaaDoor
namespace Go.Proofs.YtgeldpfojmkdbaaDoor
set_option linter.unusedVariables false
open Go.ChangeShapes Go.WideShapes Go.ChangeAt Go.RowKit
attribute [local go_sem ↓] Go.wp_at_zero Go.wp_at_succ comesTo_value_eq comesTo_skip_eq comesTo_enter_eq Rl.comesToR_value_eq Rl.comesToR_skip_eq Rl.comesToR_enter_eq

theorem right_tries {j : JobV} (h : rightB j = true) : 0 ≤ j.tries ∧ j.tries ≤ 9 := by
  unfold rightB moreB at h
  simp only [Bool.and_eq_true] at h
  exact inI_yes h.1.1.2.2
set_option maxRecDepth 100000 in
set_option maxHeartbeats 4000000 in
theorem begin_any (j : JobV) (now : Int) (n : NSet) (w : World) : Calls Tryd.prog 12 #[.agg (jobC j).toArray, .int .i64 now, .int .u64 (nv n)] w fun e w' => e = .returned (.tuple #[.agg (jobC (beginJ j now n).1).toArray, .int .i64 (beginJ j now n).2]) ∧ Below w.heap.size w w' := by
  have KR := Lib.hid (fun b (h : rightB j = b) W => right_is h W)
  have KF := Lib.hid (fun b (h : fitsB j n = b) W => h ▸ fits_any j n W)
  have HSET := Lib.hid (show (((((jobC j).toArray).setIfInBounds 8 (.int .i64 1)).setIfInBounds 14 (.int .u64 (nv n))).setIfInBounds 15 (.int .i64 now)).setIfInBounds 12 (.int .i64 (j.tries + 1)) = (jobC ({ j with state := 1, nodes := n, start := now, tries := j.tries + 1 })).toArray from rfl)
  have HLEN' := Lib.hid (jobC_len ({ j with state := 1, nodes := n, start := now, tries := j.tries + 1 }))
  have HONE' := Lib.hid (jobC_one ({ j with state := 1, nodes := n, start := now, tries := j.tries + 1 }))
  have HNE := Lib.hid (show ∀ x, beginJ j now n = x → beginJ j now n = x from fun _ h => h)
  generalize hbj : beginJ j now n = bj at HNE ⊢
  have HBJ := Lib.hid hbj
  clear hbj HNE
  have HLEN := Lib.hid (jobC_len j)
  have k7 : (jobC j).toArray[7]? = some (.bool j.hold) := rfl
  have k8 : (jobC j).toArray[8]? = some (.int .i64 j.state) := rfl
  have k12 : (jobC j).toArray[12]? = some (.int .i64 j.tries) := rfl
  have k13 : (jobC j).toArray[13]? = some (.int .u64 (nv j.black)) := rfl
  have k14 : (jobC j).toArray[14]? = some (.int .u64 (nv j.nodes)) := rfl
  have k15 : (jobC j).toArray[15]? = some (.int .i64 j.start) := rfl
  generalize hl' : jobC ({ j with state := 1, nodes := n, start := now, tries := j.tries + 1 }) = l' at *
  have HL' := Lib.hid hl'
  clear hl'
  generalize hl : jobC j = l at *
  clear hl
  go_enter Tryd.func12, Tryd.ntmps12
  go_upto_region 1 with fail
  generalize hU : (w.alloc (.cells l.toArray 26)).alloc (.cells #[.int .i64 0, .int .i64 0, .int .i64 0, .int .i64 0, .int .i64 0, .int .i64 0, .int .i64 0, .bool false, .int .i64 0, .int .i64 0, .int .i64 0, .int .i64 0, .int .i64 0, .int .u64 0, .int .u64 0, .int .i64 0, .int .i64 0] 26) = U
  have hC : U.heap[w.heap.size]? = some (.cells l.toArray 26 (0, 0)) := by rw [← hU]; exact ((below_alloc (Below.refl _ _) _).block _ (by simp)).trans (World.alloc_heap_new w _)
  have hZ : U.heap[w.heap.size + 1]? = some (.cells #[.int .i64 0, .int .i64 0, .int .i64 0, .int .i64 0, .int .i64 0, .int .i64 0, .int .i64 0, .bool false, .int .i64 0, .int .i64 0, .int .i64 0, .int .i64 0, .int .i64 0, .int .u64 0, .int .u64 0, .int .i64 0, .int .i64 0] 26 (0, 0)) := by
    rw [← hU]
    have := World.alloc_heap_new (w.alloc (.cells l.toArray 26)) (.cells #[.int .i64 0, .int .i64 0, .int .i64 0, .int .i64 0, .int .i64 0, .int .i64 0, .int .i64 0, .bool false, .int .i64 0, .int .i64 0, .int .i64 0, .int .i64 0, .int .i64 0, .int .u64 0, .int .u64 0, .int .i64 0, .int .i64 0] 26)
    rwa [show (w.alloc (.cells l.toArray 26)).heap.size = w.heap.size + 1 by simp] at this
  have HB := Lib.hid (show Below w.heap.size w U by rw [← hU]; exact (by repeat (first | exact Below.refl _ _ | assumption | refine below_drewN ?_ _ | refine Below.drew ?_ | refine below_alloc ?_ _ | refine Below.alloc ?_ (by first | omega | (simp; done) | (simp; omega)) _ | refine Below.setCell ?_ (Below.size (by assumption)) _ | refine Below.setCell ?_ (by first | omega | (simp; done) | (simp; omega)) _ | (refine Below.trans ?_ (Below.mono (by assumption) (by first | omega | (simp; done) | (simp; omega)))) | refine below_next ?_ (by assumption))))
  have HS := Lib.hid (show U.heap.size = w.heap.size + 2 by rw [← hU]; simp)
  clear hU
  have HC := Lib.hid hC
  have HZ := Lib.hid hZ
  clear hC hZ
  have HK7 := Lib.hid k7
  have HK8 := Lib.hid k8
  have HK12 := Lib.hid k12
  have HK13 := Lib.hid k13
  have HK14 := Lib.hid k14
  have HK15 := Lib.hid k15
  clear k7 k8 k12 k13 k14 k15
  cases r : rightB j with
  | false =>
    have E := Lib.hid (show bj = (job0, 11) by rw [← HBJ.out]; unfold beginJ; rw [r]; rfl)
    go_upto_region 1 with fail
    refine wp_region_lit ?_
    refine wpList_load_all rfl 26 _ rfl (w.heap.size) l _ (by go_simp) HC.out Tryd.underlying26 rfl (by rw [HLEN.out]; kernel_rfl) ?_
    refine wpList_enter rfl (by go_simp) (KR.out false r U) ?_
    rintro e w2 ⟨rfl, hb2⟩
    refine ⟨_, rfl, ?_⟩
    have hle := hb2.size
    have HC2 := Lib.hid ((hb2.block _ (Array.getElem?_eq_some_iff.1 HC.out).1).trans HC.out)
    have HZ2 := Lib.hid ((hb2.block _ (Array.getElem?_eq_some_iff.1 HZ.out).1).trans HZ.out)
    have HB2 := Lib.hid (below_next HB.out hb2)
    clear hb2 hle
    go_upto_region 2 with fail
    refine wp_region_lit ?_
    refine wpList_yield (w' := w2) (v := .agg (jobC job0).toArray) rfl (by go_simp; rfl) ?_
    refine wpList_store_all rfl 26 _ _ rfl (w.heap.size + 1) (T := 26) (jobC job0) (by go_simp) (by go_simp) HZ2.out rfl (by kernel_rfl) rfl ?_
    intro w9 hw9
    have HW9 := Lib.hid hw9.there
    have HB9 := Lib.hid (hw9.below HB2.out (by omega))
    clear hw9
    go_wp2_with fail
    exact bodyPost_ret (results_all2 (jobC job0) _ Tryd.results12 (by go_simp) HW9.out Tryd.underlying26 rfl (by kernel_rfl)) rfl ⟨by rw [E.out]; rfl, HB9.out⟩
  | true =>
    obtain ⟨hy1, hy2⟩ := right_tries r
    go_upto_region 1 with fail
    refine wp_region_lit ?_
    refine wpList_load_all rfl 26 _ rfl (w.heap.size) l _ (by go_simp) HC.out Tryd.underlying26 rfl (by rw [HLEN.out]; kernel_rfl) ?_
    refine wpList_enter rfl (by go_simp) (KR.out true r U) ?_
    rintro e w2 ⟨rfl, hb2⟩
    refine ⟨_, rfl, ?_⟩
    have hle := hb2.size
    have HC2 := Lib.hid ((hb2.block _ (Array.getElem?_eq_some_iff.1 HC.out).1).trans HC.out)
    have HZ2 := Lib.hid ((hb2.block _ (Array.getElem?_eq_some_iff.1 HZ.out).1).trans HZ.out)
    have HB2 := Lib.hid (below_next HB.out hb2)
    clear hb2 hle
    have c7 := cell_of_block (o := 7) HC2.out HK7.out
    have c8 := cell_of_block (o := 8) HC2.out HK8.out
    cases hs : (j.state == 0) with
    | false =>
      have hs' : (j.state != 0) = true := by unfold bne; rw [hs]; rfl
      have E := Lib.hid (show bj = (job0, 16) by rw [← HBJ.out]; unfold beginJ; rw [r, hs]; rfl)
      go_upto_region 4 with fail
      refine wp_region_lit ?_
      refine wpList_yield (w' := w2) (v := .agg (jobC job0).toArray) rfl (by go_simp; rfl) ?_
      refine wpList_store_all rfl 26 _ _ rfl (w.heap.size + 1) (T := 26) (jobC job0) (by go_simp) (by go_simp) HZ2.out rfl (by kernel_rfl) rfl ?_
      intro w9 hw9
      have HW9 := Lib.hid hw9.there
      have HB9 := Lib.hid (hw9.below HB2.out (by omega))
      clear hw9
      go_wp2_with fail
      exact bodyPost_ret (results_all2 (jobC job0) _ Tryd.results12 (by go_simp) HW9.out Tryd.underlying26 rfl (by kernel_rfl)) rfl ⟨by rw [E.out]; rfl, HB9.out⟩
    | true =>
      have hs' : (j.state != 0) = false := by unfold bne; rw [hs]; rfl
      cases hh : j.hold with
      | true =>
        rw [hh] at c7
        have E := Lib.hid (show bj = (job0, 16) by rw [← HBJ.out]; unfold beginJ; rw [r, hs, hh]; rfl)
        go_upto_region 4 with fail
        refine wp_region_lit ?_
        refine wpList_yield (w' := w2) (v := .agg (jobC job0).toArray) rfl (by go_simp; rfl) ?_
        refine wpList_store_all rfl 26 _ _ rfl (w.heap.size + 1) (T := 26) (jobC job0) (by go_simp) (by go_simp) HZ2.out rfl (by kernel_rfl) rfl ?_
        intro w9 hw9
        have HW9 := Lib.hid hw9.there
        have HB9 := Lib.hid (hw9.below HB2.out (by omega))
        clear hw9
        go_wp2_with fail
        exact bodyPost_ret (results_all2 (jobC job0) _ Tryd.results12 (by go_simp) HW9.out Tryd.underlying26 rfl (by kernel_rfl)) rfl ⟨by rw [E.out]; rfl, HB9.out⟩
      | false =>
        rw [hh] at c7
        cases ht : timeB now with
        | false =>
          have E := Lib.hid (show bj = (job0, 18) by rw [← HBJ.out]; unfold beginJ; rw [r, hs, hh, ht]; rfl)
          go_upto_region 6 with (go_at_call 33; ((with_reducible refine (istime_is (by assumption) _).mono ?_)); rintro e w' ⟨rfl, rfl⟩)
          refine wp_region_lit ?_
          refine wpList_yield (w' := w2) (v := .agg (jobC job0).toArray) rfl (by go_simp; rfl) ?_
          refine wpList_store_all rfl 26 _ _ rfl (w.heap.size + 1) (T := 26) (jobC job0) (by go_simp) (by go_simp) HZ2.out rfl (by kernel_rfl) rfl ?_
          intro w9 hw9
          have HW9 := Lib.hid hw9.there
          have HB9 := Lib.hid (hw9.below HB2.out (by omega))
          clear hw9
          go_wp2_with fail
          exact bodyPost_ret (results_all2 (jobC job0) _ Tryd.results12 (by go_simp) HW9.out Tryd.underlying26 rfl (by kernel_rfl)) rfl ⟨by rw [E.out]; rfl, HB9.out⟩
        | true =>
          cases hn : (now == 1099511627776) with
          | true =>
            have E := Lib.hid (show bj = (job0, 18) by rw [← HBJ.out]; unfold beginJ; rw [r, hs, hh, ht, hn]; rfl)
            go_upto_region 6 with (go_at_call 33; ((with_reducible refine (istime_is (by assumption) _).mono ?_)); rintro e w' ⟨rfl, rfl⟩)
            refine wp_region_lit ?_
            refine wpList_yield (w' := w2) (v := .agg (jobC job0).toArray) rfl (by go_simp; rfl) ?_
            refine wpList_store_all rfl 26 _ _ rfl (w.heap.size + 1) (T := 26) (jobC job0) (by go_simp) (by go_simp) HZ2.out rfl (by kernel_rfl) rfl ?_
            intro w9 hw9
            have HW9 := Lib.hid hw9.there
            have HB9 := Lib.hid (hw9.below HB2.out (by omega))
            clear hw9
            go_wp2_with fail
            exact bodyPost_ret (results_all2 (jobC job0) _ Tryd.results12 (by go_simp) HW9.out Tryd.underlying26 rfl (by kernel_rfl)) rfl ⟨by rw [E.out]; rfl, HB9.out⟩
          | false =>
            have hff : fitsB j n = true ∨ fitsB j n = false := by cases fitsB j n; exact .inr rfl; exact .inl rfl
            rcases hff with hf | hf
            · go_upto_region 7 with (go_at_call 33; ((with_reducible refine (istime_is (by assumption) _).mono ?_)); rintro e w' ⟨rfl, rfl⟩)
              refine wp_region_lit ?_
              refine wpList_load_all rfl 26 _ rfl (w.heap.size) l _ (by go_simp) HC2.out Tryd.underlying26 rfl (by rw [HLEN.out]; kernel_rfl) ?_
              refine wpList_yield (w' := w2) (v := .int .u64 (nv n)) rfl (by first | (go_simp; done) | (go_simp; rfl)) ?_
              refine wpList_enter rfl (by go_simp) (KF.out true hf w2) ?_
              rintro e w4 ⟨rfl, hb2⟩
              refine ⟨_, rfl, ?_⟩
              have hle := hb2.size
              have HC4 := Lib.hid ((hb2.block _ (Array.getElem?_eq_some_iff.1 HC2.out).1).trans HC2.out)
              have HZ4 := Lib.hid ((hb2.block _ (Array.getElem?_eq_some_iff.1 HZ2.out).1).trans HZ2.out)
              have HB4 := Lib.hid (below_next HB2.out hb2)
              clear hb2 hle
              clear c7 c8
              have c8 := cell_of_block (o := 8) HC4.out HK8.out
              have c12 := cell_of_block (o := 12) HC4.out HK12.out
              have c14 := cell_of_block (o := 14) HC4.out HK14.out
              have c15 := cell_of_block (o := 15) HC4.out HK15.out
              have f8 := free_of_block 8 HC4.out
              have f12 := free_of_block 12 HC4.out
              have f14 := free_of_block 14 HC4.out
              have f15 := free_of_block 15 HC4.out
              cases h9 : (j.tries == 9) with
              | true =>
                have E := Lib.hid (show bj = (job0, 15) by rw [← HBJ.out]; unfold beginJ; rw [r, hs, hh, ht, hn, hf, h9]; rfl)
                go_upto_region 10 with fail
                refine wp_region_lit ?_
                refine wpList_yield (w' := w4) (v := .agg (jobC job0).toArray) rfl (by go_simp; rfl) ?_
                refine wpList_store_all rfl 26 _ _ rfl (w.heap.size + 1) (T := 26) (jobC job0) (by go_simp) (by go_simp) HZ4.out rfl (by kernel_rfl) rfl ?_
                intro w9 hw9
                have HW9 := Lib.hid hw9.there
                have HB9 := Lib.hid (hw9.below HB4.out (by omega))
                clear hw9
                go_wp2_with fail
                exact bodyPost_ret (results_all2 (jobC job0) _ Tryd.results12 (by go_simp) HW9.out Tryd.underlying26 rfl (by kernel_rfl)) rfl ⟨by rw [E.out]; rfl, HB9.out⟩
              | false =>
                have E := Lib.hid (show bj = ({ j with state := 1, nodes := n, start := now, tries := j.tries + 1 }, 0) by rw [← HBJ.out]; unfold beginJ; rw [r, hs, hh, ht, hn, hf, h9]; rfl)
                go_upto_region 13 with fail
                have hW := ((((wrote_refl HC4.out).set 8 (.int .i64 1)).set 14 (.int .u64 (nv n))).set 15 (.int .i64 now)).set 12 (.int .i64 (j.tries + 1))
                rw [HSET.out] at hW
                have HV := Lib.hid hW.there
                have HZV := Lib.hid ((hW.rest (w.heap.size + 1) (by omega)).trans HZ4.out)
                have HBV := Lib.hid (hW.below HB4.out (Nat.le_refl _))
                clear hW c8 c12 c14 c15 f8 f12 f14 f15
                generalize ((((w4).setCell ⟨w.heap.size, 8, none⟩ (.int .i64 1)).setCell ⟨w.heap.size, 14, none⟩ (.int .u64 (nv n))).setCell ⟨w.heap.size, 15, none⟩ (.int .i64 now)).setCell ⟨w.heap.size, 12, none⟩ (.int .i64 (j.tries + 1)) = V at *
                refine wp_region_lit ?_
                refine wpList_load_all rfl 26 _ rfl (w.heap.size) l' _ (by go_simp) HV.out Tryd.underlying26 rfl (by rw [HLEN'.out]; kernel_rfl) ?_
                refine wpList_store_all rfl 26 _ _ rfl (w.heap.size + 1) (T := 26) l' (by go_simp) (by go_simp) HZV.out (by rw [HLEN'.out]; rfl) (by rw [HLEN'.out]; kernel_rfl) HONE'.out ?_
                intro w9 hw9
                have HW9 := Lib.hid hw9.there
                have HB9 := Lib.hid (hw9.below HBV.out (by omega))
                clear hw9
                go_wp2_with fail
                exact bodyPost_ret (results_all2 l' _ Tryd.results12 (by go_simp) HW9.out Tryd.underlying26 rfl (by rw [HLEN'.out]; kernel_rfl)) rfl ⟨by rw [E.out, ← HL'.out]; first | done | rfl, HB9.out⟩
            · go_upto_region 7 with (go_at_call 33; ((with_reducible refine (istime_is (by assumption) _).mono ?_)); rintro e w' ⟨rfl, rfl⟩)
              refine wp_region_lit ?_
              refine wpList_load_all rfl 26 _ rfl (w.heap.size) l _ (by go_simp) HC2.out Tryd.underlying26 rfl (by rw [HLEN.out]; kernel_rfl) ?_
              refine wpList_yield (w' := w2) (v := .int .u64 (nv n)) rfl (by first | (go_simp; done) | (go_simp; rfl)) ?_
              refine wpList_enter rfl (by go_simp) (KF.out false hf w2) ?_
              rintro e w4 ⟨rfl, hb2⟩
              refine ⟨_, rfl, ?_⟩
              have hle := hb2.size
              have HC4 := Lib.hid ((hb2.block _ (Array.getElem?_eq_some_iff.1 HC2.out).1).trans HC2.out)
              have HZ4 := Lib.hid ((hb2.block _ (Array.getElem?_eq_some_iff.1 HZ2.out).1).trans HZ2.out)
              have HB4 := Lib.hid (below_next HB2.out hb2)
              clear hb2 hle
              clear c7 c8
              have E := Lib.hid (show bj = (job0, 2) by rw [← HBJ.out]; unfold beginJ; rw [r, hs, hh, ht, hn, hf]; rfl)
              go_upto_region 8 with fail
              refine wp_region_lit ?_
              refine wpList_yield (w' := w4) (v := .agg (jobC job0).toArray) rfl (by go_simp; rfl) ?_
              refine wpList_store_all rfl 26 _ _ rfl (w.heap.size + 1) (T := 26) (jobC job0) (by go_simp) (by go_simp) HZ4.out rfl (by kernel_rfl) rfl ?_
              intro w9 hw9
              have HW9 := Lib.hid hw9.there
              have HB9 := Lib.hid (hw9.below HB4.out (by omega))
              clear hw9
              go_wp2_with fail
              exact bodyPost_ret (results_all2 (jobC job0) _ Tryd.results12 (by go_simp) HW9.out Tryd.underlying26 rfl (by kernel_rfl)) rfl ⟨by rw [E.out]; rfl, HB9.out⟩
end Go.Proofs.YtgeldpfojmkdbaaDoor
