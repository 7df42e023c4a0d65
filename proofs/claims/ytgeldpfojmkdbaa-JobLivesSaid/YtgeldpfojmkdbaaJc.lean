/- Whether a job may be in its state (layer 15): rightState walked at any job. No condition. -/
import Derived.Test.YtgeldpfojmkdbaaJb
import Derived.Test.YtgeldpfojmkdbaaMidW
namespace Go.Proofs.Ytgeldpfojmkdbaa
set_option linter.unusedVariables false
open Go.ChangeShapes Go.WideShapes Go.ChangeAt Go.RowKit
attribute [local go_sem ↓] Go.wp_at_zero Go.wp_at_succ comesTo_value_eq comesTo_skip_eq comesTo_enter_eq Rl.comesToR_value_eq Rl.comesToR_skip_eq Rl.comesToR_enter_eq

set_option maxRecDepth 100000 in
set_option maxHeartbeats 4000000 in
theorem state_any (j : JobV) (w : World) : Calls Try.prog 17 #[.agg (jobC j).toArray] w fun e w' => e = .returned (.bool (stateB j)) ∧ Below w.heap.size w w' := by
  have KF := Lib.hid (fun b (h : fitsB j j.nodes = b) W => h ▸ fits_any j j.nodes W)
  have hS : j.state = 0 ∨ j.state = 1 ∨ (inI j.state 2 5 = true ∧ (j.state = 2 ∨ j.state = 3 ∨ j.state = 4 ∨ j.state = 5)) ∨ (inI j.state 2 5 = false ∧ (j.state == 0) = false ∧ (j.state == 1) = false ∧ (j.state == 2) = false ∧ (j.state == 3) = false ∧ (j.state == 4) = false ∧ (j.state == 5) = false) := by
    cases h : inI j.state 2 5 with
    | true => have := inI_yes h; by_cases h0 : j.state = 0; exact .inl h0; by_cases h1 : j.state = 1; exact .inr (.inl h1); exact .inr (.inr (.inl ⟨rfl, by omega⟩))
    | false =>
      have := inI_no h
      by_cases h0 : j.state = 0; exact .inl h0; by_cases h1 : j.state = 1; exact .inr (.inl h1)
      refine .inr (.inr (.inr ⟨rfl, ?_, ?_, ?_, ?_, ?_, ?_⟩)) <;> (rw [beq_eq_false_iff_ne]; omega)
  have hmx : Try.prog.follows .mixedOrders = true := by kernel_rfl
  have HLEN := Lib.hid (jobC_len j)
  have k3 : (jobC j).toArray[3]? = some (.int .i64 j.width) := rfl
  have k7 : (jobC j).toArray[7]? = some (.bool j.hold) := rfl
  have k8 : (jobC j).toArray[8]? = some (.int .i64 j.state) := rfl
  have k12 : (jobC j).toArray[12]? = some (.int .i64 j.tries) := rfl
  have k14 : (jobC j).toArray[14]? = some (.int .u64 (nv j.nodes)) := rfl
  have k15 : (jobC j).toArray[15]? = some (.int .i64 j.start) := rfl
  have k16 : (jobC j).toArray[16]? = some (.int .i64 j.fin) := rfl
  generalize hl : jobC j = l at *
  clear hl
  go_enter Try.func17, Try.ntmps17
  go_upto_region 1 with fail
  have hC := World.alloc_heap_new w (.cells l.toArray 26)
  have HB := Lib.hid (below_alloc (Below.refl _ w) (.cells l.toArray 26))
  have l0 : w.heap.size < (w.alloc (.cells l.toArray 26)).heap.size := by simp
  generalize w.alloc (.cells l.toArray 26) = U at *
  have c3 := cell_of_block (o := 3) hC k3
  have c7 := cell_of_block (o := 7) hC k7
  have c8 := cell_of_block (o := 8) hC k8
  have c12 := cell_of_block (o := 12) hC k12
  have c14 := cell_of_block (o := 14) hC k14
  have c15 := cell_of_block (o := 15) hC k15
  have c16 := cell_of_block (o := 16) hC k16
  have HC := Lib.hid hC
  have L0 := Lib.hid l0
  have HK3 := Lib.hid k3
  have HK7 := Lib.hid k7
  have HK8 := Lib.hid k8
  have HK12 := Lib.hid k12
  have HK14 := Lib.hid k14
  have HK15 := Lib.hid k15
  have HK16 := Lib.hid k16
  clear hC k3 k7 k8 k12 k14 k15 k16
  rcases hS with hs | hs | ⟨hi, hs⟩ | ⟨hi, h0, h1, h2, h3, h4, h5⟩
  · rw [hs] at c8
    have E0 := Lib.hid (show stateB j = ((nv j.nodes == 0) && (j.start == 0) && (j.fin == 0)) by unfold stateB; rw [hs]; rfl)
    clear hs
    cases ha : (nv j.nodes == 0) with
    | false =>
      have E := Lib.hid (show stateB j = false by rw [E0.out, ha]; simp)
      go_wp2
      go_ret
      exact ⟨by rw [E.out]; rfl, HB.out⟩
    | true =>
      cases hb : (j.start == 0) with
      | false =>
        have E := Lib.hid (show stateB j = false by rw [E0.out, hb]; simp)
        go_wp2
        go_ret
        exact ⟨by rw [E.out]; rfl, HB.out⟩
      | true =>
        cases hc : (j.fin == 0) with
        | false =>
          have E := Lib.hid (show stateB j = false by rw [E0.out, hc]; simp)
          go_wp2
          go_ret
          exact ⟨by rw [E.out]; rfl, HB.out⟩
        | true =>
          have E := Lib.hid (show stateB j = true by rw [E0.out, ha, hb, hc]; rfl)
          go_wp2
          go_ret
          exact ⟨by rw [E.out]; rfl, HB.out⟩
  · rw [hs] at c8
    have E0 := Lib.hid (show stateB j = (!j.hold && fitsB j j.nodes && decide (1 ≤ j.tries) && decide (j.start < 1099511627776) && (j.fin == 0)) by unfold stateB; rw [hs]; rfl)
    clear hs
    cases hh : j.hold with
    | true =>
      rw [hh] at c7
      have E := Lib.hid (show stateB j = false by rw [E0.out, hh]; rfl)
      go_wp2
      go_ret
      exact ⟨by rw [E.out]; rfl, HB.out⟩
    | false =>
      rw [hh] at c7
      have hf : fitsB j j.nodes = true ∨ fitsB j j.nodes = false := by cases fitsB j j.nodes; exact .inr rfl; exact .inl rfl
      go_upto_region 5 with fail
      refine wp_region_lit ?_
      refine wpList_yield (w' := U) (v := .pointer (some ⟨w.heap.size, 7, none⟩)) rfl (by first | (go_simp; done) | (go_simp; rfl)) ?_
      refine wpList_yield (w' := U) (v := .bool false) rfl (by first | (go_simp; done) | (go_simp; rfl)) ?_
      refine wpList_yield (w' := U) (v := .bool true) rfl (by first | (go_simp; done) | (go_simp; rfl)) ?_
      refine wpList_yield (w' := U) (v := .bool true) rfl (by first | (go_simp; done) | (go_simp; rfl)) ?_
      refine wpList_load_all_w (by first | (go_simp; done) | (go_simp; rfl)) 26 _ rfl w.heap.size l _ (by go_simp) HC.out Try.underlying26 rfl (by rw [HLEN.out]; kernel_rfl) ?_
      refine wpList_yield_w (w' := U) (v := .pointer (some ⟨w.heap.size, 14, none⟩)) (by first | (go_simp; done) | (go_simp; rfl)) (by first | (go_simp; done) | (go_simp; rfl)) ?_
      refine wpList_yield_w (w' := U) (v := .int .u64 (nv j.nodes)) (by first | (go_simp; done) | (go_simp; rfl)) (by first | (go_simp; done) | (go_simp; rfl)) ?_
      rcases hf with hf | hf
      · refine wpList_enter_w (by first | (go_simp; done) | (go_simp; rfl)) (by go_simp) (KF.out true hf U) ?_
        rintro e w2 ⟨rfl, hb2⟩
        refine ⟨_, rfl, ?_⟩
        have hc2 := (hb2.block w.heap.size L0.out).trans HC.out
        have HB2 := Lib.hid (below_next HB.out hb2)
        clear c3 c7 c8 c12 c14 c15 c16 hb2 l0
        have c12 := cell_of_block (o := 12) hc2 HK12.out
        have c15 := cell_of_block (o := 15) hc2 HK15.out
        have c16 := cell_of_block (o := 16) hc2 HK16.out
        clear hc2
        cases ha : decide (1 ≤ j.tries) with
        | false =>
          have E := Lib.hid (show stateB j = false by rw [E0.out, hh, hf, ha]; simp)
          go_wp2
          go_ret
          exact ⟨by rw [E.out]; rfl, HB2.out⟩
        | true =>
          cases hb : decide (j.start < 1099511627776) with
          | false =>
            have E := Lib.hid (show stateB j = false by rw [E0.out, hh, hf, hb]; simp)
            go_wp2
            go_ret
            exact ⟨by rw [E.out]; rfl, HB2.out⟩
          | true =>
            cases hc : (j.fin == 0) with
            | false =>
              have E := Lib.hid (show stateB j = false by rw [E0.out, hh, hf, hc]; simp)
              go_wp2
              go_ret
              exact ⟨by rw [E.out]; rfl, HB2.out⟩
            | true =>
              have E := Lib.hid (show stateB j = true by rw [E0.out, hh, hf, ha, hb, hc]; rfl)
              go_wp2
              go_ret
              exact ⟨by rw [E.out]; rfl, HB2.out⟩
      · refine wpList_enter_w (by first | (go_simp; done) | (go_simp; rfl)) (by go_simp) (KF.out false hf U) ?_
        rintro e w2 ⟨rfl, hb2⟩
        refine ⟨_, rfl, ?_⟩
        have hc2 := (hb2.block w.heap.size L0.out).trans HC.out
        have HB2 := Lib.hid (below_next HB.out hb2)
        clear c3 c7 c8 c12 c14 c15 c16 hb2 l0
        have c12 := cell_of_block (o := 12) hc2 HK12.out
        have c15 := cell_of_block (o := 15) hc2 HK15.out
        have c16 := cell_of_block (o := 16) hc2 HK16.out
        clear hc2
        have E := Lib.hid (show stateB j = false by rw [E0.out, hh, hf]; rfl)
        go_wp2
        go_ret
        exact ⟨by rw [E.out]; rfl, HB2.out⟩
  · have hs0 : (j.state == 0) = false := by rcases hs with h | h | h | h <;> (rw [h]; rfl)
    have hs1 : (j.state == 1) = false := by rcases hs with h | h | h | h <;> (rw [h]; rfl)
    have E0 := Lib.hid (show stateB j = (if j.tries == 0 then (nv j.nodes == 0) && decide (j.start ≤ j.fin) else ((card j.nodes : Int) == j.width) && decide (j.start ≤ j.fin)) by unfold stateB; rw [hs0, hs1, hi]; rfl)
    clear hs0 hs1 hi
    cases ht : (j.tries == 0) with
    | true =>
      cases ha : (nv j.nodes == 0) with
      | false =>
        have E := Lib.hid (show stateB j = false by rw [E0.out, ht, ha]; rfl)
        rcases hs with hs | hs | hs | hs <;> rw [hs] at c8
        all_goals clear hs
        all_goals go_wp2
        all_goals go_ret
        all_goals exact ⟨by rw [E.out]; rfl, HB.out⟩
      | true =>
        cases hb : decide (j.start ≤ j.fin) with
        | false =>
          have E := Lib.hid (show stateB j = false by rw [E0.out, ht, ha, hb]; rfl)
          rcases hs with hs | hs | hs | hs <;> rw [hs] at c8
          all_goals clear hs
          all_goals go_wp2
          all_goals go_ret
          all_goals exact ⟨by rw [E.out]; rfl, HB.out⟩
        | true =>
          have E := Lib.hid (show stateB j = true by rw [E0.out, ht, ha, hb]; rfl)
          rcases hs with hs | hs | hs | hs <;> rw [hs] at c8
          all_goals clear hs
          all_goals go_wp2
          all_goals go_ret
          all_goals exact ⟨by rw [E.out]; rfl, HB.out⟩
    | false =>
      have hm : (((card j.nodes : Nat) : Int) == j.width) = true ∨ (((card j.nodes : Nat) : Int) == j.width) = false := by cases (((card j.nodes : Nat) : Int) == j.width); exact .inr rfl; exact .inl rfl
      rcases hm with ha | ha
      · have E := Lib.hid (show stateB j = decide (j.start ≤ j.fin) by rw [E0.out, ht, ha]; rfl)
        rcases hs with hs | hs | hs | hs <;> rw [hs] at c8
        all_goals clear hs
        all_goals go_upto_region 12 with fail
        all_goals (
          refine Rl.wp_region_rel (fun a b => Below a.heap.size a b) U (fun a b c h h' => below_next h h') (fun a => Below.refl _ _) hmx (by kernel_rfl) (Below.refl _ _).drew ?_
          (refine Rl.textR_run ?_ (fun ρ => ?_) (fun ρ W hS hd => ?_) ?_; rotate_left; (focus go_simp); (focus (obtain ⟨hc, hf⟩ := bcell hS; go_simp; first | exact ⟨rfl, Below.refl _ _⟩ | (refine ⟨?_, Below.refl _ _⟩; rfl))); (try go_simp))
          (refine Rl.textR_run ?_ (fun ρ => ?_) (fun ρ W hS hd => ?_) ?_; rotate_left; (focus go_simp); (focus (obtain ⟨hc, hf⟩ := bcell hS; go_simp; first | exact ⟨rfl, Below.refl _ _⟩ | (refine ⟨?_, Below.refl _ _⟩; rfl))); (try go_simp))
          (refine Rl.textR_run ?_ (fun ρ => ?_) (fun ρ W hS hd => ?_) ?_; rotate_left; (focus go_simp); (focus (obtain ⟨hc, hf⟩ := bcell hS; go_simp; refine (len_any _ _).mono ?_; rintro e w1 ⟨rfl, rfl⟩; refine ⟨_, rfl, ?_, Below.refl _ _⟩; rfl)); (try go_simp))
          (refine Rl.textR_run ?_ (fun ρ => ?_) (fun ρ W hS hd => ?_) ?_; rotate_left; (focus go_simp); (focus (obtain ⟨hc, hf⟩ := bcell hS; go_simp; first | exact ⟨rfl, Below.refl _ _⟩ | (refine ⟨?_, Below.refl _ _⟩; rfl))); (try go_simp))
          (refine Rl.textR_run ?_ (fun ρ => ?_) (fun ρ W hS hd => ?_) ?_; rotate_left; (focus go_simp); (focus (obtain ⟨hc, hf⟩ := bcell hS; go_simp; first | exact ⟨rfl, Below.refl _ _⟩ | (refine ⟨?_, Below.refl _ _⟩; rfl))); (try go_simp))
          (refine Rl.textR_run ?_ (fun ρ => ?_) (fun ρ W hS hd => ?_) ?_; rotate_left; (focus go_simp); (focus (obtain ⟨hc, hf⟩ := bcell hS; go_simp; first | exact ⟨rfl, Below.refl _ _⟩ | (refine ⟨?_, Below.refl _ _⟩; rfl))); (try go_simp))
          (refine Rl.textR_run ?_ (fun ρ => ?_) (fun ρ W hS hd => ?_) ?_; rotate_left; (focus go_simp); (focus (obtain ⟨hc, hf⟩ := bcell hS; go_simp; first | exact ⟨rfl, Below.refl _ _⟩ | (refine ⟨?_, Below.refl _ _⟩; rfl))); (try go_simp))
          (refine Rl.textR_run ?_ (fun ρ => ?_) (fun ρ W hS hd => ?_) ?_; rotate_left; (focus go_simp); (focus (obtain ⟨hc, hf⟩ := bcell hS; go_simp; first | exact ⟨rfl, Below.refl _ _⟩ | (refine ⟨?_, Below.refl _ _⟩; rfl))); (try go_simp))
          (refine Rl.textR_run ?_ (fun ρ => ?_) (fun ρ W hS hd => ?_) ?_; rotate_left; (focus go_simp); (focus (obtain ⟨hc, hf⟩ := bcell hS; go_simp; first | exact ⟨rfl, Below.refl _ _⟩ | (refine ⟨?_, Below.refl _ _⟩; rfl))); (try go_simp))
          (refine Rl.textR_run ?_ (fun ρ => ?_) (fun ρ W hS hd => ?_) ?_; rotate_left; (focus go_simp); (focus (obtain ⟨hc, hf⟩ := bcell hS; go_simp; first | exact ⟨rfl, Below.refl _ _⟩ | (refine ⟨?_, Below.refl _ _⟩; rfl))); (try go_simp))
          (refine Rl.textR_run ?_ (fun ρ => ?_) (fun ρ W hS hd => ?_) ?_; rotate_left; (focus go_simp); (focus (obtain ⟨hc, hf⟩ := bcell hS; go_simp; first | exact ⟨rfl, Below.refl _ _⟩ | (refine ⟨?_, Below.refl _ _⟩; rfl))); (try go_simp))
          (refine Rl.textR_run ?_ (fun ρ => ?_) (fun ρ W hS hd => ?_) ?_; rotate_left; (focus go_simp); (focus (obtain ⟨hc, hf⟩ := bcell hS; go_simp; first | exact ⟨rfl, Below.refl _ _⟩ | (refine ⟨?_, Below.refl _ _⟩; rfl))); (try go_simp))
          (refine Rl.textR_run ?_ (fun ρ => ?_) (fun ρ W hS hd => ?_) ?_; rotate_left; (focus go_simp); (focus (obtain ⟨hc, hf⟩ := bcell hS; go_simp; first | exact ⟨rfl, Below.refl _ _⟩ | (refine ⟨?_, Below.refl _ _⟩; rfl))); (try go_simp))
          (refine Rl.textR_run ?_ (fun ρ => ?_) (fun ρ W hS hd => ?_) ?_; rotate_left; (focus go_simp); (focus (obtain ⟨hc, hf⟩ := bcell hS; go_simp; first | exact ⟨rfl, Below.refl _ _⟩ | (refine ⟨?_, Below.refl _ _⟩; rfl))); (try go_simp))
          refine Rl.textR_nil ?_
          intro ρ w1 hg hk
          dsimp only
          go_wp2
          go_ret
          exact ⟨by rw [E.out]; rfl, HB.out.trans (hg.mono HB.out.size)⟩)
      · have E := Lib.hid (show stateB j = false by rw [E0.out, ht, ha]; rfl)
        rcases hs with hs | hs | hs | hs <;> rw [hs] at c8
        all_goals clear hs
        all_goals go_upto_region 12 with fail
        all_goals (
          refine Rl.wp_region_rel (fun a b => Below a.heap.size a b) U (fun a b c h h' => below_next h h') (fun a => Below.refl _ _) hmx (by kernel_rfl) (Below.refl _ _).drew ?_
          (refine Rl.textR_run ?_ (fun ρ => ?_) (fun ρ W hS hd => ?_) ?_; rotate_left; (focus go_simp); (focus (obtain ⟨hc, hf⟩ := bcell hS; go_simp; first | exact ⟨rfl, Below.refl _ _⟩ | (refine ⟨?_, Below.refl _ _⟩; rfl))); (try go_simp))
          (refine Rl.textR_run ?_ (fun ρ => ?_) (fun ρ W hS hd => ?_) ?_; rotate_left; (focus go_simp); (focus (obtain ⟨hc, hf⟩ := bcell hS; go_simp; first | exact ⟨rfl, Below.refl _ _⟩ | (refine ⟨?_, Below.refl _ _⟩; rfl))); (try go_simp))
          (refine Rl.textR_run ?_ (fun ρ => ?_) (fun ρ W hS hd => ?_) ?_; rotate_left; (focus go_simp); (focus (obtain ⟨hc, hf⟩ := bcell hS; go_simp; refine (len_any _ _).mono ?_; rintro e w1 ⟨rfl, rfl⟩; refine ⟨_, rfl, ?_, Below.refl _ _⟩; rfl)); (try go_simp))
          (refine Rl.textR_run ?_ (fun ρ => ?_) (fun ρ W hS hd => ?_) ?_; rotate_left; (focus go_simp); (focus (obtain ⟨hc, hf⟩ := bcell hS; go_simp; first | exact ⟨rfl, Below.refl _ _⟩ | (refine ⟨?_, Below.refl _ _⟩; rfl))); (try go_simp))
          (refine Rl.textR_run ?_ (fun ρ => ?_) (fun ρ W hS hd => ?_) ?_; rotate_left; (focus go_simp); (focus (obtain ⟨hc, hf⟩ := bcell hS; go_simp; first | exact ⟨rfl, Below.refl _ _⟩ | (refine ⟨?_, Below.refl _ _⟩; rfl))); (try go_simp))
          (refine Rl.textR_run ?_ (fun ρ => ?_) (fun ρ W hS hd => ?_) ?_; rotate_left; (focus go_simp); (focus (obtain ⟨hc, hf⟩ := bcell hS; go_simp; first | exact ⟨rfl, Below.refl _ _⟩ | (refine ⟨?_, Below.refl _ _⟩; rfl))); (try go_simp))
          (refine Rl.textR_run ?_ (fun ρ => ?_) (fun ρ W hS hd => ?_) ?_; rotate_left; (focus go_simp); (focus (obtain ⟨hc, hf⟩ := bcell hS; go_simp; first | exact ⟨rfl, Below.refl _ _⟩ | (refine ⟨?_, Below.refl _ _⟩; rfl))); (try go_simp))
          (refine Rl.textR_skip (fun ρ => ?_) ?_; (focus (first | rfl | (go_simp; done) | (go_simp; rfl))); (try go_simp))
          (refine Rl.textR_skip (fun ρ => ?_) ?_; (focus (first | rfl | (go_simp; done) | (go_simp; rfl))); (try go_simp))
          (refine Rl.textR_skip (fun ρ => ?_) ?_; (focus (first | rfl | (go_simp; done) | (go_simp; rfl))); (try go_simp))
          (refine Rl.textR_skip (fun ρ => ?_) ?_; (focus (first | rfl | (go_simp; done) | (go_simp; rfl))); (try go_simp))
          (refine Rl.textR_skip (fun ρ => ?_) ?_; (focus (first | rfl | (go_simp; done) | (go_simp; rfl))); (try go_simp))
          (refine Rl.textR_run ?_ (fun ρ => ?_) (fun ρ W hS hd => ?_) ?_; rotate_left; (focus go_simp); (focus (obtain ⟨hc, hf⟩ := bcell hS; go_simp; first | exact ⟨rfl, Below.refl _ _⟩ | (refine ⟨?_, Below.refl _ _⟩; rfl))); (try go_simp))
          (refine Rl.textR_run ?_ (fun ρ => ?_) (fun ρ W hS hd => ?_) ?_; rotate_left; (focus go_simp); (focus (obtain ⟨hc, hf⟩ := bcell hS; go_simp; first | exact ⟨rfl, Below.refl _ _⟩ | (refine ⟨?_, Below.refl _ _⟩; rfl))); (try go_simp))
          refine Rl.textR_nil ?_
          intro ρ w1 hg hk
          dsimp only
          go_wp2
          go_ret
          exact ⟨by rw [E.out]; rfl, HB.out.trans (hg.mono HB.out.size)⟩)
  · have E := Lib.hid (show stateB j = false by unfold stateB; rw [h0, h1, hi]; rfl)
    go_wp2
    go_ret
    exact ⟨by rw [E.out]; rfl, HB.out⟩
end Go.Proofs.Ytgeldpfojmkdbaa
