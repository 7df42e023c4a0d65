/- The document's late, Begin and Stop (layer 15) at any job. No condition. -/
import Derived.Test.YtgeldpfojmkdbaaJt
import Derived.Test.YtgeldpfojmkdbaaJg
namespace Go.Proofs.Ytgeldpfojmkdbaa
set_option linter.unusedVariables false
open Go.ChangeShapes Go.WideShapes Go.ChangeAt Go.RowKit
attribute [local go_sem ↓] Go.wp_at_zero Go.wp_at_succ comesTo_value_eq comesTo_skip_eq comesTo_enter_eq Rl.comesToR_value_eq Rl.comesToR_skip_eq Rl.comesToR_enter_eq

theorem rtime_is {t : Int} {b : Bool} (h : timeB t = b) (w : World) : Calls Try.prog 18 #[.int .i64 t] w fun e w' => e = .returned (.bool b) ∧ w = w' := h ▸ rtime_any t w
theorem rright_is {j : JobV} {b : Bool} (h : rightB j = b) (w : World) : Calls Try.prog 6 #[.agg (jobC j).toArray] w fun e w' => e = .returned (.bool b) ∧ Below w.heap.size w w' := h ▸ rright_any j w
theorem right_state {j : JobV} (h : rightB j = true) : 0 ≤ j.state ∧ j.state ≤ 5 := by
  have h1 : stateB j = true := by unfold rightB at h; simp only [Bool.and_eq_true] at h; exact h.2
  unfold stateB at h1
  by_cases h0 : j.state = 0
  · omega
  · by_cases h2 : j.state = 1
    · omega
    · rw [if_neg (by simpa using h0), if_neg (by simpa using h2)] at h1
      cases hi : inI j.state 2 5 with
      | true => have := inI_yes hi; omega
      | false => rw [hi] at h1; simp at h1
theorem right_fin {j : JobV} (h : rightB j = true) (h1 : j.state = 1) : j.fin = 0 := by
  have h2 : stateB j = true := by unfold rightB at h; simp only [Bool.and_eq_true] at h; exact h.2
  unfold stateB at h2
  rw [h1, if_neg (by decide), if_pos (by decide)] at h2
  simp only [Bool.and_eq_true] at h2
  simpa using h2.2
set_option maxRecDepth 100000 in
set_option maxHeartbeats 4000000 in
theorem rlate_any (j : JobV) (now : Int) (w : World) : Calls Try.prog 24 #[.agg (jobC j).toArray, .int .i64 now] w fun e w' => e = .returned (.bool (lateB j now)) ∧ Below w.heap.size w w' := by
  have hs : (j.state == 1) = true ∨ (j.state == 1) = false := by cases (j.state == 1); exact .inr rfl; exact .inl rfl
  have hmx : Try.prog.follows .mixedOrders = true := by kernel_rfl
  have HLEN := Lib.hid (jobC_len j)
  have k8 : (jobC j).toArray[8]? = some (.int .i64 j.state) := rfl
  have k15 : (jobC j).toArray[15]? = some (.int .i64 j.start) := rfl
  generalize hl : jobC j = l at *
  clear hl
  go_enter Try.func24, Try.ntmps24
  go_upto_region 1 with fail
  have hC := World.alloc_heap_new w (.cells l.toArray 29)
  have HB := Lib.hid (below_alloc (Below.refl _ w) (.cells l.toArray 29))
  have l0 : w.heap.size < (w.alloc (.cells l.toArray 29)).heap.size := by simp
  generalize w.alloc (.cells l.toArray 29) = U at *
  have c8 := cell_of_block (o := 8) hC k8
  have c15 := cell_of_block (o := 15) hC k15
  have HC := Lib.hid hC
  have L0 := Lib.hid l0
  have HK8 := Lib.hid k8
  have HK15 := Lib.hid k15
  clear hC k8 k15
  cases ht : timeB now with
  | false =>
    have E := Lib.hid (show lateB j now = true by unfold lateB; rw [ht]; rfl)
    go_wp2_with (go_at_call 18; ((with_reducible refine (rtime_is (by assumption) _).mono ?_)); rintro e w' ⟨rfl, rfl⟩)
    go_ret
    exact ⟨by rw [E.out]; rfl, HB.out⟩
  | true =>
    rcases hs with hs | hs
    · have E := Lib.hid (show lateB j now = decide (now < j.start) by unfold lateB; rw [ht, hs]; rfl)
      go_wp2_with (go_at_call 18; ((with_reducible refine (rtime_is (by assumption) _).mono ?_)); rintro e w' ⟨rfl, rfl⟩)
      go_ret
      exact ⟨by rw [E.out]; rfl, HB.out⟩
    · have E := Lib.hid (show lateB j now = false by unfold lateB; rw [ht, hs]; rfl)
      go_wp2_with (go_at_call 18; ((with_reducible refine (rtime_is (by assumption) _).mono ?_)); rintro e w' ⟨rfl, rfl⟩)
      go_ret
      exact ⟨by rw [E.out]; rfl, HB.out⟩
theorem rlate_is {j : JobV} {now : Int} {b : Bool} (h : lateB j now = b) (w : World) : Calls Try.prog 24 #[.agg (jobC j).toArray, .int .i64 now] w fun e w' => e = .returned (.bool b) ∧ Below w.heap.size w w' := h ▸ rlate_any j now w
set_option maxRecDepth 100000 in
set_option maxHeartbeats 4000000 in
theorem rbegin_any (j : JobV) (now : Int) (n : NSet) (w : World) : Calls Try.prog 8 #[.agg (jobC j).toArray, .int .i64 now, .int .u64 (nv n)] w fun e w' => e = .returned (.tuple #[.agg (jobC (beginJ j now n).1).toArray, .int .i64 (beginJ j now n).2]) ∧ Below w.heap.size w w' := by
  have hmx : Try.prog.follows .mixedOrders = true := by kernel_rfl
  have KR := Lib.hid (fun b (h : rightB j = b) W => rright_is h W)
  have KL := Lib.hid (fun W => rlen15 n W)
  have KM := Lib.hid (fun (b : Bool) (h : (nv (n &&& j.black) == 0) = b) (W : World) => (show Calls Try.prog 20 #[.int .u64 (nv n), .int .u64 (nv j.black)] W fun e w' => e = .returned (.bool (!b)) ∧ Below W.heap.size W w' from h ▸ rmeets_any n j.black W))
  have HSET := Lib.hid (show (((((jobC j).toArray).setIfInBounds 8 (.int .i64 1)).setIfInBounds 14 (.int .u64 (nv n))).setIfInBounds 15 (.int .i64 now)).setIfInBounds 12 (.int .i64 (j.tries + 1)) = (jobC ({ j with state := 1, nodes := n, start := now, tries := j.tries + 1 })).toArray from rfl)
  have HLEN' := Lib.hid (jobC_len ({ j with state := 1, nodes := n, start := now, tries := j.tries + 1 }))
  have HONE' := Lib.hid (jobC_one ({ j with state := 1, nodes := n, start := now, tries := j.tries + 1 }))
  have HNE := Lib.hid (show ∀ x, beginJ j now n = x → beginJ j now n = x from fun _ h => h)
  generalize hbj : beginJ j now n = bj at HNE ⊢
  have HBJ := Lib.hid hbj
  clear hbj HNE
  have HLEN := Lib.hid (jobC_len j)
  have k3 : (jobC j).toArray[3]? = some (.int .i64 j.width) := rfl
  have k7 : (jobC j).toArray[7]? = some (.bool j.hold) := rfl
  have k8 : (jobC j).toArray[8]? = some (.int .i64 j.state) := rfl
  have k12 : (jobC j).toArray[12]? = some (.int .i64 j.tries) := rfl
  have k13 : (jobC j).toArray[13]? = some (.int .u64 (nv j.black)) := rfl
  have k14 : (jobC j).toArray[14]? = some (.int .u64 (nv j.nodes)) := rfl
  have k15 : (jobC j).toArray[15]? = some (.int .i64 j.start) := rfl
  generalize hl' : jobC ({ j with state := 1, nodes := n, start := now, tries := j.tries + 1 }) = l' at *
  have HL' := Lib.hid hl'
  clear hl'
  generalize hl : jobC j = l at *
  clear hl
  go_enter Try.func8, Try.ntmps8
  go_upto_region 1 with fail
  generalize hU : (w.alloc (.cells l.toArray 29)).alloc (.cells #[.int .i64 0, .int .i64 0, .int .i64 0, .int .i64 0, .int .i64 0, .int .i64 0, .int .i64 0, .bool false, .int .i64 0, .int .i64 0, .int .i64 0, .int .i64 0, .int .i64 0, .int .u64 0, .int .u64 0, .int .i64 0, .int .i64 0] 29) = U
  have hC : U.heap[w.heap.size]? = some (.cells l.toArray 29 (0, 0)) := by rw [← hU]; exact ((below_alloc (Below.refl _ _) _).block _ (by simp)).trans (World.alloc_heap_new w _)
  have hZ : U.heap[w.heap.size + 1]? = some (.cells #[.int .i64 0, .int .i64 0, .int .i64 0, .int .i64 0, .int .i64 0, .int .i64 0, .int .i64 0, .bool false, .int .i64 0, .int .i64 0, .int .i64 0, .int .i64 0, .int .i64 0, .int .u64 0, .int .u64 0, .int .i64 0, .int .i64 0] 29 (0, 0)) := by
    rw [← hU]
    have := World.alloc_heap_new (w.alloc (.cells l.toArray 29)) (.cells #[.int .i64 0, .int .i64 0, .int .i64 0, .int .i64 0, .int .i64 0, .int .i64 0, .int .i64 0, .bool false, .int .i64 0, .int .i64 0, .int .i64 0, .int .i64 0, .int .i64 0, .int .u64 0, .int .u64 0, .int .i64 0, .int .i64 0] 29)
    rwa [show (w.alloc (.cells l.toArray 29)).heap.size = w.heap.size + 1 by simp] at this
  have HB := Lib.hid (show Below w.heap.size w U by rw [← hU]; exact (by repeat (first | exact Below.refl _ _ | assumption | refine below_drewN ?_ _ | refine Below.drew ?_ | refine below_alloc ?_ _ | refine Below.alloc ?_ (by first | omega | (simp; done) | (simp; omega)) _ | refine Below.setCell ?_ (Below.size (by assumption)) _ | refine Below.setCell ?_ (by first | omega | (simp; done) | (simp; omega)) _ | (refine Below.trans ?_ (Below.mono (by assumption) (by first | omega | (simp; done) | (simp; omega)))) | refine below_next ?_ (by assumption))))
  have HS := Lib.hid (show U.heap.size = w.heap.size + 2 by rw [← hU]; simp)
  clear hU
  have HC := Lib.hid hC
  have HZ := Lib.hid hZ
  clear hC hZ
  have HK3 := Lib.hid k3
  have HK7 := Lib.hid k7
  have HK8 := Lib.hid k8
  have HK12 := Lib.hid k12
  have HK13 := Lib.hid k13
  have HK14 := Lib.hid k14
  have HK15 := Lib.hid k15
  clear k3 k7 k8 k12 k13 k14 k15
  cases r : rightB j with
  | false =>
    have E := Lib.hid (show bj = (job0, 11) by rw [← HBJ.out]; unfold beginJ; rw [r]; rfl)
    go_upto_region 1 with fail
    refine wp_region_lit ?_
    refine wpList_load_all rfl 29 _ rfl (w.heap.size) l _ (by go_simp) HC.out Try.underlying29 rfl (by rw [HLEN.out]; kernel_rfl) ?_
    refine wpList_enter rfl (by go_simp) (KR.out false r U) ?_
    rintro e w2 ⟨rfl, hb2⟩
    refine ⟨_, rfl, ?_⟩
    have hle := hb2.size
    have HC2 := Lib.hid ((hb2.block _ (Array.getElem?_eq_some_iff.1 HC.out).1).trans HC.out)
    have HZ2 := Lib.hid ((hb2.block _ (Array.getElem?_eq_some_iff.1 HZ.out).1).trans HZ.out)
    have HB2 := Lib.hid (below_next HB.out hb2)
    clear hb2 hle
    go_upto_region 2 with fail
    refine wp_region_lit ?_
    refine wpList_yield (w' := w2) (v := .agg (jobC job0).toArray) rfl (by go_simp; rfl) ?_
    refine wpList_store_all rfl 29 _ _ rfl (w.heap.size + 1) (T := 29) (jobC job0) (by go_simp) (by go_simp) HZ2.out rfl (by kernel_rfl) rfl ?_
    intro w9 hw9
    have HW9 := Lib.hid hw9.there
    have HB9 := Lib.hid (hw9.below HB2.out (by omega))
    clear hw9
    go_wp2_with fail
    exact bodyPost_ret (results_all2 (jobC job0) _ Try.results8 (by go_simp) HW9.out Try.underlying29 rfl (by kernel_rfl)) rfl ⟨by rw [E.out]; rfl, HB9.out⟩
  | true =>
    obtain ⟨hy1, hy2⟩ := right_tries r
    go_upto_region 1 with fail
    refine wp_region_lit ?_
    refine wpList_load_all rfl 29 _ rfl (w.heap.size) l _ (by go_simp) HC.out Try.underlying29 rfl (by rw [HLEN.out]; kernel_rfl) ?_
    refine wpList_enter rfl (by go_simp) (KR.out true r U) ?_
    rintro e w2 ⟨rfl, hb2⟩
    refine ⟨_, rfl, ?_⟩
    have hle := hb2.size
    have HC2 := Lib.hid ((hb2.block _ (Array.getElem?_eq_some_iff.1 HC.out).1).trans HC.out)
    have HZ2 := Lib.hid ((hb2.block _ (Array.getElem?_eq_some_iff.1 HZ.out).1).trans HZ.out)
    have HB2 := Lib.hid (below_next HB.out hb2)
    clear hb2 hle
    have c7 := cell_of_block (o := 7) HC2.out HK7.out
    have c8 := cell_of_block (o := 8) HC2.out HK8.out
    cases hs : (j.state == 0) with
    | false =>
      have hs' : (j.state != 0) = true := by unfold bne; rw [hs]; rfl
      have E := Lib.hid (show bj = (job0, 16) by rw [← HBJ.out]; unfold beginJ; rw [r, hs]; rfl)
      go_upto_region 4 with fail
      refine wp_region_lit ?_
      refine wpList_yield (w' := w2) (v := .agg (jobC job0).toArray) rfl (by go_simp; rfl) ?_
      refine wpList_store_all rfl 29 _ _ rfl (w.heap.size + 1) (T := 29) (jobC job0) (by go_simp) (by go_simp) HZ2.out rfl (by kernel_rfl) rfl ?_
      intro w9 hw9
      have HW9 := Lib.hid hw9.there
      have HB9 := Lib.hid (hw9.below HB2.out (by omega))
      clear hw9
      go_wp2_with fail
      exact bodyPost_ret (results_all2 (jobC job0) _ Try.results8 (by go_simp) HW9.out Try.underlying29 rfl (by kernel_rfl)) rfl ⟨by rw [E.out]; rfl, HB9.out⟩
    | true =>
      have hs' : (j.state != 0) = false := by unfold bne; rw [hs]; rfl
      cases hh : j.hold with
      | true =>
        rw [hh] at c7
        have E := Lib.hid (show bj = (job0, 16) by rw [← HBJ.out]; unfold beginJ; rw [r, hs, hh]; rfl)
        go_upto_region 4 with fail
        refine wp_region_lit ?_
        refine wpList_yield (w' := w2) (v := .agg (jobC job0).toArray) rfl (by go_simp; rfl) ?_
        refine wpList_store_all rfl 29 _ _ rfl (w.heap.size + 1) (T := 29) (jobC job0) (by go_simp) (by go_simp) HZ2.out rfl (by kernel_rfl) rfl ?_
        intro w9 hw9
        have HW9 := Lib.hid hw9.there
        have HB9 := Lib.hid (hw9.below HB2.out (by omega))
        clear hw9
        go_wp2_with fail
        exact bodyPost_ret (results_all2 (jobC job0) _ Try.results8 (by go_simp) HW9.out Try.underlying29 rfl (by kernel_rfl)) rfl ⟨by rw [E.out]; rfl, HB9.out⟩
      | false =>
        rw [hh] at c7
        by_cases hlo : now < 0
        case pos =>
          have hd0 : decide (now < 0) = true := decide_eq_true hlo
          have ht : timeB now = false := by rw [Bool.eq_false_iff]; intro h; have := timeB_yes h; omega
          have E := Lib.hid (show bj = (job0, 18) by rw [← HBJ.out]; unfold beginJ; rw [r, hs, hh, ht]; rfl)
          go_upto_region 6 with fail
          refine wp_region_lit ?_
          refine wpList_yield (w' := w2) (v := .agg (jobC job0).toArray) rfl (by go_simp; rfl) ?_
          refine wpList_store_all rfl 29 _ _ rfl (w.heap.size + 1) (T := 29) (jobC job0) (by go_simp) (by go_simp) HZ2.out rfl (by kernel_rfl) rfl ?_
          intro w9 hw9
          have HW9 := Lib.hid hw9.there
          have HB9 := Lib.hid (hw9.below HB2.out (by omega))
          clear hw9
          go_wp2_with fail
          exact bodyPost_ret (results_all2 (jobC job0) _ Try.results8 (by go_simp) HW9.out Try.underlying29 rfl (by kernel_rfl)) rfl ⟨by rw [E.out]; rfl, HB9.out⟩
        case neg =>
        have hd0 : decide (now < 0) = false := decide_eq_false hlo
        by_cases hhi : now ≥ 1099511627776
        case pos =>
          have hd1 : decide (now ≥ 1099511627776) = true := decide_eq_true hhi
          have E := Lib.hid (show bj = (job0, 18) by
            rw [← HBJ.out]; unfold beginJ; rw [r, hs, hh]
            have : (!timeB now || (now == 1099511627776)) = true := by
              by_cases h : now = 1099511627776
              · simp [h]
              · have ht : timeB now = false := by rw [Bool.eq_false_iff]; intro h2; have := timeB_yes h2; omega
                simp [ht]
            rw [this]; rfl)
          go_upto_region 6 with fail
          refine wp_region_lit ?_
          refine wpList_yield (w' := w2) (v := .agg (jobC job0).toArray) rfl (by go_simp; rfl) ?_
          refine wpList_store_all rfl 29 _ _ rfl (w.heap.size + 1) (T := 29) (jobC job0) (by go_simp) (by go_simp) HZ2.out rfl (by kernel_rfl) rfl ?_
          intro w9 hw9
          have HW9 := Lib.hid hw9.there
          have HB9 := Lib.hid (hw9.below HB2.out (by omega))
          clear hw9
          go_wp2_with fail
          exact bodyPost_ret (results_all2 (jobC job0) _ Try.results8 (by go_simp) HW9.out Try.underlying29 rfl (by kernel_rfl)) rfl ⟨by rw [E.out]; rfl, HB9.out⟩
        case neg =>
        have hd1 : decide (now ≥ 1099511627776) = false := decide_eq_false hhi
        have ht : timeB now = true := by unfold timeB; rw [beq_iff_eq]; unfold clampI; omega
        have hn : (now == 1099511627776) = false := beq_eq_false_iff_ne.2 (by omega)
        go_upto_region 7 with fail
        clear c7 c8 hd0 hd1
        have P3 := Lib.hid (fun (W : World) (h : Below w2.heap.size w2 W) => cell_of_block (o := 3) ((h.block _ (Array.getElem?_eq_some_iff.1 HC2.out).1).trans HC2.out) HK3.out)
        have P13 := Lib.hid (fun (W : World) (h : Below w2.heap.size w2 W) => cell_of_block (o := 13) ((h.block _ (Array.getElem?_eq_some_iff.1 HC2.out).1).trans HC2.out) HK13.out)
        have hw : (((card n : Nat) : Int) == j.width) = true ∨ (((card n : Nat) : Int) == j.width) = false := by cases (((card n : Nat) : Int) == j.width); exact .inr rfl; exact .inl rfl
        rcases hw with hw | hw
        · have hw' : (((card n : Nat) : Int) != j.width) = false := by unfold bne; rw [hw]; rfl
          cases hm : (nv (n &&& j.black) == 0) with
          | false =>
            have hf : fitsB j n = false := by unfold fitsB; rw [hw, hm]; rfl
            have E := Lib.hid (show bj = (job0, 2) by rw [← HBJ.out]; unfold beginJ; rw [r, hs, hh, ht, hn, hf]; rfl)
            refine Rl.wp_region_rel (fun a b => Below a.heap.size a b) w2 (fun a b c h h' => below_next h h') (fun a => Below.refl _ _) hmx (by kernel_rfl) (Below.refl _ _).drew ?_
            (refine Rl.textR_run ?_ (fun ρ => ?_) (fun ρ W hS hd => ?_) ?_; rotate_left; (focus go_simp); (focus (obtain ⟨hc, hf⟩ := bcell hS; go_simp; first | exact ⟨rfl, Below.refl _ _⟩ | (refine ⟨?_, Below.refl _ _⟩; rfl))); (try go_simp))
            (refine Rl.textR_run ?_ (fun ρ => ?_) (fun ρ W hS hd => ?_) ?_; rotate_left; (focus go_simp); (focus (obtain ⟨hc, hf⟩ := bcell hS; go_simp; refine (KL.out W).mono ?_; rintro e w1 ⟨rfl, hb⟩; refine ⟨_, rfl, ?_, hb⟩; rfl)); (try go_simp))
            (refine Rl.textR_run ?_ (fun ρ => ?_) (fun ρ W hS hd => ?_) ?_; rotate_left; (focus go_simp); (focus (obtain ⟨hc, hf⟩ := bcell hS; go_simp; first | exact ⟨rfl, Below.refl _ _⟩ | (refine ⟨?_, Below.refl _ _⟩; rfl))); (try go_simp))
            (refine Rl.textR_run ?_ (fun ρ => ?_) (fun ρ W hS hd => ?_) ?_; rotate_left; (focus go_simp); (focus (have hfact := P3.out W hS; go_simp; first | exact ⟨rfl, Below.refl _ _⟩ | (refine ⟨?_, Below.refl _ _⟩; rfl))); (try go_simp))
            iterate 2 (refine Rl.textR_run ?_ (fun ρ => ?_) (fun ρ W hS hd => ?_) ?_; rotate_left; (focus go_simp); (focus (obtain ⟨hc, hf⟩ := bcell hS; go_simp; first | exact ⟨rfl, Below.refl _ _⟩ | (refine ⟨?_, Below.refl _ _⟩; rfl))); (try go_simp))
            iterate 2 (refine Rl.textR_run ?_ (fun ρ => ?_) (fun ρ W hS hd => ?_) ?_; rotate_left; (focus go_simp); (focus (obtain ⟨hc, hf⟩ := bcell hS; go_simp; first | exact ⟨rfl, Below.refl _ _⟩ | (refine ⟨?_, Below.refl _ _⟩; rfl))); (try go_simp))
            (refine Rl.textR_run ?_ (fun ρ => ?_) (fun ρ W hS hd => ?_) ?_; rotate_left; (focus go_simp); (focus (have hfact := P13.out W hS; go_simp; first | exact ⟨rfl, Below.refl _ _⟩ | (refine ⟨?_, Below.refl _ _⟩; rfl))); (try go_simp))
            (refine Rl.textR_run ?_ (fun ρ => ?_) (fun ρ W hS hd => ?_) ?_; rotate_left; (focus go_simp); (focus (obtain ⟨hc, hf⟩ := bcell hS; go_simp; refine (KM.out _ hm W).mono ?_; rintro e w1 ⟨rfl, hb⟩; refine ⟨_, rfl, ?_, hb⟩; rfl)); (try go_simp))
            (refine Rl.textR_run ?_ (fun ρ => ?_) (fun ρ W hS hd => ?_) ?_; rotate_left; (focus go_simp); (focus (obtain ⟨hc, hf⟩ := bcell hS; go_simp; first | exact ⟨rfl, Below.refl _ _⟩ | (refine ⟨?_, Below.refl _ _⟩; rfl))); (try go_simp))
            refine Rl.textR_nil ?_
            intro ρ w4 hg hk
            have HC4 := Lib.hid ((hg.block _ (Array.getElem?_eq_some_iff.1 HC2.out).1).trans HC2.out)
            have HZ4 := Lib.hid ((hg.block _ (Array.getElem?_eq_some_iff.1 HZ2.out).1).trans HZ2.out)
            have HB4 := Lib.hid (below_next HB2.out hg)
            clear hg hk
            dsimp only
            clear ρ
            go_upto_region 8 with fail
            refine wp_region_lit ?_
            refine wpList_yield (w' := w4) (v := .agg (jobC job0).toArray) rfl (by go_simp; rfl) ?_
            refine wpList_store_all rfl 29 _ _ rfl (w.heap.size + 1) (T := 29) (jobC job0) (by go_simp) (by go_simp) HZ4.out rfl (by kernel_rfl) rfl ?_
            intro w9 hw9
            have HW9 := Lib.hid hw9.there
            have HB9 := Lib.hid (hw9.below HB4.out (by omega))
            clear hw9
            go_wp2_with fail
            exact bodyPost_ret (results_all2 (jobC job0) _ Try.results8 (by go_simp) HW9.out Try.underlying29 rfl (by kernel_rfl)) rfl ⟨by rw [E.out]; rfl, HB9.out⟩
          | true =>
            have hf : fitsB j n = true := by unfold fitsB; rw [hw, hm]; rfl
            refine Rl.wp_region_rel (fun a b => Below a.heap.size a b) w2 (fun a b c h h' => below_next h h') (fun a => Below.refl _ _) hmx (by kernel_rfl) (Below.refl _ _).drew ?_
            (refine Rl.textR_run ?_ (fun ρ => ?_) (fun ρ W hS hd => ?_) ?_; rotate_left; (focus go_simp); (focus (obtain ⟨hc, hf⟩ := bcell hS; go_simp; first | exact ⟨rfl, Below.refl _ _⟩ | (refine ⟨?_, Below.refl _ _⟩; rfl))); (try go_simp))
            (refine Rl.textR_run ?_ (fun ρ => ?_) (fun ρ W hS hd => ?_) ?_; rotate_left; (focus go_simp); (focus (obtain ⟨hc, hf⟩ := bcell hS; go_simp; refine (KL.out W).mono ?_; rintro e w1 ⟨rfl, hb⟩; refine ⟨_, rfl, ?_, hb⟩; rfl)); (try go_simp))
            (refine Rl.textR_run ?_ (fun ρ => ?_) (fun ρ W hS hd => ?_) ?_; rotate_left; (focus go_simp); (focus (obtain ⟨hc, hf⟩ := bcell hS; go_simp; first | exact ⟨rfl, Below.refl _ _⟩ | (refine ⟨?_, Below.refl _ _⟩; rfl))); (try go_simp))
            (refine Rl.textR_run ?_ (fun ρ => ?_) (fun ρ W hS hd => ?_) ?_; rotate_left; (focus go_simp); (focus (have hfact := P3.out W hS; go_simp; first | exact ⟨rfl, Below.refl _ _⟩ | (refine ⟨?_, Below.refl _ _⟩; rfl))); (try go_simp))
            iterate 2 (refine Rl.textR_run ?_ (fun ρ => ?_) (fun ρ W hS hd => ?_) ?_; rotate_left; (focus go_simp); (focus (obtain ⟨hc, hf⟩ := bcell hS; go_simp; first | exact ⟨rfl, Below.refl _ _⟩ | (refine ⟨?_, Below.refl _ _⟩; rfl))); (try go_simp))
            iterate 2 (refine Rl.textR_run ?_ (fun ρ => ?_) (fun ρ W hS hd => ?_) ?_; rotate_left; (focus go_simp); (focus (obtain ⟨hc, hf⟩ := bcell hS; go_simp; first | exact ⟨rfl, Below.refl _ _⟩ | (refine ⟨?_, Below.refl _ _⟩; rfl))); (try go_simp))
            (refine Rl.textR_run ?_ (fun ρ => ?_) (fun ρ W hS hd => ?_) ?_; rotate_left; (focus go_simp); (focus (have hfact := P13.out W hS; go_simp; first | exact ⟨rfl, Below.refl _ _⟩ | (refine ⟨?_, Below.refl _ _⟩; rfl))); (try go_simp))
            (refine Rl.textR_run ?_ (fun ρ => ?_) (fun ρ W hS hd => ?_) ?_; rotate_left; (focus go_simp); (focus (obtain ⟨hc, hf⟩ := bcell hS; go_simp; refine (KM.out _ hm W).mono ?_; rintro e w1 ⟨rfl, hb⟩; refine ⟨_, rfl, ?_, hb⟩; rfl)); (try go_simp))
            (refine Rl.textR_run ?_ (fun ρ => ?_) (fun ρ W hS hd => ?_) ?_; rotate_left; (focus go_simp); (focus (obtain ⟨hc, hf⟩ := bcell hS; go_simp; first | exact ⟨rfl, Below.refl _ _⟩ | (refine ⟨?_, Below.refl _ _⟩; rfl))); (try go_simp))
            refine Rl.textR_nil ?_
            intro ρ w4 hg hk
            have HC4 := Lib.hid ((hg.block _ (Array.getElem?_eq_some_iff.1 HC2.out).1).trans HC2.out)
            have HZ4 := Lib.hid ((hg.block _ (Array.getElem?_eq_some_iff.1 HZ2.out).1).trans HZ2.out)
            have HB4 := Lib.hid (below_next HB2.out hg)
            clear hg hk
            dsimp only
            clear ρ
            go_simp
            have c8 := cell_of_block (o := 8) HC4.out HK8.out
            have c12 := cell_of_block (o := 12) HC4.out HK12.out
            have c14 := cell_of_block (o := 14) HC4.out HK14.out
            have c15 := cell_of_block (o := 15) HC4.out HK15.out
            have f8 := free_of_block 8 HC4.out
            have f12 := free_of_block 12 HC4.out
            have f14 := free_of_block 14 HC4.out
            have f15 := free_of_block 15 HC4.out
            cases h9 : (j.tries == 9) with
            | true =>
              have h9b : decide (j.tries ≥ 9) = true := decide_eq_true (by have := beq_iff_eq.1 h9; omega)
              have E := Lib.hid (show bj = (job0, 15) by rw [← HBJ.out]; unfold beginJ; rw [r, hs, hh, ht, hn, hf, h9]; rfl)
              go_upto_region 10 with fail
              refine wp_region_lit ?_
              refine wpList_yield (w' := w4) (v := .agg (jobC job0).toArray) rfl (by go_simp; rfl) ?_
              refine wpList_store_all rfl 29 _ _ rfl (w.heap.size + 1) (T := 29) (jobC job0) (by go_simp) (by go_simp) HZ4.out rfl (by kernel_rfl) rfl ?_
              intro w9 hw9
              have HW9 := Lib.hid hw9.there
              have HB9 := Lib.hid (hw9.below HB4.out (by omega))
              clear hw9
              go_wp2_with fail
              exact bodyPost_ret (results_all2 (jobC job0) _ Try.results8 (by go_simp) HW9.out Try.underlying29 rfl (by kernel_rfl)) rfl ⟨by rw [E.out]; rfl, HB9.out⟩
            | false =>
              have h9b : decide (j.tries ≥ 9) = false := decide_eq_false (by have := beq_eq_false_iff_ne.1 h9; omega)
              have E := Lib.hid (show bj = ({ j with state := 1, nodes := n, start := now, tries := j.tries + 1 }, 0) by rw [← HBJ.out]; unfold beginJ; rw [r, hs, hh, ht, hn, hf, h9]; rfl)
              go_upto_region 15 with fail
              have hW := ((((wrote_refl HC4.out).set 8 (.int .i64 1)).set 14 (.int .u64 (nv n))).set 15 (.int .i64 now)).set 12 (.int .i64 (j.tries + 1))
              rw [HSET.out] at hW
              have HV := Lib.hid hW.there
              have HZV := Lib.hid ((hW.rest (w.heap.size + 1) (by omega)).trans HZ4.out)
              have HBV := Lib.hid (hW.below HB4.out (Nat.le_refl _))
              clear hW c8 c12 c14 c15 f8 f12 f14 f15
              generalize ((((w4).setCell ⟨w.heap.size, 8, none⟩ (.int .i64 1)).setCell ⟨w.heap.size, 14, none⟩ (.int .u64 (nv n))).setCell ⟨w.heap.size, 15, none⟩ (.int .i64 now)).setCell ⟨w.heap.size, 12, none⟩ (.int .i64 (j.tries + 1)) = V at *
              refine wp_region_lit ?_
              refine wpList_load_all rfl 29 _ rfl (w.heap.size) l' _ (by go_simp) HV.out Try.underlying29 rfl (by rw [HLEN'.out]; kernel_rfl) ?_
              refine wpList_store_all rfl 29 _ _ rfl (w.heap.size + 1) (T := 29) l' (by go_simp) (by go_simp) HZV.out (by rw [HLEN'.out]; rfl) (by rw [HLEN'.out]; kernel_rfl) HONE'.out ?_
              intro w9 hw9
              have HW9 := Lib.hid hw9.there
              have HB9 := Lib.hid (hw9.below HBV.out (by omega))
              clear hw9
              go_wp2_with fail
              exact bodyPost_ret (results_all2 l' _ Try.results8 (by go_simp) HW9.out Try.underlying29 rfl (by rw [HLEN'.out]; kernel_rfl)) rfl ⟨by rw [E.out, ← HL'.out]; first | done | rfl, HB9.out⟩
        · have hw' : (((card n : Nat) : Int) != j.width) = true := by unfold bne; rw [hw]; rfl
          have hf : fitsB j n = false := by unfold fitsB; rw [hw]; rfl
          have E := Lib.hid (show bj = (job0, 2) by rw [← HBJ.out]; unfold beginJ; rw [r, hs, hh, ht, hn, hf]; rfl)
          refine Rl.wp_region_rel (fun a b => Below a.heap.size a b) w2 (fun a b c h h' => below_next h h') (fun a => Below.refl _ _) hmx (by kernel_rfl) (Below.refl _ _).drew ?_
          (refine Rl.textR_run ?_ (fun ρ => ?_) (fun ρ W hS hd => ?_) ?_; rotate_left; (focus go_simp); (focus (obtain ⟨hc, hf⟩ := bcell hS; go_simp; first | exact ⟨rfl, Below.refl _ _⟩ | (refine ⟨?_, Below.refl _ _⟩; rfl))); (try go_simp))
          (refine Rl.textR_run ?_ (fun ρ => ?_) (fun ρ W hS hd => ?_) ?_; rotate_left; (focus go_simp); (focus (obtain ⟨hc, hf⟩ := bcell hS; go_simp; refine (KL.out W).mono ?_; rintro e w1 ⟨rfl, hb⟩; refine ⟨_, rfl, ?_, hb⟩; rfl)); (try go_simp))
          (refine Rl.textR_run ?_ (fun ρ => ?_) (fun ρ W hS hd => ?_) ?_; rotate_left; (focus go_simp); (focus (obtain ⟨hc, hf⟩ := bcell hS; go_simp; first | exact ⟨rfl, Below.refl _ _⟩ | (refine ⟨?_, Below.refl _ _⟩; rfl))); (try go_simp))
          (refine Rl.textR_run ?_ (fun ρ => ?_) (fun ρ W hS hd => ?_) ?_; rotate_left; (focus go_simp); (focus (have hfact := P3.out W hS; go_simp; first | exact ⟨rfl, Below.refl _ _⟩ | (refine ⟨?_, Below.refl _ _⟩; rfl))); (try go_simp))
          iterate 2 (refine Rl.textR_run ?_ (fun ρ => ?_) (fun ρ W hS hd => ?_) ?_; rotate_left; (focus go_simp); (focus (obtain ⟨hc, hf⟩ := bcell hS; go_simp; first | exact ⟨rfl, Below.refl _ _⟩ | (refine ⟨?_, Below.refl _ _⟩; rfl))); (try go_simp))
          iterate 4 (refine Rl.textR_skip (fun ρ => ?_) ?_; (focus (first | rfl | (go_simp; done) | (go_simp; rfl))); (try go_simp))
          (refine Rl.textR_run ?_ (fun ρ => ?_) (fun ρ W hS hd => ?_) ?_; rotate_left; (focus go_simp); (focus (obtain ⟨hc, hf⟩ := bcell hS; go_simp; first | exact ⟨rfl, Below.refl _ _⟩ | (refine ⟨?_, Below.refl _ _⟩; rfl))); (try go_simp))
          refine Rl.textR_nil ?_
          intro ρ w4 hg hk
          have HC4 := Lib.hid ((hg.block _ (Array.getElem?_eq_some_iff.1 HC2.out).1).trans HC2.out)
          have HZ4 := Lib.hid ((hg.block _ (Array.getElem?_eq_some_iff.1 HZ2.out).1).trans HZ2.out)
          have HB4 := Lib.hid (below_next HB2.out hg)
          clear hg hk
          dsimp only
          clear ρ
          go_upto_region 8 with fail
          refine wp_region_lit ?_
          refine wpList_yield (w' := w4) (v := .agg (jobC job0).toArray) rfl (by go_simp; rfl) ?_
          refine wpList_store_all rfl 29 _ _ rfl (w.heap.size + 1) (T := 29) (jobC job0) (by go_simp) (by go_simp) HZ4.out rfl (by kernel_rfl) rfl ?_
          intro w9 hw9
          have HW9 := Lib.hid hw9.there
          have HB9 := Lib.hid (hw9.below HB4.out (by omega))
          clear hw9
          go_wp2_with fail
          exact bodyPost_ret (results_all2 (jobC job0) _ Try.results8 (by go_simp) HW9.out Try.underlying29 rfl (by kernel_rfl)) rfl ⟨by rw [E.out]; rfl, HB9.out⟩
set_option maxRecDepth 100000 in
set_option maxHeartbeats 4000000 in
theorem rstop_any (j : JobV) (now how : Int) (w : World) : Calls Try.prog 10 #[.agg (jobC j).toArray, .int .i64 now, .int .i64 how] w fun e w' => e = .returned (.tuple #[.agg (jobC (stopJ j now how).1).toArray, .int .i64 (stopJ j now how).2]) ∧ Below w.heap.size w w' := by
  have KR := Lib.hid (fun b (h : rightB j = b) W => rright_is h W)
  have KL := Lib.hid (fun b (h : lateB j now = b) W => rlate_is h W)
  have HSET := Lib.hid (show (((((jobC j).toArray).setIfInBounds 15 (.int .i64 now)).setIfInBounds 12 (.int .i64 0)).setIfInBounds 8 (.int .i64 how)).setIfInBounds 16 (.int .i64 now) = (jobC ({ j with start := now, tries := 0, state := how, fin := now })).toArray from rfl)
  have HLEN' := Lib.hid (jobC_len ({ j with start := now, tries := 0, state := how, fin := now }))
  have HONE' := Lib.hid (jobC_one ({ j with start := now, tries := 0, state := how, fin := now }))
  have HSETb := Lib.hid (show (((jobC j).toArray).setIfInBounds 8 (.int .i64 how)).setIfInBounds 16 (.int .i64 now) = (jobC ({ j with state := how, fin := now })).toArray from rfl)
  have HLEN'' := Lib.hid (jobC_len ({ j with state := how, fin := now }))
  have HONE'' := Lib.hid (jobC_one ({ j with state := how, fin := now }))
  have HNE := Lib.hid (show ∀ x, stopJ j now how = x → stopJ j now how = x from fun _ h => h)
  generalize hbj : stopJ j now how = bj at HNE ⊢
  have HBJ := Lib.hid hbj
  clear hbj HNE
  have HLEN := Lib.hid (jobC_len j)
  have k8 : (jobC j).toArray[8]? = some (.int .i64 j.state) := rfl
  have k12 : (jobC j).toArray[12]? = some (.int .i64 j.tries) := rfl
  have k15 : (jobC j).toArray[15]? = some (.int .i64 j.start) := rfl
  have k16 : (jobC j).toArray[16]? = some (.int .i64 j.fin) := rfl
  generalize hl' : jobC ({ j with start := now, tries := 0, state := how, fin := now }) = l' at *
  have HL' := Lib.hid hl'
  clear hl'
  generalize hl'' : jobC ({ j with state := how, fin := now }) = l'' at *
  have HL'' := Lib.hid hl''
  clear hl''
  generalize hl : jobC j = l at *
  clear hl
  go_enter Try.func10, Try.ntmps10
  go_upto_region 1 with fail
  generalize hU : (w.alloc (.cells l.toArray 29)).alloc (.cells #[.int .i64 0, .int .i64 0, .int .i64 0, .int .i64 0, .int .i64 0, .int .i64 0, .int .i64 0, .bool false, .int .i64 0, .int .i64 0, .int .i64 0, .int .i64 0, .int .i64 0, .int .u64 0, .int .u64 0, .int .i64 0, .int .i64 0] 29) = U
  have hC : U.heap[w.heap.size]? = some (.cells l.toArray 29 (0, 0)) := by rw [← hU]; exact ((below_alloc (Below.refl _ _) _).block _ (by simp)).trans (World.alloc_heap_new w _)
  have hZ : U.heap[w.heap.size + 1]? = some (.cells #[.int .i64 0, .int .i64 0, .int .i64 0, .int .i64 0, .int .i64 0, .int .i64 0, .int .i64 0, .bool false, .int .i64 0, .int .i64 0, .int .i64 0, .int .i64 0, .int .i64 0, .int .u64 0, .int .u64 0, .int .i64 0, .int .i64 0] 29 (0, 0)) := by
    rw [← hU]
    have := World.alloc_heap_new (w.alloc (.cells l.toArray 29)) (.cells #[.int .i64 0, .int .i64 0, .int .i64 0, .int .i64 0, .int .i64 0, .int .i64 0, .int .i64 0, .bool false, .int .i64 0, .int .i64 0, .int .i64 0, .int .i64 0, .int .i64 0, .int .u64 0, .int .u64 0, .int .i64 0, .int .i64 0] 29)
    rwa [show (w.alloc (.cells l.toArray 29)).heap.size = w.heap.size + 1 by simp] at this
  have HB := Lib.hid (show Below w.heap.size w U by rw [← hU]; exact (by repeat (first | exact Below.refl _ _ | assumption | refine below_drewN ?_ _ | refine Below.drew ?_ | refine below_alloc ?_ _ | refine Below.alloc ?_ (by first | omega | (simp; done) | (simp; omega)) _ | refine Below.setCell ?_ (Below.size (by assumption)) _ | refine Below.setCell ?_ (by first | omega | (simp; done) | (simp; omega)) _ | (refine Below.trans ?_ (Below.mono (by assumption) (by first | omega | (simp; done) | (simp; omega)))) | refine below_next ?_ (by assumption))))
  have HS := Lib.hid (show U.heap.size = w.heap.size + 2 by rw [← hU]; simp)
  clear hU
  have HC := Lib.hid hC
  have HZ := Lib.hid hZ
  clear hC hZ
  have HK8 := Lib.hid k8
  have HK12 := Lib.hid k12
  have HK15 := Lib.hid k15
  have HK16 := Lib.hid k16
  clear k8 k12 k15 k16
  cases r : rightB j with
  | false =>
    have E := Lib.hid (show bj = (job0, 11) by rw [← HBJ.out]; unfold stopJ; rw [r]; rfl)
    go_upto_region 1 with fail
    refine wp_region_lit ?_
    refine wpList_load_all rfl 29 _ rfl (w.heap.size) l _ (by go_simp) HC.out Try.underlying29 rfl (by rw [HLEN.out]; kernel_rfl) ?_
    refine wpList_enter rfl (by go_simp) (KR.out false r U) ?_
    rintro e w2 ⟨rfl, hb2⟩
    refine ⟨_, rfl, ?_⟩
    have hle := hb2.size
    have HC2 := Lib.hid ((hb2.block _ (Array.getElem?_eq_some_iff.1 HC.out).1).trans HC.out)
    have HZ2 := Lib.hid ((hb2.block _ (Array.getElem?_eq_some_iff.1 HZ.out).1).trans HZ.out)
    have HB2 := Lib.hid (below_next HB.out hb2)
    clear hb2 hle
    go_upto_region 2 with fail
    refine wp_region_lit ?_
    refine wpList_yield (w' := w2) (v := .agg (jobC job0).toArray) rfl (by go_simp; rfl) ?_
    refine wpList_store_all rfl 29 _ _ rfl (w.heap.size + 1) (T := 29) (jobC job0) (by go_simp) (by go_simp) HZ2.out rfl (by kernel_rfl) rfl ?_
    intro w9 hw9
    have HW9 := Lib.hid hw9.there
    have HB9 := Lib.hid (hw9.below HB2.out (by omega))
    clear hw9
    go_wp2_with fail
    exact bodyPost_ret (results_all2 (jobC job0) _ Try.results10 (by go_simp) HW9.out Try.underlying29 rfl (by kernel_rfl)) rfl ⟨by rw [E.out]; rfl, HB9.out⟩
  | true =>
    obtain ⟨hs0, hs5⟩ := right_state r
    go_upto_region 1 with fail
    refine wp_region_lit ?_
    refine wpList_load_all rfl 29 _ rfl (w.heap.size) l _ (by go_simp) HC.out Try.underlying29 rfl (by rw [HLEN.out]; kernel_rfl) ?_
    refine wpList_enter rfl (by go_simp) (KR.out true r U) ?_
    rintro e w2 ⟨rfl, hb2⟩
    refine ⟨_, rfl, ?_⟩
    have hle := hb2.size
    have HC2 := Lib.hid ((hb2.block _ (Array.getElem?_eq_some_iff.1 HC.out).1).trans HC.out)
    have HZ2 := Lib.hid ((hb2.block _ (Array.getElem?_eq_some_iff.1 HZ.out).1).trans HZ.out)
    have HB2 := Lib.hid (below_next HB.out hb2)
    clear hb2 hle
    by_cases hlo : how < 2
    case pos =>
      have hd0 : decide (how < 2) = true := decide_eq_true hlo
      have hi : inI how 2 5 = false := by unfold inI; rw [decide_eq_false (show ¬ 2 ≤ how by omega)]; rfl
      have E := Lib.hid (show bj = (job0, 2) by rw [← HBJ.out]; unfold stopJ; rw [r, hi]; rfl)
      go_upto_region 4 with fail
      refine wp_region_lit ?_
      refine wpList_yield (w' := w2) (v := .agg (jobC job0).toArray) rfl (by go_simp; rfl) ?_
      refine wpList_store_all rfl 29 _ _ rfl (w.heap.size + 1) (T := 29) (jobC job0) (by go_simp) (by go_simp) HZ2.out rfl (by kernel_rfl) rfl ?_
      intro w9 hw9
      have HW9 := Lib.hid hw9.there
      have HB9 := Lib.hid (hw9.below HB2.out (by omega))
      clear hw9
      go_wp2_with fail
      exact bodyPost_ret (results_all2 (jobC job0) _ Try.results10 (by go_simp) HW9.out Try.underlying29 rfl (by kernel_rfl)) rfl ⟨by rw [E.out]; rfl, HB9.out⟩
    case neg =>
    have hd0 : decide (how < 2) = false := decide_eq_false hlo
    by_cases hhi : 5 < how
    case pos =>
      have hd1 : decide (how > 5) = true := decide_eq_true hhi
      have hi : inI how 2 5 = false := by unfold inI; rw [decide_eq_false (show ¬ how ≤ 5 by omega)]; simp
      have E := Lib.hid (show bj = (job0, 2) by rw [← HBJ.out]; unfold stopJ; rw [r, hi]; rfl)
      go_upto_region 4 with fail
      refine wp_region_lit ?_
      refine wpList_yield (w' := w2) (v := .agg (jobC job0).toArray) rfl (by go_simp; rfl) ?_
      refine wpList_store_all rfl 29 _ _ rfl (w.heap.size + 1) (T := 29) (jobC job0) (by go_simp) (by go_simp) HZ2.out rfl (by kernel_rfl) rfl ?_
      intro w9 hw9
      have HW9 := Lib.hid hw9.there
      have HB9 := Lib.hid (hw9.below HB2.out (by omega))
      clear hw9
      go_wp2_with fail
      exact bodyPost_ret (results_all2 (jobC job0) _ Try.results10 (by go_simp) HW9.out Try.underlying29 rfl (by kernel_rfl)) rfl ⟨by rw [E.out]; rfl, HB9.out⟩
    case neg =>
    have hd1 : decide (how > 5) = false := decide_eq_false hhi
    have hi : inI how 2 5 = true := by unfold inI; rw [decide_eq_true (show 2 ≤ how by omega), decide_eq_true (show how ≤ 5 by omega)]; rfl
    go_upto_region 5 with fail
    clear hd0 hd1
    have c8 := cell_of_block (o := 8) HC2.out HK8.out
    by_cases hov : 1 < j.state
    case pos =>
      have hd2 : decide (j.state > 1) = true := decide_eq_true hov
      have ho : overB j = true := by unfold overB inI; rw [decide_eq_true (show 2 ≤ j.state by omega), decide_eq_true (show j.state ≤ 5 by omega)]; rfl
      have E := Lib.hid (show bj = (job0, 16) by rw [← HBJ.out]; unfold stopJ; rw [r, hi, ho]; rfl)
      go_upto_region 6 with fail
      refine wp_region_lit ?_
      refine wpList_yield (w' := w2) (v := .agg (jobC job0).toArray) rfl (by go_simp; rfl) ?_
      refine wpList_store_all rfl 29 _ _ rfl (w.heap.size + 1) (T := 29) (jobC job0) (by go_simp) (by go_simp) HZ2.out rfl (by kernel_rfl) rfl ?_
      intro w9 hw9
      have HW9 := Lib.hid hw9.there
      have HB9 := Lib.hid (hw9.below HB2.out (by omega))
      clear hw9
      go_wp2_with fail
      exact bodyPost_ret (results_all2 (jobC job0) _ Try.results10 (by go_simp) HW9.out Try.underlying29 rfl (by kernel_rfl)) rfl ⟨by rw [E.out]; rfl, HB9.out⟩
    case neg =>
    have ho : overB j = false := by unfold overB inI; rw [decide_eq_false (show ¬ 2 ≤ j.state by omega)]; rfl
    by_cases h0 : j.state = 0
    case pos =>
      rw [h0] at c8
      have hs : (j.state == 0) = true := beq_iff_eq.2 h0
      cases h2 : (how == 2) with
      | true =>
        have E := Lib.hid (show bj = (job0, 16) by rw [← HBJ.out]; unfold stopJ; rw [r, hi, ho, hs, h2]; rfl)
        go_upto_region 6 with fail
        refine wp_region_lit ?_
        refine wpList_yield (w' := w2) (v := .agg (jobC job0).toArray) rfl (by go_simp; rfl) ?_
        refine wpList_store_all rfl 29 _ _ rfl (w.heap.size + 1) (T := 29) (jobC job0) (by go_simp) (by go_simp) HZ2.out rfl (by kernel_rfl) rfl ?_
        intro w9 hw9
        have HW9 := Lib.hid hw9.there
        have HB9 := Lib.hid (hw9.below HB2.out (by omega))
        clear hw9
        go_wp2_with fail
        exact bodyPost_ret (results_all2 (jobC job0) _ Try.results10 (by go_simp) HW9.out Try.underlying29 rfl (by kernel_rfl)) rfl ⟨by rw [E.out]; rfl, HB9.out⟩
      | false =>
        cases h5 : (how == 5) with
        | true =>
          have E := Lib.hid (show bj = (job0, 16) by rw [← HBJ.out]; unfold stopJ; rw [r, hi, ho, hs, h2, h5]; rfl)
          go_upto_region 6 with fail
          refine wp_region_lit ?_
          refine wpList_yield (w' := w2) (v := .agg (jobC job0).toArray) rfl (by go_simp; rfl) ?_
          refine wpList_store_all rfl 29 _ _ rfl (w.heap.size + 1) (T := 29) (jobC job0) (by go_simp) (by go_simp) HZ2.out rfl (by kernel_rfl) rfl ?_
          intro w9 hw9
          have HW9 := Lib.hid hw9.there
          have HB9 := Lib.hid (hw9.below HB2.out (by omega))
          clear hw9
          go_wp2_with fail
          exact bodyPost_ret (results_all2 (jobC job0) _ Try.results10 (by go_simp) HW9.out Try.underlying29 rfl (by kernel_rfl)) rfl ⟨by rw [E.out]; rfl, HB9.out⟩
        | false =>
          have hll : lateB j now = true ∨ lateB j now = false := by cases lateB j now; exact .inr rfl; exact .inl rfl
          rcases hll with hla | hla
          · go_upto_region 7 with fail
            refine wp_region_lit ?_
            refine wpList_load_all rfl 29 _ rfl (w.heap.size) l _ (by go_simp) HC2.out Try.underlying29 rfl (by rw [HLEN.out]; kernel_rfl) ?_
            refine wpList_yield (w' := w2) (v := .int .i64 now) rfl (by first | (go_simp; done) | (go_simp; rfl)) ?_
            refine wpList_enter rfl (by go_simp) (KL.out true hla w2) ?_
            rintro e w6 ⟨rfl, hb2⟩
            refine ⟨_, rfl, ?_⟩
            have hle := hb2.size
            have HC6 := Lib.hid ((hb2.block _ (Array.getElem?_eq_some_iff.1 HC2.out).1).trans HC2.out)
            have HZ6 := Lib.hid ((hb2.block _ (Array.getElem?_eq_some_iff.1 HZ2.out).1).trans HZ2.out)
            have HB6 := Lib.hid (below_next HB2.out hb2)
            clear hb2 hle
            clear c8
            have E := Lib.hid (show bj = (job0, 18) by rw [← HBJ.out]; unfold stopJ; rw [r, hi, ho, hs, h2, h5, hla]; rfl)
            go_upto_region 8 with fail
            refine wp_region_lit ?_
            refine wpList_yield (w' := w6) (v := .agg (jobC job0).toArray) rfl (by go_simp; rfl) ?_
            refine wpList_store_all rfl 29 _ _ rfl (w.heap.size + 1) (T := 29) (jobC job0) (by go_simp) (by go_simp) HZ6.out rfl (by kernel_rfl) rfl ?_
            intro w9 hw9
            have HW9 := Lib.hid hw9.there
            have HB9 := Lib.hid (hw9.below HB6.out (by omega))
            clear hw9
            go_wp2_with fail
            exact bodyPost_ret (results_all2 (jobC job0) _ Try.results10 (by go_simp) HW9.out Try.underlying29 rfl (by kernel_rfl)) rfl ⟨by rw [E.out]; rfl, HB9.out⟩
          · go_upto_region 7 with fail
            refine wp_region_lit ?_
            refine wpList_load_all rfl 29 _ rfl (w.heap.size) l _ (by go_simp) HC2.out Try.underlying29 rfl (by rw [HLEN.out]; kernel_rfl) ?_
            refine wpList_yield (w' := w2) (v := .int .i64 now) rfl (by first | (go_simp; done) | (go_simp; rfl)) ?_
            refine wpList_enter rfl (by go_simp) (KL.out false hla w2) ?_
            rintro e w6 ⟨rfl, hb2⟩
            refine ⟨_, rfl, ?_⟩
            have hle := hb2.size
            have HC6 := Lib.hid ((hb2.block _ (Array.getElem?_eq_some_iff.1 HC2.out).1).trans HC2.out)
            have HZ6 := Lib.hid ((hb2.block _ (Array.getElem?_eq_some_iff.1 HZ2.out).1).trans HZ2.out)
            have HB6 := Lib.hid (below_next HB2.out hb2)
            clear hb2 hle
            clear c8
            have E := Lib.hid (show bj = ({ j with start := now, tries := 0, state := how, fin := now }, 0) by rw [← HBJ.out]; unfold stopJ endJ; rw [r, hi, ho, hs, h2, h5, hla]; rfl)
            have c8 := cell_of_block (o := 8) HC6.out HK8.out
            have c12 := cell_of_block (o := 12) HC6.out HK12.out
            have c15 := cell_of_block (o := 15) HC6.out HK15.out
            have c16 := cell_of_block (o := 16) HC6.out HK16.out
            have f15 := free_of_block 15 HC6.out
            have f12 := free_of_block 12 HC6.out
            have f8 := free_of_block 8 HC6.out
            have f16 := free_of_block 16 HC6.out
            rw [h0] at c8
            go_upto_region 14 with fail
            have hW := ((((wrote_refl HC6.out).set 15 (.int .i64 now)).set 12 (.int .i64 0)).set 8 (.int .i64 how)).set 16 (.int .i64 now)
            rw [HSET.out] at hW
            have HV := Lib.hid hW.there
            have HZV := Lib.hid ((hW.rest (w.heap.size + 1) (by omega)).trans HZ6.out)
            have HBV := Lib.hid (hW.below HB6.out (Nat.le_refl _))
            clear hW c8 c12 c15 c16 f15 f12 f8 f16
            generalize ((((w6).setCell ⟨w.heap.size, 15, none⟩ (.int .i64 now)).setCell ⟨w.heap.size, 12, none⟩ (.int .i64 0)).setCell ⟨w.heap.size, 8, none⟩ (.int .i64 how)).setCell ⟨w.heap.size, 16, none⟩ (.int .i64 now) = V at *
            refine wp_region_lit ?_
            refine wpList_load_all rfl 29 _ rfl (w.heap.size) l' _ (by go_simp) HV.out Try.underlying29 rfl (by rw [HLEN'.out]; kernel_rfl) ?_
            refine wpList_store_all rfl 29 _ _ rfl (w.heap.size + 1) (T := 29) l' (by go_simp) (by go_simp) HZV.out (by rw [HLEN'.out]; rfl) (by rw [HLEN'.out]; kernel_rfl) HONE'.out ?_
            intro w9 hw9
            have HW9 := Lib.hid hw9.there
            have HB9 := Lib.hid (hw9.below HBV.out (by omega))
            clear hw9
            go_wp2_with fail
            exact bodyPost_ret (results_all2 l' _ Try.results10 (by go_simp) HW9.out Try.underlying29 rfl (by rw [HLEN'.out]; kernel_rfl)) rfl ⟨by rw [E.out, ← HL'.out]; first | done | rfl, HB9.out⟩
    case neg =>
      have h1 : j.state = 1 := by omega
      rw [h1] at c8
      have hs : (j.state == 0) = false := beq_eq_false_iff_ne.2 h0
      have hs1 : (j.state == 1) = true := beq_iff_eq.2 h1
      have hll : lateB j now = true ∨ lateB j now = false := by cases lateB j now; exact .inr rfl; exact .inl rfl
      rcases hll with hla | hla
      · go_upto_region 7 with fail
        refine wp_region_lit ?_
        refine wpList_load_all rfl 29 _ rfl (w.heap.size) l _ (by go_simp) HC2.out Try.underlying29 rfl (by rw [HLEN.out]; kernel_rfl) ?_
        refine wpList_yield (w' := w2) (v := .int .i64 now) rfl (by first | (go_simp; done) | (go_simp; rfl)) ?_
        refine wpList_enter rfl (by go_simp) (KL.out true hla w2) ?_
        rintro e w6 ⟨rfl, hb2⟩
        refine ⟨_, rfl, ?_⟩
        have hle := hb2.size
        have HC6 := Lib.hid ((hb2.block _ (Array.getElem?_eq_some_iff.1 HC2.out).1).trans HC2.out)
        have HZ6 := Lib.hid ((hb2.block _ (Array.getElem?_eq_some_iff.1 HZ2.out).1).trans HZ2.out)
        have HB6 := Lib.hid (below_next HB2.out hb2)
        clear hb2 hle
        clear c8
        have E := Lib.hid (show bj = (job0, 18) by rw [← HBJ.out]; unfold stopJ; rw [r, hi, ho, hs, hla]; rfl)
        go_upto_region 8 with fail
        refine wp_region_lit ?_
        refine wpList_yield (w' := w6) (v := .agg (jobC job0).toArray) rfl (by go_simp; rfl) ?_
        refine wpList_store_all rfl 29 _ _ rfl (w.heap.size + 1) (T := 29) (jobC job0) (by go_simp) (by go_simp) HZ6.out rfl (by kernel_rfl) rfl ?_
        intro w9 hw9
        have HW9 := Lib.hid hw9.there
        have HB9 := Lib.hid (hw9.below HB6.out (by omega))
        clear hw9
        go_wp2_with fail
        exact bodyPost_ret (results_all2 (jobC job0) _ Try.results10 (by go_simp) HW9.out Try.underlying29 rfl (by kernel_rfl)) rfl ⟨by rw [E.out]; rfl, HB9.out⟩
      · go_upto_region 7 with fail
        refine wp_region_lit ?_
        refine wpList_load_all rfl 29 _ rfl (w.heap.size) l _ (by go_simp) HC2.out Try.underlying29 rfl (by rw [HLEN.out]; kernel_rfl) ?_
        refine wpList_yield (w' := w2) (v := .int .i64 now) rfl (by first | (go_simp; done) | (go_simp; rfl)) ?_
        refine wpList_enter rfl (by go_simp) (KL.out false hla w2) ?_
        rintro e w6 ⟨rfl, hb2⟩
        refine ⟨_, rfl, ?_⟩
        have hle := hb2.size
        have HC6 := Lib.hid ((hb2.block _ (Array.getElem?_eq_some_iff.1 HC2.out).1).trans HC2.out)
        have HZ6 := Lib.hid ((hb2.block _ (Array.getElem?_eq_some_iff.1 HZ2.out).1).trans HZ2.out)
        have HB6 := Lib.hid (below_next HB2.out hb2)
        clear hb2 hle
        clear c8
        have E := Lib.hid (show bj = ({ j with state := how, fin := now }, 0) by rw [← HBJ.out]; unfold stopJ endJ; rw [r, hi, ho, hs, hla, hs1]; rfl)
        have c8 := cell_of_block (o := 8) HC6.out HK8.out
        have c16 := cell_of_block (o := 16) HC6.out HK16.out
        have f8 := free_of_block 8 HC6.out
        have f16 := free_of_block 16 HC6.out
        rw [h1] at c8
        go_upto_region 14 with fail
        have hW := ((wrote_refl HC6.out).set 8 (.int .i64 how)).set 16 (.int .i64 now)
        rw [HSETb.out] at hW
        have HV := Lib.hid hW.there
        have HZV := Lib.hid ((hW.rest (w.heap.size + 1) (by omega)).trans HZ6.out)
        have HBV := Lib.hid (hW.below HB6.out (Nat.le_refl _))
        clear hW c8 c16 f8 f16
        generalize ((w6).setCell ⟨w.heap.size, 8, none⟩ (.int .i64 how)).setCell ⟨w.heap.size, 16, none⟩ (.int .i64 now) = V at *
        refine wp_region_lit ?_
        refine wpList_load_all rfl 29 _ rfl (w.heap.size) l'' _ (by go_simp) HV.out Try.underlying29 rfl (by rw [HLEN''.out]; kernel_rfl) ?_
        refine wpList_store_all rfl 29 _ _ rfl (w.heap.size + 1) (T := 29) l'' (by go_simp) (by go_simp) HZV.out (by rw [HLEN''.out]; rfl) (by rw [HLEN''.out]; kernel_rfl) HONE''.out ?_
        intro w9 hw9
        have HW9 := Lib.hid hw9.there
        have HB9 := Lib.hid (hw9.below HBV.out (by omega))
        clear hw9
        go_wp2_with fail
        exact bodyPost_ret (results_all2 l'' _ Try.results10 (by go_simp) HW9.out Try.underlying29 rfl (by rw [HLEN''.out]; kernel_rfl)) rfl ⟨by rw [E.out, ← HL''.out]; first | done | rfl, HB9.out⟩
end Go.Proofs.Ytgeldpfojmkdbaa
