/- Whether a job may be (layer 15): Right walked at any job. No condition. -/
import Derived.Test.YtgeldpfojmkdbaaJc
namespace Go.Proofs.Ytgeldpfojmkdbaa
set_option linter.unusedVariables false
open Go.ChangeShapes Go.WideShapes Go.ChangeAt Go.RowKit
attribute [local go_sem ↓] Go.wp_at_zero Go.wp_at_succ comesTo_value_eq comesTo_skip_eq comesTo_enter_eq Rl.comesToR_value_eq Rl.comesToR_skip_eq Rl.comesToR_enter_eq

theorem index5 (a b c d e : Int) (k : Nat) (hk : k < 5) (w : World) : (Instr.index 45 (.agg #[.int .i64 a, .int .i64 b, .int .i64 c, .int .i64 d, .int .i64 e]) (.int .i64 (k : Int))).run Try.prog w = .ok (.int .i64 ([a, b, c, d, e].getD k 0)) w := by
  rcases (show k = 0 ∨ k = 1 ∨ k = 2 ∨ k = 3 ∨ k = 4 by omega) with rfl | rfl | rfl | rfl | rfl <;> kernel_rfl
set_option maxRecDepth 100000 in
set_option maxHeartbeats 4000000 in
theorem right_any (j : JobV) (w : World) : Calls Try.prog 5 #[.agg (jobC j).toArray] w fun e w' => e = .returned (.bool (rightB j)) ∧ Below w.heap.size w w' := by
  have KS := Lib.hid (fun W => state_any j W)
  have HIX := Lib.hid (fun k hk W => index5 j.sent j.plan j.promise j.start j.fin k hk W)
  have HTS := Lib.hid (show timesJ j = [j.sent, j.plan, j.promise, j.start, j.fin] from rfl)
  have hmx : Try.prog.follows .mixedOrders = true := by kernel_rfl
  have HLEN := Lib.hid (jobC_len j)
  have k0 : (jobC j).toArray[0]? = some (.int .i64 j.id) := rfl
  have k1 : (jobC j).toArray[1]? = some (.int .i64 j.user) := rfl
  have k2 : (jobC j).toArray[2]? = some (.int .i64 j.part) := rfl
  have k3 : (jobC j).toArray[3]? = some (.int .i64 j.width) := rfl
  have k4 : (jobC j).toArray[4]? = some (.int .i64 j.limit) := rfl
  have k5 : (jobC j).toArray[5]? = some (.int .i64 j.nice) := rfl
  have k6 : (jobC j).toArray[6]? = some (.int .i64 j.after) := rfl
  have k9 : (jobC j).toArray[9]? = some (.int .i64 j.sent) := rfl
  have k10 : (jobC j).toArray[10]? = some (.int .i64 j.plan) := rfl
  have k11 : (jobC j).toArray[11]? = some (.int .i64 j.promise) := rfl
  have k12 : (jobC j).toArray[12]? = some (.int .i64 j.tries) := rfl
  have k15 : (jobC j).toArray[15]? = some (.int .i64 j.start) := rfl
  have k16 : (jobC j).toArray[16]? = some (.int .i64 j.fin) := rfl
  generalize hl : jobC j = l at *
  clear hl
  go_enter Try.func5, Try.ntmps5
  go_upto_region 1 with fail
  have hC := World.alloc_heap_new w (.cells l.toArray 26)
  have HB := Lib.hid (below_alloc (Below.refl _ w) (.cells l.toArray 26))
  have l0 : w.heap.size < (w.alloc (.cells l.toArray 26)).heap.size := by simp
  generalize w.alloc (.cells l.toArray 26) = U at *
  have c0 := cell_of_block (o := 0) hC k0
  have c1 := cell_of_block (o := 1) hC k1
  have c2 := cell_of_block (o := 2) hC k2
  have c3 := cell_of_block (o := 3) hC k3
  have c4 := cell_of_block (o := 4) hC k4
  have c5 := cell_of_block (o := 5) hC k5
  have c6 := cell_of_block (o := 6) hC k6
  have c9 := cell_of_block (o := 9) hC k9
  have c10 := cell_of_block (o := 10) hC k10
  have c11 := cell_of_block (o := 11) hC k11
  have c12 := cell_of_block (o := 12) hC k12
  have c15 := cell_of_block (o := 15) hC k15
  have c16 := cell_of_block (o := 16) hC k16
  have HC := Lib.hid hC
  have L0 := Lib.hid l0
  have HK0 := Lib.hid k0
  have HK1 := Lib.hid k1
  have HK2 := Lib.hid k2
  have HK3 := Lib.hid k3
  have HK4 := Lib.hid k4
  have HK5 := Lib.hid k5
  have HK6 := Lib.hid k6
  have HK9 := Lib.hid k9
  have HK10 := Lib.hid k10
  have HK11 := Lib.hid k11
  have HK12 := Lib.hid k12
  have HK15 := Lib.hid k15
  have HK16 := Lib.hid k16
  clear hC k0 k1 k2 k3 k4 k5 k6 k9 k10 k11 k12 k15 k16
  cases h1 : inI j.id 1 1073741824 with
  | false =>
    have E := Lib.hid (show rightB j = false by unfold rightB numsB; rw [h1]; rfl)
    go_wp2_with (go_at_call 15; ((with_reducible refine (within_is (by assumption) _).mono ?_)); rintro e w' ⟨rfl, rfl⟩)
    go_ret
    exact ⟨by rw [E.out]; rfl, HB.out⟩
  | true =>
    cases h2 : inI j.user 1 16 with
    | false =>
      have E := Lib.hid (show rightB j = false by unfold rightB numsB; rw [h1, h2]; rfl)
      go_wp2_with (go_at_call 15; ((with_reducible refine (within_is (by assumption) _).mono ?_)); rintro e w' ⟨rfl, rfl⟩)
      go_ret
      exact ⟨by rw [E.out]; rfl, HB.out⟩
    | true =>
      cases h3 : inI j.part 0 3 with
      | false =>
        have E := Lib.hid (show rightB j = false by unfold rightB numsB; rw [h1, h2, h3]; rfl)
        go_wp2_with (go_at_call 15; ((with_reducible refine (within_is (by assumption) _).mono ?_)); rintro e w' ⟨rfl, rfl⟩)
        go_ret
        exact ⟨by rw [E.out]; rfl, HB.out⟩
      | true =>
        cases h4 : inI j.width 1 64 with
        | false =>
          have E := Lib.hid (show rightB j = false by unfold rightB numsB; rw [h1, h2, h3, h4]; rfl)
          go_wp2_with (go_at_call 15; ((with_reducible refine (within_is (by assumption) _).mono ?_)); rintro e w' ⟨rfl, rfl⟩)
          go_ret
          exact ⟨by rw [E.out]; rfl, HB.out⟩
        | true =>
          have hn : numsB j = true := by unfold numsB; rw [h1, h2, h3, h4]; rfl
          obtain ⟨hi1, hi2⟩ := inI_yes h1
          cases m1 : decide (1 ≤ j.limit) with
          | false =>
            have E := Lib.hid (show rightB j = false by unfold rightB; rw [hn]; unfold moreB; rw [m1]; rfl)
            have dm1 : decide (j.limit < 1) = true := decide_eq_true (by have := of_decide_eq_false m1; omega)
            go_wp2_with (go_at_call 15; ((with_reducible refine (within_is (by assumption) _).mono ?_)); rintro e w' ⟨rfl, rfl⟩)
            go_ret
            exact ⟨by rw [E.out]; rfl, HB.out⟩
          | true =>
            have dm1 : decide (j.limit < 1) = false := decide_eq_false (by have := of_decide_eq_true m1; omega)
            cases m2 : decide (j.limit ≤ 1048576) with
            | false =>
              have E := Lib.hid (show rightB j = false by unfold rightB; rw [hn]; unfold moreB; rw [m1, m2]; rfl)
              have dm2 : decide (j.limit > 1048576) = true := decide_eq_true (by have := of_decide_eq_false m2; omega)
              go_wp2_with (go_at_call 15; ((with_reducible refine (within_is (by assumption) _).mono ?_)); rintro e w' ⟨rfl, rfl⟩)
              go_ret
              exact ⟨by rw [E.out]; rfl, HB.out⟩
            | true =>
              have dm2 : decide (j.limit > 1048576) = false := decide_eq_false (by have := of_decide_eq_true m2; omega)
              cases m3 : inI j.nice (-100) 100 with
              | false =>
                have E := Lib.hid (show rightB j = false by unfold rightB; rw [hn]; unfold moreB; rw [m1, m2, m3]; rfl)
                go_wp2_with (go_at_call 15; ((with_reducible refine (within_is (by assumption) _).mono ?_)); rintro e w' ⟨rfl, rfl⟩)
                go_ret
                exact ⟨by rw [E.out]; rfl, HB.out⟩
              | true =>
                cases m4 : inI j.after 0 (j.id - 1) with
                | false =>
                  have E := Lib.hid (show rightB j = false by unfold rightB; rw [hn]; unfold moreB; rw [m1, m2, m3, m4]; rfl)
                  go_wp2_with (go_at_call 15; ((with_reducible refine (within_is (by assumption) _).mono ?_)); rintro e w' ⟨rfl, rfl⟩)
                  go_ret
                  exact ⟨by rw [E.out]; rfl, HB.out⟩
                | true =>
                  cases m5 : inI j.tries 0 9 with
                  | false =>
                    have E := Lib.hid (show rightB j = false by unfold rightB; rw [hn]; unfold moreB; rw [m1, m2, m3, m4, m5]; rfl)
                    go_wp2_with (go_at_call 15; ((with_reducible refine (within_is (by assumption) _).mono ?_)); rintro e w' ⟨rfl, rfl⟩)
                    go_ret
                    exact ⟨by rw [E.out]; rfl, HB.out⟩
                  | true =>
                    have hm : moreB j = true := by unfold moreB; rw [m1, m2, m3, m4, m5]; rfl
                    have E0 := Lib.hid (show rightB j = ((timesJ j).all timeB && stateB j) by unfold rightB; rw [hn, hm]; rfl)
                    clear hn hm
                    have hts : (timesJ j).length = 5 := rfl
                    rw [← HTS.out] at HIX
                    generalize timesJ j = ts at *
                    have HTL := Lib.hid hts
                    clear hts HTS
                    go_wp2_with (first | fail | (go_at_call 15; ((with_reducible refine (within_is (by assumption) _).mono ?_)); rintro e w' ⟨rfl, rfl⟩))
                    go_loopw [67] (fun i wr => ∃ k : Nat, k ≤ 5 ∧ i = .int .i64 k ∧ (∀ t ∈ ts.take k, timeB t = true) ∧ wr = U) (fun i _ => 5 - (intOf i).toNat)
                    case atStart => exact ⟨0, Nat.zero_le _, rfl, (fun t ht => by cases ht), rfl⟩
                    case round =>
                      obtain ⟨k, hk, rfl, hall, rfl⟩ := hrel
                      have HA := Lib.hid hall
                      clear hall
                      by_cases hlt : k < 5
                      · have hd : decide ((k : Int) < 5) = true := decide_eq_true (by omega)
                        have hkl : k < ts.length := by rw [HTL.out]; exact hlt
                        have hix := HIX.out k hlt wr
                        have htk : ts.take (k + 1) = ts.take k ++ [ts.getD k 0] := by
                          rw [List.take_add_one]; simp [List.getD, hkl]
                        have hmem : ts.getD k 0 ∈ ts := by simp [List.getD, hkl]
                        have HTK := Lib.hid htk
                        have HMEM := Lib.hid hmem
                        clear htk hmem hkl
                        generalize ts.getD k 0 = t at *
                        cases ht : timeB t with
                        | false =>
                          have E := Lib.hid (show rightB j = false by
                            rw [E0.out, Bool.and_eq_false_iff]; left; rw [List.all_eq_false]; exact ⟨t, HMEM.out, by rw [ht]; decide⟩)
                          go_wp2_with (go_at_call 16; ((with_reducible refine (istime_is (by assumption) _).mono ?_)); rintro e w' ⟨rfl, rfl⟩)
                          go_ret
                          exact ⟨by rw [E.out]; rfl, HB.out⟩
                        | true =>
                          go_wp2_with (go_at_call 16; ((with_reducible refine (istime_is (by assumption) _).mono ?_)); rintro e w' ⟨rfl, rfl⟩)
                          go_roundw
                          case rel =>
                            refine ⟨k + 1, by omega, by go_num, fun x hx => ?_, trivial⟩
                            rw [HTK.out] at hx
                            rcases List.mem_append.1 hx with hx | hx
                            · exact HA.out x hx
                            · rw [List.mem_singleton.1 hx]; exact ht
                          case measure => simp [intOf]; omega
                      · have hd : decide ((k : Int) < 5) = false := decide_eq_false (by omega)
                        have E := Lib.hid (show rightB j = stateB j by
                          rw [E0.out, List.all_eq_true.2 (fun x hx => HA.out x (by rw [List.take_of_length_le (by rw [HTL.out]; omega)]; exact hx)), Bool.true_and])
                        go_upto_region 11 with fail
                        refine wp_region_lit ?_
                        refine wpList_load_all rfl 26 _ rfl w.heap.size l _ (by go_simp) HC.out Try.underlying26 rfl (by rw [HLEN.out]; kernel_rfl) ?_
                        refine wpList_enter rfl (by go_simp) (KS.out wr) ?_
                        rintro e w2 ⟨rfl, hb2⟩
                        refine ⟨_, rfl, ?_⟩
                        have HB2 := Lib.hid (below_next HB.out hb2)
                        clear hb2
                        go_wp2
                        go_ret
                        exact ⟨by rw [E.out]; rfl, HB2.out⟩

theorem right_is {j : JobV} {b : Bool} (h : rightB j = b) (w : World) : Calls Try.prog 5 #[.agg (jobC j).toArray] w fun e w' => e = .returned (.bool b) ∧ Below w.heap.size w w' := h ▸ right_any j w
end Go.Proofs.Ytgeldpfojmkdbaa
