/- The walk of BitsSets, on what the known sets (one) come to. -/
import Derived.Test.YtkllhnfnkgkelaaDoorBitsJoin
namespace Go.Proofs.YtkllhnfnkgkelaaDoor
set_option linter.unusedVariables false
open Go.ChangeShapes Go.WideShapes Go.ChangeAt Go.RowKit
attribute [local go_sem ↓] Go.wp_at_zero Go.wp_at_succ

theorem has_is (s : NSet) (n : Int) (x : Bool) (h : hasI s n = x) (w : World) : Calls Tryd.prog 18 #[.int .u64 (nv s), .int .i64 n] w fun e w' => e = .returned (.bool x) ∧ w = w' := by
  have := has_any s n w
  rw [h] at this
  exact this
theorem blk_last (w : World) (cs : Array Value) (T : TypeId) : (w.alloc (.cells cs T)).heap[w.heap.size]? = some (.cells cs T (0, 0)) := by show (w.heap.push _)[w.heap.size]? = _; simp
set_option maxRecDepth 100000 in
set_option maxHeartbeats 4000000 in
theorem sets_walk (a b c : NSet) (w : World) (h1 : ∀ W, Below w.heap.size w W → Calls Tryd.prog 21 #[] W fun e w' => e = .returned (.bool true) ∧ Below W.heap.size W w') :
    Calls Tryd.prog 5 #[.int .u64 (nv a), .int .u64 (nv b), .int .u64 (nv c)] w fun e w' => e = .returned (.bool true) ∧ Below w.heap.size w w' := by
  have H1 := Lib.hid h1
  clear h1
  go_enter Tryd.func5, Tryd.ntmps5
  go_wp2_with fail
  go_loopw [7] (fun v wi => ∃ n : Int, -1 ≤ n ∧ n ≤ 66 ∧ v = .int .i64 n ∧ Below w.heap.size w wi) (fun v _ => (66 - intOf v).toNat)
  case atStart => exact ⟨-1, by omega, by omega, rfl, Below.refl _ _⟩
  case round =>
    obtain ⟨n, hn0, hn1, rfl, hbi⟩ := hrel
    have HBI := Lib.hid hbi
    clear hbi
    by_cases hlt : n < 66
    · have kA := Lib.hid (fun x h W => has_is a n x h W)
      have kB := Lib.hid (fun x h W => has_is b n x h W)
      have kC := Lib.hid (fun x h W => has_is c n x h W)
      have kN := Lib.hid (fun x h W => has_is (a &&& b) n x ((hasI_and a b n).trans h) W)
      have kO := Lib.hid (fun x h W => has_is (a ||| b) n x ((hasI_or a b n).trans h) W)
      have kL := Lib.hid (fun x h W => has_is (a &&& ~~~b) n x ((hasI_less a b n).trans h) W)
      have kY := Lib.hid (fun x h W => has_is (a ||| b ||| c) n x ((hasI_or (a ||| b) c n).trans ((congrArg (· || hasI c n) (hasI_or a b n)).trans h)) W)
      generalize hasI a n = A at *
      generalize hasI b n = B at *
      generalize hasI c n = C at *
      cases A <;> cases B <;> cases C
      · go_wp2_with fail
        refine (kA.out false rfl _).mono ?_
        rintro e w' ⟨rfl, rfl⟩
        go_wp2_with fail
        refine (kB.out false rfl _).mono ?_
        rintro e w' ⟨rfl, rfl⟩
        go_wp2_with fail
        refine (and_any a b _).mono ?_
        rintro e w' ⟨rfl, rfl⟩
        go_wp2_with fail
        refine (kN.out false rfl _).mono ?_
        rintro e w' ⟨rfl, rfl⟩
        go_wp2_with fail
        refine (or_any a b _).mono ?_
        rintro e w' ⟨rfl, rfl⟩
        go_wp2_with fail
        refine (kO.out false rfl _).mono ?_
        rintro e w' ⟨rfl, rfl⟩
        go_wp2_with fail
        refine (less_any a b _).mono ?_
        rintro e w' ⟨rfl, rfl⟩
        go_wp2_with fail
        refine (kL.out false rfl _).mono ?_
        rintro e w' ⟨rfl, rfl⟩
        go_wp2_with fail
        refine (any_block [a, b, c] _ (orS_three a b c) (show 3 ≤ 1000 by decide) _ _ (blk_last _ _ _)).mono ?_
        rintro e w2 ⟨rfl, hb2⟩
        have HB2 := Lib.hid (below_next (below_alloc HBI.out _) hb2)
        clear hb2 HBI
        go_wp2_with fail
        refine (kY.out false rfl _).mono ?_
        rintro e w' ⟨rfl, rfl⟩
        go_wp2_with fail
        refine (kC.out false rfl _).mono ?_
        rintro e w' ⟨rfl, rfl⟩
        go_wp2_with fail
        go_roundw
        case rel => exact ⟨n + 1, by omega, by omega, by go_num, HB2.out⟩
        case measure => simp [intOf]; omega
      · go_wp2_with fail
        refine (kA.out false rfl _).mono ?_
        rintro e w' ⟨rfl, rfl⟩
        go_wp2_with fail
        refine (kB.out false rfl _).mono ?_
        rintro e w' ⟨rfl, rfl⟩
        go_wp2_with fail
        refine (and_any a b _).mono ?_
        rintro e w' ⟨rfl, rfl⟩
        go_wp2_with fail
        refine (kN.out false rfl _).mono ?_
        rintro e w' ⟨rfl, rfl⟩
        go_wp2_with fail
        refine (or_any a b _).mono ?_
        rintro e w' ⟨rfl, rfl⟩
        go_wp2_with fail
        refine (kO.out false rfl _).mono ?_
        rintro e w' ⟨rfl, rfl⟩
        go_wp2_with fail
        refine (less_any a b _).mono ?_
        rintro e w' ⟨rfl, rfl⟩
        go_wp2_with fail
        refine (kL.out false rfl _).mono ?_
        rintro e w' ⟨rfl, rfl⟩
        go_wp2_with fail
        refine (any_block [a, b, c] _ (orS_three a b c) (show 3 ≤ 1000 by decide) _ _ (blk_last _ _ _)).mono ?_
        rintro e w2 ⟨rfl, hb2⟩
        have HB2 := Lib.hid (below_next (below_alloc HBI.out _) hb2)
        clear hb2 HBI
        go_wp2_with fail
        refine (kY.out true rfl _).mono ?_
        rintro e w' ⟨rfl, rfl⟩
        go_wp2_with fail
        refine (kC.out true rfl _).mono ?_
        rintro e w' ⟨rfl, rfl⟩
        go_wp2_with fail
        go_roundw
        case rel => exact ⟨n + 1, by omega, by omega, by go_num, HB2.out⟩
        case measure => simp [intOf]; omega
      · go_wp2_with fail
        refine (kA.out false rfl _).mono ?_
        rintro e w' ⟨rfl, rfl⟩
        go_wp2_with fail
        refine (kB.out true rfl _).mono ?_
        rintro e w' ⟨rfl, rfl⟩
        go_wp2_with fail
        refine (and_any a b _).mono ?_
        rintro e w' ⟨rfl, rfl⟩
        go_wp2_with fail
        refine (kN.out false rfl _).mono ?_
        rintro e w' ⟨rfl, rfl⟩
        go_wp2_with fail
        refine (or_any a b _).mono ?_
        rintro e w' ⟨rfl, rfl⟩
        go_wp2_with fail
        refine (kO.out true rfl _).mono ?_
        rintro e w' ⟨rfl, rfl⟩
        go_wp2_with fail
        refine (less_any a b _).mono ?_
        rintro e w' ⟨rfl, rfl⟩
        go_wp2_with fail
        refine (kL.out false rfl _).mono ?_
        rintro e w' ⟨rfl, rfl⟩
        go_wp2_with fail
        refine (any_block [a, b, c] _ (orS_three a b c) (show 3 ≤ 1000 by decide) _ _ (blk_last _ _ _)).mono ?_
        rintro e w2 ⟨rfl, hb2⟩
        have HB2 := Lib.hid (below_next (below_alloc HBI.out _) hb2)
        clear hb2 HBI
        go_wp2_with fail
        refine (kY.out true rfl _).mono ?_
        rintro e w' ⟨rfl, rfl⟩
        go_wp2_with fail
        go_roundw
        case rel => exact ⟨n + 1, by omega, by omega, by go_num, HB2.out⟩
        case measure => simp [intOf]; omega
      · go_wp2_with fail
        refine (kA.out false rfl _).mono ?_
        rintro e w' ⟨rfl, rfl⟩
        go_wp2_with fail
        refine (kB.out true rfl _).mono ?_
        rintro e w' ⟨rfl, rfl⟩
        go_wp2_with fail
        refine (and_any a b _).mono ?_
        rintro e w' ⟨rfl, rfl⟩
        go_wp2_with fail
        refine (kN.out false rfl _).mono ?_
        rintro e w' ⟨rfl, rfl⟩
        go_wp2_with fail
        refine (or_any a b _).mono ?_
        rintro e w' ⟨rfl, rfl⟩
        go_wp2_with fail
        refine (kO.out true rfl _).mono ?_
        rintro e w' ⟨rfl, rfl⟩
        go_wp2_with fail
        refine (less_any a b _).mono ?_
        rintro e w' ⟨rfl, rfl⟩
        go_wp2_with fail
        refine (kL.out false rfl _).mono ?_
        rintro e w' ⟨rfl, rfl⟩
        go_wp2_with fail
        refine (any_block [a, b, c] _ (orS_three a b c) (show 3 ≤ 1000 by decide) _ _ (blk_last _ _ _)).mono ?_
        rintro e w2 ⟨rfl, hb2⟩
        have HB2 := Lib.hid (below_next (below_alloc HBI.out _) hb2)
        clear hb2 HBI
        go_wp2_with fail
        refine (kY.out true rfl _).mono ?_
        rintro e w' ⟨rfl, rfl⟩
        go_wp2_with fail
        go_roundw
        case rel => exact ⟨n + 1, by omega, by omega, by go_num, HB2.out⟩
        case measure => simp [intOf]; omega
      · go_wp2_with fail
        refine (kA.out true rfl _).mono ?_
        rintro e w' ⟨rfl, rfl⟩
        go_wp2_with fail
        refine (kB.out false rfl _).mono ?_
        rintro e w' ⟨rfl, rfl⟩
        go_wp2_with fail
        refine (and_any a b _).mono ?_
        rintro e w' ⟨rfl, rfl⟩
        go_wp2_with fail
        refine (kN.out false rfl _).mono ?_
        rintro e w' ⟨rfl, rfl⟩
        go_wp2_with fail
        refine (or_any a b _).mono ?_
        rintro e w' ⟨rfl, rfl⟩
        go_wp2_with fail
        refine (kO.out true rfl _).mono ?_
        rintro e w' ⟨rfl, rfl⟩
        go_wp2_with fail
        refine (less_any a b _).mono ?_
        rintro e w' ⟨rfl, rfl⟩
        go_wp2_with fail
        refine (kL.out true rfl _).mono ?_
        rintro e w' ⟨rfl, rfl⟩
        go_wp2_with fail
        refine (any_block [a, b, c] _ (orS_three a b c) (show 3 ≤ 1000 by decide) _ _ (blk_last _ _ _)).mono ?_
        rintro e w2 ⟨rfl, hb2⟩
        have HB2 := Lib.hid (below_next (below_alloc HBI.out _) hb2)
        clear hb2 HBI
        go_wp2_with fail
        refine (kY.out true rfl _).mono ?_
        rintro e w' ⟨rfl, rfl⟩
        go_wp2_with fail
        go_roundw
        case rel => exact ⟨n + 1, by omega, by omega, by go_num, HB2.out⟩
        case measure => simp [intOf]; omega
      · go_wp2_with fail
        refine (kA.out true rfl _).mono ?_
        rintro e w' ⟨rfl, rfl⟩
        go_wp2_with fail
        refine (kB.out false rfl _).mono ?_
        rintro e w' ⟨rfl, rfl⟩
        go_wp2_with fail
        refine (and_any a b _).mono ?_
        rintro e w' ⟨rfl, rfl⟩
        go_wp2_with fail
        refine (kN.out false rfl _).mono ?_
        rintro e w' ⟨rfl, rfl⟩
        go_wp2_with fail
        refine (or_any a b _).mono ?_
        rintro e w' ⟨rfl, rfl⟩
        go_wp2_with fail
        refine (kO.out true rfl _).mono ?_
        rintro e w' ⟨rfl, rfl⟩
        go_wp2_with fail
        refine (less_any a b _).mono ?_
        rintro e w' ⟨rfl, rfl⟩
        go_wp2_with fail
        refine (kL.out true rfl _).mono ?_
        rintro e w' ⟨rfl, rfl⟩
        go_wp2_with fail
        refine (any_block [a, b, c] _ (orS_three a b c) (show 3 ≤ 1000 by decide) _ _ (blk_last _ _ _)).mono ?_
        rintro e w2 ⟨rfl, hb2⟩
        have HB2 := Lib.hid (below_next (below_alloc HBI.out _) hb2)
        clear hb2 HBI
        go_wp2_with fail
        refine (kY.out true rfl _).mono ?_
        rintro e w' ⟨rfl, rfl⟩
        go_wp2_with fail
        go_roundw
        case rel => exact ⟨n + 1, by omega, by omega, by go_num, HB2.out⟩
        case measure => simp [intOf]; omega
      · go_wp2_with fail
        refine (kA.out true rfl _).mono ?_
        rintro e w' ⟨rfl, rfl⟩
        go_wp2_with fail
        refine (kB.out true rfl _).mono ?_
        rintro e w' ⟨rfl, rfl⟩
        go_wp2_with fail
        refine (and_any a b _).mono ?_
        rintro e w' ⟨rfl, rfl⟩
        go_wp2_with fail
        refine (kN.out true rfl _).mono ?_
        rintro e w' ⟨rfl, rfl⟩
        go_wp2_with fail
        refine (or_any a b _).mono ?_
        rintro e w' ⟨rfl, rfl⟩
        go_wp2_with fail
        refine (kO.out true rfl _).mono ?_
        rintro e w' ⟨rfl, rfl⟩
        go_wp2_with fail
        refine (less_any a b _).mono ?_
        rintro e w' ⟨rfl, rfl⟩
        go_wp2_with fail
        refine (kL.out false rfl _).mono ?_
        rintro e w' ⟨rfl, rfl⟩
        go_wp2_with fail
        refine (any_block [a, b, c] _ (orS_three a b c) (show 3 ≤ 1000 by decide) _ _ (blk_last _ _ _)).mono ?_
        rintro e w2 ⟨rfl, hb2⟩
        have HB2 := Lib.hid (below_next (below_alloc HBI.out _) hb2)
        clear hb2 HBI
        go_wp2_with fail
        refine (kY.out true rfl _).mono ?_
        rintro e w' ⟨rfl, rfl⟩
        go_wp2_with fail
        go_roundw
        case rel => exact ⟨n + 1, by omega, by omega, by go_num, HB2.out⟩
        case measure => simp [intOf]; omega
      · go_wp2_with fail
        refine (kA.out true rfl _).mono ?_
        rintro e w' ⟨rfl, rfl⟩
        go_wp2_with fail
        refine (kB.out true rfl _).mono ?_
        rintro e w' ⟨rfl, rfl⟩
        go_wp2_with fail
        refine (and_any a b _).mono ?_
        rintro e w' ⟨rfl, rfl⟩
        go_wp2_with fail
        refine (kN.out true rfl _).mono ?_
        rintro e w' ⟨rfl, rfl⟩
        go_wp2_with fail
        refine (or_any a b _).mono ?_
        rintro e w' ⟨rfl, rfl⟩
        go_wp2_with fail
        refine (kO.out true rfl _).mono ?_
        rintro e w' ⟨rfl, rfl⟩
        go_wp2_with fail
        refine (less_any a b _).mono ?_
        rintro e w' ⟨rfl, rfl⟩
        go_wp2_with fail
        refine (kL.out false rfl _).mono ?_
        rintro e w' ⟨rfl, rfl⟩
        go_wp2_with fail
        refine (any_block [a, b, c] _ (orS_three a b c) (show 3 ≤ 1000 by decide) _ _ (blk_last _ _ _)).mono ?_
        rintro e w2 ⟨rfl, hb2⟩
        have HB2 := Lib.hid (below_next (below_alloc HBI.out _) hb2)
        clear hb2 HBI
        go_wp2_with fail
        refine (kY.out true rfl _).mono ?_
        rintro e w' ⟨rfl, rfl⟩
        go_wp2_with fail
        go_roundw
        case rel => exact ⟨n + 1, by omega, by omega, by go_num, HB2.out⟩
        case measure => simp [intOf]; omega
    · have kz := Lib.hid (fun W => any_none W)
      have hcard : ((card (a &&& b) : Int) + card (a ||| b)) = card a + card b := by have := card_or a b; omega
      have ha := card_le a
      have hb := card_le b
      have hc := card_le (a &&& b)
      have hd := card_le (a ||| b)
      generalize hka : card a = ka at *
      generalize hkb : card b = kb at *
      generalize hkc : card (a &&& b) = kc at *
      generalize hkd : card (a ||| b) = kd at *
      have la := Lib.hid (fun W => len_any a W)
      have lb := Lib.hid (fun W => len_any b W)
      have lc := Lib.hid (fun W => len_any (a &&& b) W)
      have ld := Lib.hid (fun W => len_any (a ||| b) W)
      have lz := Lib.hid (fun W => or_any (a &&& ~~~b) (a &&& b) W)
      rw [less_or_and] at lz
      rw [hka] at la
      rw [hkb] at lb
      rw [hkc] at lc
      rw [hkd] at ld
      clear hka hkb hkc hkd
      go_wp2_with fail
      refine (kz.out _).mono ?_
      rintro e w' ⟨rfl, rfl⟩
      go_wp2_with fail
      refine (and_any a b _).mono ?_
      rintro e w' ⟨rfl, rfl⟩
      go_wp2_with fail
      refine (lc.out _).mono ?_
      rintro e w' ⟨rfl, rfl⟩
      go_wp2_with fail
      refine (or_any a b _).mono ?_
      rintro e w' ⟨rfl, rfl⟩
      go_wp2_with fail
      refine (ld.out _).mono ?_
      rintro e w' ⟨rfl, rfl⟩
      go_wp2_with fail
      refine (la.out _).mono ?_
      rintro e w' ⟨rfl, rfl⟩
      go_wp2_with fail
      refine (lb.out _).mono ?_
      rintro e w' ⟨rfl, rfl⟩
      go_wp2_with fail
      refine (less_any a b _).mono ?_
      rintro e w' ⟨rfl, rfl⟩
      go_wp2_with fail
      refine (and_any a b _).mono ?_
      rintro e w' ⟨rfl, rfl⟩
      go_wp2_with fail
      refine (lz.out _).mono ?_
      rintro e w' ⟨rfl, rfl⟩
      go_wp2_with fail
      refine (H1.out _ HBI.out).mono ?_
      rintro e w2 ⟨rfl, hb2⟩
      go_wp2
      go_ret
      exact ⟨rfl, below_next HBI.out hb2⟩
end Go.Proofs.YtkllhnfnkgkelaaDoor
