/- BitsOrders walked. Condition: math/bits' table of trailing zeros lies as its text lays it. -/
import Derived.Test.YtkllhnfnkgkelaaDoorBitsOne
import Derived.Test.YtkllhnfnkgkelaaDoorBitsOrdP
namespace Go.Proofs.YtkllhnfnkgkelaaDoor
set_option linter.unusedVariables false
open Go.ChangeShapes Go.WideShapes Go.ChangeAt Go.RowKit Go.Shelf
attribute [local go_sem ↓] Go.wp_at_zero Go.wp_at_succ

theorem strB_beq (a b : List UInt8) : ((strB a).toList == (strB b).toList) = decide (a = b) := by
  rw [ByteArray.toList_eq, ByteArray.toList_eq, strB_data, strB_data]
  by_cases h : a = b
  · subst h; simp
  · simp [h]
set_option maxRecDepth 100000 in
set_option maxHeartbeats 4000000 in
theorem orders_end (a b : NSet) (n m : Int) (w : World) (hT : TabZ w) (hm : bits .and .i64 n 63 = m) (h0 : 0 ≤ m) (h1 : m ≤ 63) :
    Calls Tryd.prog 6 #[.int .u64 (nv a), .int .u64 (nv b), .int .i64 n] w fun e w' => e = .returned (.bool true) ∧ Below w.heap.size w w' := by
  have KLen := Lib.hid (fun s W => len_any s W)
  have KA := Lib.hid (text_all a w hT)
  have KB := Lib.hid (fun W h => text_all b W (hT.below h))
  have KL2 := Lib.hid (fun W h => lowest_any a W (hT.below h))
  have K1 := Lib.hid (fun W h => one_yes W (hT.below h))
  have hE1 := nv_eq a b
  have hE2 : ((strB (textT (nodes a))).toList == (strB (textT (nodes b))).toList) = decide (a = b) := by
    rw [strB_beq]
    by_cases h : a = b
    · subst h; simp
    · have : ¬ textT (nodes a) = textT (nodes b) := fun e => h (text_inj e)
      simp [h, this]
  have hZ1 := lowI_neg a
  have hZ2 := nv_is0 a
  by_cases hc : m ≤ (card a : Int)
  · obtain ⟨s1, s2⟩ := tk_spec a m.toNat (by omega)
    have s3 := card_diff s1
    have KT := Lib.hid (take_yes a m w hT hc (by omega))
    have hcb : decide (m ≤ (card a : Int)) = true := by simpa using hc
    have KLa := Lib.hid (KLen.out a)
    have KLx := KLen.out (tk m.toNat a)
    rw [s2, show ((m.toNat : Nat) : Int) = m by omega] at KLx
    have KLX := Lib.hid KLx
    have KLr := KLen.out (a &&& ~~~ tk m.toNat a)
    rw [show ((card (a &&& ~~~ tk m.toNat a) : Nat) : Int) = (card a : Int) - m by omega] at KLr
    have KLR := Lib.hid KLr
    have KR := Lib.hid (fun W => less_any a (tk m.toNat a) W)
    have kd := fun W => less_any (tk m.toNat a) a W
    rw [show tk m.toNat a &&& ~~~ a = 0#64 from s1, nv_zero] at kd
    have KD := Lib.hid kd
    have KH := Lib.hid (fun i W => has_any (tk m.toNat a) i W)
    have KW := Lib.hid (lowest_any (a &&& ~~~ tk m.toNat a) w hT)
    have P := Lib.hid (fun i h => tk_rest a m.toNat i h)
    have hca : (card a : Int) ≤ 64 := by have := card_le a; omega
    have hmr : (card a : Int) - m = (card a : Int) - m := rfl
    clear hT KLen KLx KLr kd s1 s2 s3
    have HC := Lib.hid hc
    clear hmr
    generalize lowI (a &&& ~~~ tk m.toNat a) = lr at *
    generalize a &&& ~~~ tk m.toNat a = R at *
    generalize tk m.toNat a = X at *
    generalize (card a : Int) = ca at *
    generalize decide (a = b) = E at *
    generalize decide (a = 0#64) = Z at *
    generalize strB (textT (nodes a)) = TA at *
    generalize strB (textT (nodes b)) = TB at *
    generalize lowI a = la at *
    have hHI := Lib.hid h1
    go_enter Tryd.func6, Tryd.ntmps6
    go_wp2_with fail
    refine KT.out.mono ?_
    rintro e w' ⟨rfl, rfl⟩
    go_wp2_with fail
    refine (KLa.out _).mono ?_
    rintro e w' ⟨rfl, rfl⟩
    go_wp2_with fail
    refine (KR.out _).mono ?_
    rintro e w' ⟨rfl, rfl⟩
    go_wp2_with fail
    refine (KLX.out _).mono ?_
    rintro e w' ⟨rfl, rfl⟩
    go_wp2_with fail
    refine (KD.out _).mono ?_
    rintro e w' ⟨rfl, rfl⟩
    go_wp2_with fail
    refine (KLR.out _).mono ?_
    rintro e w' ⟨rfl, rfl⟩
    go_wp2_with fail
    refine (KLa.out _).mono ?_
    rintro e w' ⟨rfl, rfl⟩
    go_wp2_with fail
    go_loop [10] (fun v => ∃ j : Nat, j ≤ 64 ∧ v = .int .i64 j) (fun v => (64 - intOf v).toNat)
    case atStart => exact ⟨0, by omega, rfl⟩
    case round =>
      obtain ⟨j, hj, rfl⟩ := hrel
      by_cases hlt : j < 64
      · have KHj := Lib.hid (fun W => KH.out j W)
        have Pj := P.out j
        cases hb : hasI X j with
        | false =>
          rw [hb] at KHj
          clear Pj
          go_wp2_with fail
          refine (KHj.out _).mono ?_
          rintro e w' ⟨rfl, rfl⟩
          go_wp2_with fail
          go_round
          case rel => exact ⟨j + 1, by omega, by go_num⟩
          case measure => simp [intOf]; omega
        | true =>
          rw [hb] at KHj
          have Q := Pj hb
          clear Pj hb
          by_cases hr : lr < 0
          · have hr' : decide (0 ≤ lr) = false := by simpa using hr
            clear Q
            go_wp2_with fail
            refine (KHj.out _).mono ?_
            rintro e w' ⟨rfl, rfl⟩
            go_wp2_with fail
            refine KW.out.mono ?_
            rintro e w' ⟨rfl, rfl⟩
            go_wp2_with fail
            go_round
            case rel => exact ⟨j + 1, by omega, by go_num⟩
            case measure => simp [intOf]; omega
          · have hr' : decide (0 ≤ lr) = true := by simpa using hr
            have hq : decide (lr ≤ (j : Int)) = false := by simp; omega
            clear Q
            go_wp2_with fail
            refine (KHj.out _).mono ?_
            rintro e w' ⟨rfl, rfl⟩
            go_wp2_with fail
            refine KW.out.mono ?_
            rintro e w' ⟨rfl, rfl⟩
            go_wp2_with fail
            refine KW.out.mono ?_
            rintro e w' ⟨rfl, rfl⟩
            go_wp2_with fail
            go_round
            case rel => exact ⟨j + 1, by omega, by go_num⟩
            case measure => simp [intOf]; omega
      · obtain rfl : j = 64 := by omega
        go_wp2_with fail
        refine KA.out.mono ?_
        rintro e w1 ⟨rfl, hb1⟩
        have HB1 := Lib.hid hb1
        clear hb1
        go_wp2_with fail
        refine (KB.out _ HB1.out).mono ?_
        rintro e w2 ⟨rfl, hb2⟩
        have HB2 := Lib.hid (below_next HB1.out hb2)
        clear hb2
        go_wp2_with fail
        refine (KL2.out _ HB2.out).mono ?_
        rintro e w' ⟨rfl, rfl⟩
        go_wp2_with fail
        refine (K1.out _ HB2.out).mono ?_
        rintro e w3 ⟨rfl, hb3⟩
        have HB3 := Lib.hid (below_next HB2.out hb3)
        clear hb3
        go_wp2_with fail
        go_ret
        exact ⟨rfl, HB3.out⟩
  · have KT := Lib.hid (take_no a m w (by omega))
    have hcb : decide (m ≤ (card a : Int)) = false := by simpa using hc
    have KLa := Lib.hid (KLen.out a)
    have HC := Lib.hid hc
    clear hc hT KLen
    generalize (card a : Int) = ca at *
    generalize decide (a = b) = E at *
    generalize decide (a = 0#64) = Z at *
    generalize strB (textT (nodes a)) = TA at *
    generalize strB (textT (nodes b)) = TB at *
    generalize lowI a = la at *
    go_enter Tryd.func6, Tryd.ntmps6
    go_wp2_with fail
    refine KT.out.mono ?_
    rintro e w' ⟨rfl, rfl⟩
    go_wp2_with fail
    refine (KLa.out _).mono ?_
    rintro e w' ⟨rfl, rfl⟩
    go_wp2_with fail
    refine KA.out.mono ?_
    rintro e w1 ⟨rfl, hb1⟩
    have HB1 := Lib.hid hb1
    clear hb1
    go_wp2_with fail
    refine (KB.out _ HB1.out).mono ?_
    rintro e w2 ⟨rfl, hb2⟩
    have HB2 := Lib.hid (below_next HB1.out hb2)
    clear hb2
    go_wp2_with fail
    refine (KL2.out _ HB2.out).mono ?_
    rintro e w' ⟨rfl, rfl⟩
    go_wp2_with fail
    refine (K1.out _ HB2.out).mono ?_
    rintro e w3 ⟨rfl, hb3⟩
    have HB3 := Lib.hid (below_next HB2.out hb3)
    clear hb3
    go_wp2_with fail
    go_ret
    exact ⟨rfl, HB3.out⟩
theorem i64_and63 (n : Int) : bits .and .i64 n 63 = n % 64 := by
  have h63 : (BitVec.ofInt 64 63).toNat = 2 ^ 6 - 1 := by decide
  have key : (BitVec.ofInt 64 n &&& BitVec.ofInt 64 63).toNat = (n % ((2 ^ 64 : Nat) : Int)).toNat % 2 ^ 6 := by
    rw [BitVec.toNat_and, BitVec.toNat_ofInt, h63, Nat.and_two_pow_sub_one_eq_mod]
  show IntKind.i64.wrap ((BitVec.ofInt 64 n &&& BitVec.ofInt 64 63).toNat : Nat) = n % 64
  rw [key, IntKind.wrap_i64]
  omega
theorem orders_all (a b : NSet) (n : Int) (w : World) (hT : TabZ w) :
    Calls Tryd.prog 6 #[.int .u64 (nv a), .int .u64 (nv b), .int .i64 n] w fun e w' => e = .returned (.bool true) ∧ Below w.heap.size w w' :=
  orders_end a b n (n % 64) w hT (i64_and63 n) (by omega) (by omega)
end Go.Proofs.YtkllhnfnkgkelaaDoor
