/- PickBest walked. Condition: math/bits' table of trailing zeros lies as its text lays it. -/
import Derived.Test.YtkllhnfnkgkelaaDoorPickN
import Derived.Test.YtkllhnfnkgkelaaDoorBitsOrders
namespace Go.Proofs.YtkllhnfnkgkelaaDoor
set_option linter.unusedVariables false
open Go.ChangeShapes Go.WideShapes Go.ChangeAt Go.RowKit Go.Shelf
attribute [local go_sem ↓] Go.wp_at_zero Go.wp_at_succ

theorem u64_range (op : BinOp) (a b : Int) : 0 ≤ bits op .u64 a b ∧ bits op .u64 a b ≤ 18446744073709551615 := by
  have : ∀ x : BitVec 64, 0 ≤ IntKind.u64.wrap (x.toNat : Int) ∧ IntKind.u64.wrap (x.toNat : Int) ≤ 18446744073709551615 := fun x => by
    rw [IntKind.wrap_u64]; omega
  cases op <;> exact this _
theorem may_has (u b k : NSet) (n : Int) : hasI (u &&& ~~~(b ||| k)) n = (hasI u n && !hasI b n && !hasI k n) := by
  rw [hasI_less, hasI_or]
  cases hasI u n <;> cases hasI b n <;> cases hasI k n <;> rfl
set_option maxRecDepth 100000 in
set_option maxHeartbeats 4000000 in
theorem best_walk (u b k g : NSet) (n m : Int) (w : World) (hT : TabZ w) (hk : bits .xor .u64 (nv b / 128) (IntKind.u64.wrap (nv u * 512)) = nv k) (hg : nv u / 8 = nv g) (hm : bits .and .i64 n 63 = m) (h0 : 0 ≤ m) (h1 : m ≤ 63) :
    Calls Tryd.prog 9 #[.int .u64 (nv u), .int .u64 (nv b), .int .i64 n] w fun e w' => e = .returned (.bool true) ∧ Below w.heap.size w w' := by
  have KMay := Lib.hid (fun W => may_any u b k W)
  have KH := Lib.hid (fun s (i : Int) x h W => has_is s i x h W)
  have MH := Lib.hid (fun i => may_has u b k i)
  have HT := Lib.hid hT
  have KLen := Lib.hid (fun s W => len_any s W)
  generalize hmay : u &&& ~~~(b ||| k) = may at *
  have HMAY := Lib.hid hmay
  clear hmay hT
  go_enter Tryd.func9, Tryd.ntmps9
  go_wp2_with fail
  refine (KMay.out _).mono ?_
  rintro e w' ⟨rfl, rfl⟩
  go_wp2_with fail
  go_loop [9] (fun v => ∃ j : Nat, j ≤ 64 ∧ v = .int .i64 j) (fun v => (64 - intOf v).toNat)
  case atStart => exact ⟨0, by omega, rfl⟩
  case round =>
    obtain ⟨j, hj, rfl⟩ := hrel
    by_cases hlt : j < 64
    · have M := MH.out j
      have kM := Lib.hid (fun x h W => KH.out may j x h W)
      have kU := Lib.hid (fun x h W => KH.out u j x h W)
      have kB := Lib.hid (fun x h W => KH.out b j x h W)
      have kK := Lib.hid (fun x h W => KH.out k j x h W)
      generalize hasI u j = U at *
      generalize hasI b j = B at *
      generalize hasI k j = K at *
      generalize hasI may j = MM at *
      subst M
      cases U <;> cases B <;> cases K
      · go_wp2_with fail
        refine (kM.out false rfl _).mono ?_
        rintro e w' ⟨rfl, rfl⟩
        go_wp2_with fail
        refine (kU.out false rfl _).mono ?_
        rintro e w' ⟨rfl, rfl⟩
        go_wp2_with fail
        go_round
        case rel => exact ⟨j + 1, by omega, by go_num⟩
        case measure => simp [intOf]; omega
      · go_wp2_with fail
        refine (kM.out false rfl _).mono ?_
        rintro e w' ⟨rfl, rfl⟩
        go_wp2_with fail
        refine (kU.out false rfl _).mono ?_
        rintro e w' ⟨rfl, rfl⟩
        go_wp2_with fail
        go_round
        case rel => exact ⟨j + 1, by omega, by go_num⟩
        case measure => simp [intOf]; omega
      · go_wp2_with fail
        refine (kM.out false rfl _).mono ?_
        rintro e w' ⟨rfl, rfl⟩
        go_wp2_with fail
        refine (kU.out false rfl _).mono ?_
        rintro e w' ⟨rfl, rfl⟩
        go_wp2_with fail
        go_round
        case rel => exact ⟨j + 1, by omega, by go_num⟩
        case measure => simp [intOf]; omega
      · go_wp2_with fail
        refine (kM.out false rfl _).mono ?_
        rintro e w' ⟨rfl, rfl⟩
        go_wp2_with fail
        refine (kU.out false rfl _).mono ?_
        rintro e w' ⟨rfl, rfl⟩
        go_wp2_with fail
        go_round
        case rel => exact ⟨j + 1, by omega, by go_num⟩
        case measure => simp [intOf]; omega
      · go_wp2_with fail
        refine (kM.out true rfl _).mono ?_
        rintro e w' ⟨rfl, rfl⟩
        go_wp2_with fail
        refine (kU.out true rfl _).mono ?_
        rintro e w' ⟨rfl, rfl⟩
        go_wp2_with fail
        refine (kB.out false rfl _).mono ?_
        rintro e w' ⟨rfl, rfl⟩
        go_wp2_with fail
        refine (kK.out false rfl _).mono ?_
        rintro e w' ⟨rfl, rfl⟩
        go_wp2_with fail
        go_round
        case rel => exact ⟨j + 1, by omega, by go_num⟩
        case measure => simp [intOf]; omega
      · go_wp2_with fail
        refine (kM.out false rfl _).mono ?_
        rintro e w' ⟨rfl, rfl⟩
        go_wp2_with fail
        refine (kU.out true rfl _).mono ?_
        rintro e w' ⟨rfl, rfl⟩
        go_wp2_with fail
        refine (kB.out false rfl _).mono ?_
        rintro e w' ⟨rfl, rfl⟩
        go_wp2_with fail
        refine (kK.out true rfl _).mono ?_
        rintro e w' ⟨rfl, rfl⟩
        go_wp2_with fail
        go_round
        case rel => exact ⟨j + 1, by omega, by go_num⟩
        case measure => simp [intOf]; omega
      · go_wp2_with fail
        refine (kM.out false rfl _).mono ?_
        rintro e w' ⟨rfl, rfl⟩
        go_wp2_with fail
        refine (kU.out true rfl _).mono ?_
        rintro e w' ⟨rfl, rfl⟩
        go_wp2_with fail
        refine (kB.out true rfl _).mono ?_
        rintro e w' ⟨rfl, rfl⟩
        go_wp2_with fail
        go_round
        case rel => exact ⟨j + 1, by omega, by go_num⟩
        case measure => simp [intOf]; omega
      · go_wp2_with fail
        refine (kM.out false rfl _).mono ?_
        rintro e w' ⟨rfl, rfl⟩
        go_wp2_with fail
        refine (kU.out true rfl _).mono ?_
        rintro e w' ⟨rfl, rfl⟩
        go_wp2_with fail
        refine (kB.out true rfl _).mono ?_
        rintro e w' ⟨rfl, rfl⟩
        go_wp2_with fail
        go_round
        case rel => exact ⟨j + 1, by omega, by go_num⟩
        case measure => simp [intOf]; omega
    · obtain rfl : j = 64 := by omega
      have hZ := sets_new w [g] 23 (by simp) (w.alloc (.cells #[.int .u64 (nv g)] 23)) (Below.refl _ _)
      have hT1 := HT.out.below (below_alloc (Below.refl _ w) (.cells #[.int .u64 (nv g)] 23))
      have hB1 := below_alloc (Below.refl _ w) (.cells #[.int .u64 (nv g)] 23)
      have K1 := Lib.hid (fun W h => pone_yes W (HT.out.below h))
      by_cases hc : m ≤ (card may : Int)
      · have KC := Lib.hid (choose_yes may m (some ⟨w.heap.size, 0, none⟩) 1 1 [g] _ hT1 hZ h0 hc (by decide))
        obtain ⟨r1, r2⟩ := chF_right may m hc [g] 0#64 (sub_zero _) (by rw [card_zero]; exact h0)
        have r3 := chF_cost may g m h0 hc
        have hcb : decide (m ≤ (card may : Int)) = true := by simpa using hc
        have KLm := Lib.hid (KLen.out may)
        have KAn := Lib.hid (fun W => and_any may g W)
        have KLa := Lib.hid (KLen.out (may &&& g))
        have hca := card_le (may &&& g)
        generalize hR : chF may m [g] 0#64 = R at *
        have kls := fun W => less_any R may W
        rw [show R &&& ~~~may = 0#64 from r1, nv_zero] at kls
        have KLs := Lib.hid kls
        have klr := KLen.out R
        rw [r2] at klr
        have KLr := Lib.hid klr
        have kco := fun W => cost_any R g W
        rw [r3] at kco
        have hx : (0 : Int) ≤ (card (may &&& g) : Int) ∧ (card (may &&& g) : Int) ≤ 64 := by omega
        clear kls klr r1 r2 r3 hR hT1 hZ
        generalize (card (may &&& g) : Int) = ca at *
        generalize (card may : Int) = cm at *
        have HC := Lib.hid hc
        clear hc hca
        have KCo := Lib.hid kco
        clear kco
        go_wp2_with fail
        refine KC.out.mono ?_
        rintro e w2 ⟨rfl, hb2⟩
        have HB2 := Lib.hid (below_next hB1 hb2)
        clear hb2
        go_wp2_with fail
        refine (KLm.out _).mono ?_
        rintro e w' ⟨rfl, rfl⟩
        go_wp2_with fail
        refine (KAn.out _).mono ?_
        rintro e w' ⟨rfl, rfl⟩
        go_wp2_with fail
        refine (KLa.out _).mono ?_
        rintro e w' ⟨rfl, rfl⟩
        go_wp2_with fail
        clear hk hg hm hx hcb
        refine (KLs.out _).mono ?_
        rintro e w' ⟨rfl, rfl⟩
        go_wp2_with fail
        refine (KLr.out _).mono ?_
        rintro e w' ⟨rfl, rfl⟩
        go_wp2_with fail
        refine (KCo.out _).mono ?_
        rintro e w' ⟨rfl, rfl⟩
        go_wp2_with fail
        refine (K1.out _ HB2.out).mono ?_
        rintro e w3 ⟨rfl, hb3⟩
        have HB3 := Lib.hid (below_next HB2.out hb3)
        clear hb3
        go_wp2_with fail
        go_ret
        exact ⟨rfl, HB3.out⟩
      · have KC := Lib.hid (choose_no may m (.slice (some ⟨w.heap.size, 0, none⟩) 1 1) (w.alloc (.cells #[.int .u64 (nv g)] 23)) (.inr (by omega)))
        have hcb : decide (m ≤ (card may : Int)) = false := by simpa using hc
        have KLm := Lib.hid (KLen.out may)
        generalize (card may : Int) = cm at *
        have HC := Lib.hid hc
        clear hc hT1 hZ
        go_wp2_with fail
        refine KC.out.mono ?_
        rintro e w2 ⟨rfl, hb2⟩
        have HB2 := Lib.hid (below_next hB1 hb2)
        clear hb2
        go_wp2_with fail
        refine (KLm.out _).mono ?_
        rintro e w' ⟨rfl, rfl⟩
        go_wp2_with fail
        refine (K1.out _ HB2.out).mono ?_
        rintro e w3 ⟨rfl, hb3⟩
        have HB3 := Lib.hid (below_next HB2.out hb3)
        clear hb3
        go_wp2_with fail
        go_ret
        exact ⟨rfl, HB3.out⟩
theorem best_all (u b : NSet) (n : Int) (w : World) (hT : TabZ w) :
    Calls Tryd.prog 9 #[.int .u64 (nv u), .int .u64 (nv b), .int .i64 n] w fun e w' => e = .returned (.bool true) ∧ Below w.heap.size w w' := by
  obtain ⟨k1, k2⟩ := u64_range .xor (nv b / 128) (IntKind.u64.wrap (nv u * 512))
  obtain ⟨k, hk⟩ := nv_of _ k1 k2
  obtain ⟨g, hg⟩ := nv_of (nv u / 8) (by have := nv_lo u; omega) (by have := nv_hi u; have := nv_lo u; omega)
  exact best_walk u b k g n (n % 64) w hT hk.symm hg.symm (i64_and63 n) (by omega) (by omega)
end Go.Proofs.YtkllhnfnkgkelaaDoor
