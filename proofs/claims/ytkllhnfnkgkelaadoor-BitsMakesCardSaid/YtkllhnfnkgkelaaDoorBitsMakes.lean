/- BitsMakes walked. Condition: math/bits' table of trailing zeros lies as its text lays it. -/
import Derived.Test.YtkllhnfnkgkelaaDoorBitsMakesP
namespace Go.Proofs.YtkllhnfnkgkelaaDoor
set_option linter.unusedVariables false
open Go.ChangeShapes Go.WideShapes Go.ChangeAt Go.RowKit Go.Shelf
attribute [local go_sem ↓] Go.wp_at_zero Go.wp_at_succ

set_option maxRecDepth 100000 in
set_option maxHeartbeats 4000000 in
theorem makes_walk (s : NSet) (a : Option Addr) (len cap : Nat) (l : List Int) (n : Int) (w : World) (hT : TabZ w) (hR : ReadsI w (.slice a len cap) l) (hl : l.length = len) (hcap : len ≤ cap) (hlen : len ≤ 200) :
    Calls Tryd.prog 3 #[.int .u64 (nv s), .slice a len cap, .int .i64 n] w fun e w' => e = .returned (.bool true) ∧ Below w.heap.size w w' := by
  have HT := Lib.hid hT
  have hlb : decide ((200 : Int) < (len : Int)) = false := by simp; omega
  have KOf := Lib.hid (rof_any s)
  have hcard := card_le s
  have hnl : (nodes s).length ≤ 64 := by rw [nodes_length (card s) s rfl]; exact hcard
  have HL := Lib.hid hl
  clear hl
  clear hT
  go_enter Tryd.func3, Tryd.ntmps3
  go_wp2_with fail
  refine (KOf.out _).mono ?_
  rintro e w1 ⟨v, rfl, hO, hb1⟩
  obtain ⟨av, cv, rfl⟩ := hO.form
  have hR1 := hO.ints
  go_wp2_with (first
    | (at_builtin; refine wpList_append_read 24 25 Tryd.underlying24 Tryd.underlying25 rfl _ _ rfl w1.heap.size _ [] rfl (OwnI.made w1) _ (nodes s) rfl (hR1.below ((Below.refl _ w1).alloc (Nat.le_refl _) _)) (by simp; omega) (by simp) ?_; intro v2 w2 hO2 hB2)
    | (at_builtin; refine wpList_append_int 24 Tryd.underlying24 rfl _ _ rfl w1.heap.size v2 _ rfl (hO2.below (below_alloc (Below.refl _ w2) _)) w2.heap.size 1 n rfl (by simp) (by simp; omega) (by simp; have := hB2.size; simp at this; omega) ?_; intro v3 w3 hO3 hB3))
  have hb2 : Below w1.heap.size w1 w2 := ((Below.refl _ w1).alloc (Nat.le_refl _) _).trans hB2
  have hb3 : Below w1.heap.size w1 w3 := hb2.trans (((Below.refl _ w2).alloc hb2.size _).trans hB3)
  have hbw : Below w.heap.size w w3 := hb1.trans (hb3.mono hb1.size)
  have hRo : ReadsI w3 (.slice av (nodes s).length cv) (nodes s) := hR1.below hb3
  have hRw : ReadsI w3 v3 (nodes s ++ [n]) := by have := hO3.ints; rwa [List.nil_append] at this
  have hRa : ReadsI w3 (.slice a len cap) l := hR.below hbw
  clear hO hO2 hO3 hR hR1 hB2 hB3 hb2 hb3 hb1 hlb
  go_loopw [9, 10] (fun r i wr => ∃ (k : Nat) (u : Value), k ≤ (nodes s).length ∧ i = .int .i64 k ∧ r = u ∧ OwnI wr w3.heap.size u (lessL ((nodes s).take k) n) ∧ Below w3.heap.size w3 wr) (fun _ i _ => (nodes s).length - (intOf i).toNat)
  case atStart => exact ⟨0, _, Nat.zero_le _, rfl, rfl, OwnI.nil, Below.refl _ _⟩
  case round =>
    obtain ⟨k, u, hk, rfl, rfl, hOk, hBk⟩ := hrel
    by_cases hlt : k < (nodes s).length
    · rcases hRo.below hBk with ⟨he, _⟩ | ⟨_, _, g, o, c, hv, _, hc⟩
      · rw [he] at hlt; exact absurd hlt (Nat.not_lt_zero _)
      · cases hv
        have hcell := hc k hlt
        have hx : (nodes s).getD k 0 = (nodes s)[k] := by simp [List.getD, List.getElem?_eq_getElem hlt]
        have htk : (nodes s).take (k + 1) = (nodes s).take k ++ [(nodes s).getD k 0] := by rw [List.take_succ_eq_append_getElem hlt, hx]
        have hlk := lessL_length ((nodes s).take k) n
        rw [List.length_take] at hlk
        by_cases hn : (nodes s).getD k 0 = n
        · have hb : ((nodes s).getD k 0 == n) = true := by simpa using hn
          have hbn : ((nodes s).getD k 0 != n) = false := by simp only [bne, hb]; rfl
          have HE := Lib.hid (show lessL ((nodes s).take (k + 1)) n = lessL ((nodes s).take k) n by rw [htk, lessL_no _ _ _ hn])
          clear hn hx htk hc
          generalize (nodes s).getD k 0 = x at *
          go_wp2
          go_roundw
          case rel => exact ⟨k + 1, _, by omega, by go_num, rfl, by rw [HE.out]; exact hOk, hBk⟩
          case measure => simp [intOf]; omega
        · have hb : ((nodes s).getD k 0 == n) = false := by simpa using hn
          have hbn : ((nodes s).getD k 0 != n) = true := by simp only [bne, hb]; rfl
          have HE := Lib.hid (show lessL ((nodes s).take (k + 1)) n = lessL ((nodes s).take k) n ++ [(nodes s).getD k 0] by rw [htk, lessL_yes _ _ _ hn])
          clear hn hx htk hc
          generalize (nodes s).getD k 0 = x at *
          go_wp2_with (at_builtin; refine wpList_append_int 24 Tryd.underlying24 rfl _ _ rfl w3.heap.size u9 _ rfl (hOk.below (below_alloc (Below.refl _ wr) _)) wr.heap.size 1 x rfl (by simp) (by omega) (by simp; have := hBk.size; omega) ?_; intro v' w' hO' hB')
          go_roundw
          case rel => exact ⟨k + 1, _, by omega, by go_num, rfl, by rw [HE.out]; exact hO', hBk.trans ((Below.alloc (Below.refl _ _) hBk.size _).trans hB')⟩
          case measure => simp [intOf]; omega
    · obtain rfl : k = (nodes s).length := by omega
      rw [List.take_of_length_le (Nat.le_refl _)] at hOk
      go_wp2_with fail
      have hBA := hBk
      have hLA := hOk.ints
      have hRoA := hRo.below hBk
      have hRwA := hRw.below hBk
      have hRaA := hRa.below hBk
      have hbA := hbw.trans (hBk.mono hbw.size)
      clear hBA hBk hOk hRo hRw hRa hbw hlt hk
      obtain ⟨wA, hwA⟩ : ∃ x, x = wr := ⟨_, rfl⟩
      subst hwA
      go_loopw [11, 12] (fun r i wq => ∃ (k : Nat) (u : Value), k ≤ min 64 n.toNat ∧ i = .int .i64 k ∧ r = u ∧ OwnI wq wA.heap.size u (upto (fun _ => true) k) ∧ Below wA.heap.size wA wq) (fun _ i _ => 64 - (intOf i).toNat)
      case atStart => exact ⟨0, _, Nat.zero_le _, rfl, rfl, OwnI.nil, Below.refl _ _⟩
      case round =>
        obtain ⟨k, u, hk, rfl, rfl, hOk, hBk⟩ := hrel
        have hlen := upto_length (fun _ => true) k
        by_cases hlt : k < min 64 n.toNat
        · have h64 : (k : Int) < 64 := by omega
          have hkn : decide ((k : Int) < n) = true := by simp; omega
          have HE := Lib.hid (upto_yes (p := fun _ => true) (k := k) rfl)
          go_wp2_with (at_builtin; refine wpList_append_int 24 Tryd.underlying24 rfl _ _ rfl wA.heap.size u11 _ rfl (hOk.below (below_alloc (Below.refl _ wr) _)) wr.heap.size 1 (k : Int) rfl (by simp) (by omega) (by simp; have := hBk.size; omega) ?_; intro v' w' hO' hB')
          go_roundw
          case rel => exact ⟨k + 1, _, by omega, by go_num, rfl, by rw [HE.out]; exact hO', hBk.trans ((Below.alloc (Below.refl _ _) hBk.size _).trans hB')⟩
          case measure => simp [intOf]; omega
        · by_cases h64 : k < 64
          · have hkn : decide ((k : Int) < n) = false := by simp; omega
            obtain rfl : k = min 64 n.toNat := by omega
            clear hlt hk hlen
            have KO := Lib.hid (fun W (h : Below wr.heap.size wr W) => bof_any W ((hRaA.below hBk).below h))
            have KM := Lib.hid (fun W (h : Below wr.heap.size wr W) => rmade_any W ((hRaA.below hBk).below h))
            have kw := fun W (h : Below wr.heap.size wr W) => rmade_any W ((hRwA.below hBk).below h)
            rw [with_set] at kw
            have KW := Lib.hid kw
            have kls := fun W (h : Below wr.heap.size wr W) => rset_any W ((hLA.below hBk).below h) (less_range s n) (less_sorted s n)
            rw [less_set] at kls
            have KLs := Lib.hid kls
            have kf := fun W (h : Below wr.heap.size wr W) => rset_any W (hOk.ints.below h) (first_range _ (by omega)) (upto_sorted _ _)
            rw [first_set] at kf
            have KF := Lib.hid kf
            have kh2 := fun W (h : Below wr.heap.size wr W) => rhas_any n W ((hRoA.below hBk).below h)
            rw [show decide (n ∈ nodes s) = hasI s n by rw [Bool.eq_iff_iff, decide_eq_true_eq]; exact nodes_mem (card s) s rfl n] at kh2
            have KH2 := Lib.hid kh2
            have KH1 := Lib.hid (fun W => has_any s n W)
            have kl := fun W => len_any s W
            rw [show ((card s : Nat) : Int) = ((nodes s).length : Int) by rw [nodes_length _ s rfl]] at kl
            have KLen := Lib.hid kl
            have hbW := hbA.trans (hBk.mono hbA.size)
            clear kw kls kf kh2 kl hLA hRoA hRwA hRaA hBk hOk hbA
            generalize hasI s n = HB at *
            go_wp2_with fail
            refine (KO.out _ (Below.refl _ _)).mono ?_
            rintro e w' ⟨rfl, rfl⟩
            go_wp2_with fail
            refine (KM.out _ (Below.refl _ _)).mono ?_
            rintro e W1 ⟨u1, rfl, hOu1, hbu1⟩
            have hW1 := hbu1
            have hR1u := hOu1.ints
            go_wp2_with fail
            refine (rset_nodes (addL 0#64 l) _ hR1u).mono ?_
            rintro e w' ⟨rfl, rfl⟩
            go_wp2_with fail
            refine (with_any s n _).mono ?_
            rintro e w' ⟨rfl, rfl⟩
            go_wp2_with fail
            refine (KW.out _ hW1).mono ?_
            rintro e W2 ⟨u2, rfl, hOu2, hbu2⟩
            have hW2 := below_next hW1 hbu2
            have hR2u := hOu2.ints
            go_wp2_with fail
            refine (rset_nodes (s ||| oneI n) _ hR2u).mono ?_
            rintro e w' ⟨rfl, rfl⟩
            go_wp2_with fail
            refine (without_any s n _).mono ?_
            rintro e w' ⟨rfl, rfl⟩
            go_wp2_with fail
            refine (KLs.out _ hW2).mono ?_
            rintro e w' ⟨rfl, rfl⟩
            go_wp2_with fail
            refine (first_any n _).mono ?_
            rintro e w' ⟨rfl, rfl⟩
            go_wp2_with fail
            refine (KF.out _ hW2).mono ?_
            rintro e w' ⟨rfl, rfl⟩
            go_wp2_with fail
            refine (KH1.out _).mono ?_
            rintro e w' ⟨rfl, rfl⟩
            go_wp2_with fail
            refine (KH2.out _ hW2).mono ?_
            rintro e w' ⟨rfl, rfl⟩
            go_wp2_with fail
            refine (KLen.out _).mono ?_
            rintro e w' ⟨rfl, rfl⟩
            go_wp2_with fail
            refine (one_yes _ (HT.out.below (hbW.trans (hW2.mono hbW.size)))).mono ?_
            rintro e W3 ⟨rfl, hb3⟩
            have hW3 := below_next (hbW.trans (hW2.mono hbW.size)) hb3
            go_wp2_with fail
            go_ret
            exact ⟨rfl, hW3⟩
          · have h64' : ¬ (k : Int) < 64 := by omega
            obtain rfl : k = min 64 n.toNat := by omega
            clear hlt hk hlen
            have KO := Lib.hid (fun W (h : Below wr.heap.size wr W) => bof_any W ((hRaA.below hBk).below h))
            have KM := Lib.hid (fun W (h : Below wr.heap.size wr W) => rmade_any W ((hRaA.below hBk).below h))
            have kw := fun W (h : Below wr.heap.size wr W) => rmade_any W ((hRwA.below hBk).below h)
            rw [with_set] at kw
            have KW := Lib.hid kw
            have kls := fun W (h : Below wr.heap.size wr W) => rset_any W ((hLA.below hBk).below h) (less_range s n) (less_sorted s n)
            rw [less_set] at kls
            have KLs := Lib.hid kls
            have kf := fun W (h : Below wr.heap.size wr W) => rset_any W (hOk.ints.below h) (first_range _ (by omega)) (upto_sorted _ _)
            rw [first_set] at kf
            have KF := Lib.hid kf
            have kh2 := fun W (h : Below wr.heap.size wr W) => rhas_any n W ((hRoA.below hBk).below h)
            rw [show decide (n ∈ nodes s) = hasI s n by rw [Bool.eq_iff_iff, decide_eq_true_eq]; exact nodes_mem (card s) s rfl n] at kh2
            have KH2 := Lib.hid kh2
            have KH1 := Lib.hid (fun W => has_any s n W)
            have kl := fun W => len_any s W
            rw [show ((card s : Nat) : Int) = ((nodes s).length : Int) by rw [nodes_length _ s rfl]] at kl
            have KLen := Lib.hid kl
            have hbW := hbA.trans (hBk.mono hbA.size)
            clear kw kls kf kh2 kl hLA hRoA hRwA hRaA hBk hOk hbA
            generalize hasI s n = HB at *
            go_wp2_with fail
            refine (KO.out _ (Below.refl _ _)).mono ?_
            rintro e w' ⟨rfl, rfl⟩
            go_wp2_with fail
            refine (KM.out _ (Below.refl _ _)).mono ?_
            rintro e W1 ⟨u1, rfl, hOu1, hbu1⟩
            have hW1 := hbu1
            have hR1u := hOu1.ints
            go_wp2_with fail
            refine (rset_nodes (addL 0#64 l) _ hR1u).mono ?_
            rintro e w' ⟨rfl, rfl⟩
            go_wp2_with fail
            refine (with_any s n _).mono ?_
            rintro e w' ⟨rfl, rfl⟩
            go_wp2_with fail
            refine (KW.out _ hW1).mono ?_
            rintro e W2 ⟨u2, rfl, hOu2, hbu2⟩
            have hW2 := below_next hW1 hbu2
            have hR2u := hOu2.ints
            go_wp2_with fail
            refine (rset_nodes (s ||| oneI n) _ hR2u).mono ?_
            rintro e w' ⟨rfl, rfl⟩
            go_wp2_with fail
            refine (without_any s n _).mono ?_
            rintro e w' ⟨rfl, rfl⟩
            go_wp2_with fail
            refine (KLs.out _ hW2).mono ?_
            rintro e w' ⟨rfl, rfl⟩
            go_wp2_with fail
            refine (first_any n _).mono ?_
            rintro e w' ⟨rfl, rfl⟩
            go_wp2_with fail
            refine (KF.out _ hW2).mono ?_
            rintro e w' ⟨rfl, rfl⟩
            go_wp2_with fail
            refine (KH1.out _).mono ?_
            rintro e w' ⟨rfl, rfl⟩
            go_wp2_with fail
            refine (KH2.out _ hW2).mono ?_
            rintro e w' ⟨rfl, rfl⟩
            go_wp2_with fail
            refine (KLen.out _).mono ?_
            rintro e w' ⟨rfl, rfl⟩
            go_wp2_with fail
            refine (one_yes _ (HT.out.below (hbW.trans (hW2.mono hbW.size)))).mono ?_
            rintro e W3 ⟨rfl, hb3⟩
            have hW3 := below_next (hbW.trans (hW2.mono hbW.size)) hb3
            go_wp2_with fail
            go_ret
            exact ⟨rfl, hW3⟩
set_option maxRecDepth 100000 in
set_option maxHeartbeats 4000000 in
theorem makes_long (s : NSet) (a : Option Addr) (len cap : Nat) (l : List Int) (n : Int) (w : World) (hT : TabZ w) (hR : ReadsI w (.slice a len cap) l) (hl : l.length = len) (hcap : len ≤ cap) (hlen : 200 < len) :
    Calls Tryd.prog 3 #[.int .u64 (nv s), .slice a len cap, .int .i64 n] w fun e w' => e = .returned (.bool true) ∧ Below w.heap.size w w' := by
  have HT := Lib.hid hT
  have hlb : decide ((200 : Int) < (len : Int)) = true := by simp; omega
  have hR2 := hR.take hl (n := 200) (by omega) cap (by omega)
  clear hR
  have hR := hR2
  clear hR2
  have KOf := Lib.hid (rof_any s)
  have hcard := card_le s
  have hnl : (nodes s).length ≤ 64 := by rw [nodes_length (card s) s rfl]; exact hcard
  clear hl
  generalize l.take 200 = l2 at *
  have hcap2 : 200 ≤ cap := by omega
  clear hT
  go_enter Tryd.func3, Tryd.ntmps3
  go_wp2_with fail
  refine (KOf.out _).mono ?_
  rintro e w1 ⟨v, rfl, hO, hb1⟩
  obtain ⟨av, cv, rfl⟩ := hO.form
  have hR1 := hO.ints
  go_wp2_with (first
    | (at_builtin; refine wpList_append_read 24 25 Tryd.underlying24 Tryd.underlying25 rfl _ _ rfl w1.heap.size _ [] rfl (OwnI.made w1) _ (nodes s) rfl (hR1.below ((Below.refl _ w1).alloc (Nat.le_refl _) _)) (by simp; omega) (by simp) ?_; intro v2 w2 hO2 hB2)
    | (at_builtin; refine wpList_append_int 24 Tryd.underlying24 rfl _ _ rfl w1.heap.size v2 _ rfl (hO2.below (below_alloc (Below.refl _ w2) _)) w2.heap.size 1 n rfl (by simp) (by simp; omega) (by simp; have := hB2.size; simp at this; omega) ?_; intro v3 w3 hO3 hB3))
  have hb2 : Below w1.heap.size w1 w2 := ((Below.refl _ w1).alloc (Nat.le_refl _) _).trans hB2
  have hb3 : Below w1.heap.size w1 w3 := hb2.trans (((Below.refl _ w2).alloc hb2.size _).trans hB3)
  have hbw : Below w.heap.size w w3 := hb1.trans (hb3.mono hb1.size)
  have hRo : ReadsI w3 (.slice av (nodes s).length cv) (nodes s) := hR1.below hb3
  have hRw : ReadsI w3 v3 (nodes s ++ [n]) := by have := hO3.ints; rwa [List.nil_append] at this
  have hRa : ReadsI w3 (.slice a 200 cap) l2 := hR.below hbw
  clear hO hO2 hO3 hR hR1 hB2 hB3 hb2 hb3 hb1 hlb
  go_loopw [9, 10] (fun r i wr => ∃ (k : Nat) (u : Value), k ≤ (nodes s).length ∧ i = .int .i64 k ∧ r = u ∧ OwnI wr w3.heap.size u (lessL ((nodes s).take k) n) ∧ Below w3.heap.size w3 wr) (fun _ i _ => (nodes s).length - (intOf i).toNat)
  case atStart => exact ⟨0, _, Nat.zero_le _, rfl, rfl, OwnI.nil, Below.refl _ _⟩
  case round =>
    obtain ⟨k, u, hk, rfl, rfl, hOk, hBk⟩ := hrel
    by_cases hlt : k < (nodes s).length
    · rcases hRo.below hBk with ⟨he, _⟩ | ⟨_, _, g, o, c, hv, _, hc⟩
      · rw [he] at hlt; exact absurd hlt (Nat.not_lt_zero _)
      · cases hv
        have hcell := hc k hlt
        have hx : (nodes s).getD k 0 = (nodes s)[k] := by simp [List.getD, List.getElem?_eq_getElem hlt]
        have htk : (nodes s).take (k + 1) = (nodes s).take k ++ [(nodes s).getD k 0] := by rw [List.take_succ_eq_append_getElem hlt, hx]
        have hlk := lessL_length ((nodes s).take k) n
        rw [List.length_take] at hlk
        by_cases hn : (nodes s).getD k 0 = n
        · have hb : ((nodes s).getD k 0 == n) = true := by simpa using hn
          have hbn : ((nodes s).getD k 0 != n) = false := by simp only [bne, hb]; rfl
          have HE := Lib.hid (show lessL ((nodes s).take (k + 1)) n = lessL ((nodes s).take k) n by rw [htk, lessL_no _ _ _ hn])
          clear hn hx htk hc
          generalize (nodes s).getD k 0 = x at *
          go_wp2
          go_roundw
          case rel => exact ⟨k + 1, _, by omega, by go_num, rfl, by rw [HE.out]; exact hOk, hBk⟩
          case measure => simp [intOf]; omega
        · have hb : ((nodes s).getD k 0 == n) = false := by simpa using hn
          have hbn : ((nodes s).getD k 0 != n) = true := by simp only [bne, hb]; rfl
          have HE := Lib.hid (show lessL ((nodes s).take (k + 1)) n = lessL ((nodes s).take k) n ++ [(nodes s).getD k 0] by rw [htk, lessL_yes _ _ _ hn])
          clear hn hx htk hc
          generalize (nodes s).getD k 0 = x at *
          go_wp2_with (at_builtin; refine wpList_append_int 24 Tryd.underlying24 rfl _ _ rfl w3.heap.size u9 _ rfl (hOk.below (below_alloc (Below.refl _ wr) _)) wr.heap.size 1 x rfl (by simp) (by omega) (by simp; have := hBk.size; omega) ?_; intro v' w' hO' hB')
          go_roundw
          case rel => exact ⟨k + 1, _, by omega, by go_num, rfl, by rw [HE.out]; exact hO', hBk.trans ((Below.alloc (Below.refl _ _) hBk.size _).trans hB')⟩
          case measure => simp [intOf]; omega
    · obtain rfl : k = (nodes s).length := by omega
      rw [List.take_of_length_le (Nat.le_refl _)] at hOk
      go_wp2_with fail
      have hBA := hBk
      have hLA := hOk.ints
      have hRoA := hRo.below hBk
      have hRwA := hRw.below hBk
      have hRaA := hRa.below hBk
      have hbA := hbw.trans (hBk.mono hbw.size)
      clear hBA hBk hOk hRo hRw hRa hbw hlt hk
      obtain ⟨wA, hwA⟩ : ∃ x, x = wr := ⟨_, rfl⟩
      subst hwA
      go_loopw [11, 12] (fun r i wq => ∃ (k : Nat) (u : Value), k ≤ min 64 n.toNat ∧ i = .int .i64 k ∧ r = u ∧ OwnI wq wA.heap.size u (upto (fun _ => true) k) ∧ Below wA.heap.size wA wq) (fun _ i _ => 64 - (intOf i).toNat)
      case atStart => exact ⟨0, _, Nat.zero_le _, rfl, rfl, OwnI.nil, Below.refl _ _⟩
      case round =>
        obtain ⟨k, u, hk, rfl, rfl, hOk, hBk⟩ := hrel
        have hlen := upto_length (fun _ => true) k
        by_cases hlt : k < min 64 n.toNat
        · have h64 : (k : Int) < 64 := by omega
          have hkn : decide ((k : Int) < n) = true := by simp; omega
          have HE := Lib.hid (upto_yes (p := fun _ => true) (k := k) rfl)
          go_wp2_with (at_builtin; refine wpList_append_int 24 Tryd.underlying24 rfl _ _ rfl wA.heap.size u11 _ rfl (hOk.below (below_alloc (Below.refl _ wr) _)) wr.heap.size 1 (k : Int) rfl (by simp) (by omega) (by simp; have := hBk.size; omega) ?_; intro v' w' hO' hB')
          go_roundw
          case rel => exact ⟨k + 1, _, by omega, by go_num, rfl, by rw [HE.out]; exact hO', hBk.trans ((Below.alloc (Below.refl _ _) hBk.size _).trans hB')⟩
          case measure => simp [intOf]; omega
        · by_cases h64 : k < 64
          · have hkn : decide ((k : Int) < n) = false := by simp; omega
            obtain rfl : k = min 64 n.toNat := by omega
            clear hlt hk 
            have KO := Lib.hid (fun W (h : Below wr.heap.size wr W) => bof_any W ((hRaA.below hBk).below h))
            have KM := Lib.hid (fun W (h : Below wr.heap.size wr W) => rmade_any W ((hRaA.below hBk).below h))
            have kw := fun W (h : Below wr.heap.size wr W) => rmade_any W ((hRwA.below hBk).below h)
            rw [with_set] at kw
            have KW := Lib.hid kw
            have kls := fun W (h : Below wr.heap.size wr W) => rset_any W ((hLA.below hBk).below h) (less_range s n) (less_sorted s n)
            rw [less_set] at kls
            have KLs := Lib.hid kls
            have kf := fun W (h : Below wr.heap.size wr W) => rset_any W (hOk.ints.below h) (first_range _ (by omega)) (upto_sorted _ _)
            rw [first_set] at kf
            have KF := Lib.hid kf
            have kh2 := fun W (h : Below wr.heap.size wr W) => rhas_any n W ((hRoA.below hBk).below h)
            rw [show decide (n ∈ nodes s) = hasI s n by rw [Bool.eq_iff_iff, decide_eq_true_eq]; exact nodes_mem (card s) s rfl n] at kh2
            have KH2 := Lib.hid kh2
            have KH1 := Lib.hid (fun W => has_any s n W)
            have kl := fun W => len_any s W
            rw [show ((card s : Nat) : Int) = ((nodes s).length : Int) by rw [nodes_length _ s rfl]] at kl
            have KLen := Lib.hid kl
            have hbW := hbA.trans (hBk.mono hbA.size)
            clear kw kls kf kh2 kl hLA hRoA hRwA hRaA hBk hOk hbA
            generalize hasI s n = HB at *
            go_wp2_with fail
            refine (KO.out _ (Below.refl _ _)).mono ?_
            rintro e w' ⟨rfl, rfl⟩
            go_wp2_with fail
            refine (KM.out _ (Below.refl _ _)).mono ?_
            rintro e W1 ⟨u1, rfl, hOu1, hbu1⟩
            have hW1 := hbu1
            have hR1u := hOu1.ints
            go_wp2_with fail
            refine (rset_nodes (addL 0#64 l2) _ hR1u).mono ?_
            rintro e w' ⟨rfl, rfl⟩
            go_wp2_with fail
            refine (with_any s n _).mono ?_
            rintro e w' ⟨rfl, rfl⟩
            go_wp2_with fail
            refine (KW.out _ hW1).mono ?_
            rintro e W2 ⟨u2, rfl, hOu2, hbu2⟩
            have hW2 := below_next hW1 hbu2
            have hR2u := hOu2.ints
            go_wp2_with fail
            refine (rset_nodes (s ||| oneI n) _ hR2u).mono ?_
            rintro e w' ⟨rfl, rfl⟩
            go_wp2_with fail
            refine (without_any s n _).mono ?_
            rintro e w' ⟨rfl, rfl⟩
            go_wp2_with fail
            refine (KLs.out _ hW2).mono ?_
            rintro e w' ⟨rfl, rfl⟩
            go_wp2_with fail
            refine (first_any n _).mono ?_
            rintro e w' ⟨rfl, rfl⟩
            go_wp2_with fail
            refine (KF.out _ hW2).mono ?_
            rintro e w' ⟨rfl, rfl⟩
            go_wp2_with fail
            refine (KH1.out _).mono ?_
            rintro e w' ⟨rfl, rfl⟩
            go_wp2_with fail
            refine (KH2.out _ hW2).mono ?_
            rintro e w' ⟨rfl, rfl⟩
            go_wp2_with fail
            refine (KLen.out _).mono ?_
            rintro e w' ⟨rfl, rfl⟩
            go_wp2_with fail
            refine (one_yes _ (HT.out.below (hbW.trans (hW2.mono hbW.size)))).mono ?_
            rintro e W3 ⟨rfl, hb3⟩
            have hW3 := below_next (hbW.trans (hW2.mono hbW.size)) hb3
            go_wp2_with fail
            go_ret
            exact ⟨rfl, hW3⟩
          · have h64' : ¬ (k : Int) < 64 := by omega
            obtain rfl : k = min 64 n.toNat := by omega
            clear hlt hk 
            have KO := Lib.hid (fun W (h : Below wr.heap.size wr W) => bof_any W ((hRaA.below hBk).below h))
            have KM := Lib.hid (fun W (h : Below wr.heap.size wr W) => rmade_any W ((hRaA.below hBk).below h))
            have kw := fun W (h : Below wr.heap.size wr W) => rmade_any W ((hRwA.below hBk).below h)
            rw [with_set] at kw
            have KW := Lib.hid kw
            have kls := fun W (h : Below wr.heap.size wr W) => rset_any W ((hLA.below hBk).below h) (less_range s n) (less_sorted s n)
            rw [less_set] at kls
            have KLs := Lib.hid kls
            have kf := fun W (h : Below wr.heap.size wr W) => rset_any W (hOk.ints.below h) (first_range _ (by omega)) (upto_sorted _ _)
            rw [first_set] at kf
            have KF := Lib.hid kf
            have kh2 := fun W (h : Below wr.heap.size wr W) => rhas_any n W ((hRoA.below hBk).below h)
            rw [show decide (n ∈ nodes s) = hasI s n by rw [Bool.eq_iff_iff, decide_eq_true_eq]; exact nodes_mem (card s) s rfl n] at kh2
            have KH2 := Lib.hid kh2
            have KH1 := Lib.hid (fun W => has_any s n W)
            have kl := fun W => len_any s W
            rw [show ((card s : Nat) : Int) = ((nodes s).length : Int) by rw [nodes_length _ s rfl]] at kl
            have KLen := Lib.hid kl
            have hbW := hbA.trans (hBk.mono hbA.size)
            clear kw kls kf kh2 kl hLA hRoA hRwA hRaA hBk hOk hbA
            generalize hasI s n = HB at *
            go_wp2_with fail
            refine (KO.out _ (Below.refl _ _)).mono ?_
            rintro e w' ⟨rfl, rfl⟩
            go_wp2_with fail
            refine (KM.out _ (Below.refl _ _)).mono ?_
            rintro e W1 ⟨u1, rfl, hOu1, hbu1⟩
            have hW1 := hbu1
            have hR1u := hOu1.ints
            go_wp2_with fail
            refine (rset_nodes (addL 0#64 l2) _ hR1u).mono ?_
            rintro e w' ⟨rfl, rfl⟩
            go_wp2_with fail
            refine (with_any s n _).mono ?_
            rintro e w' ⟨rfl, rfl⟩
            go_wp2_with fail
            refine (KW.out _ hW1).mono ?_
            rintro e W2 ⟨u2, rfl, hOu2, hbu2⟩
            have hW2 := below_next hW1 hbu2
            have hR2u := hOu2.ints
            go_wp2_with fail
            refine (rset_nodes (s ||| oneI n) _ hR2u).mono ?_
            rintro e w' ⟨rfl, rfl⟩
            go_wp2_with fail
            refine (without_any s n _).mono ?_
            rintro e w' ⟨rfl, rfl⟩
            go_wp2_with fail
            refine (KLs.out _ hW2).mono ?_
            rintro e w' ⟨rfl, rfl⟩
            go_wp2_with fail
            refine (first_any n _).mono ?_
            rintro e w' ⟨rfl, rfl⟩
            go_wp2_with fail
            refine (KF.out _ hW2).mono ?_
            rintro e w' ⟨rfl, rfl⟩
            go_wp2_with fail
            refine (KH1.out _).mono ?_
            rintro e w' ⟨rfl, rfl⟩
            go_wp2_with fail
            refine (KH2.out _ hW2).mono ?_
            rintro e w' ⟨rfl, rfl⟩
            go_wp2_with fail
            refine (KLen.out _).mono ?_
            rintro e w' ⟨rfl, rfl⟩
            go_wp2_with fail
            refine (one_yes _ (HT.out.below (hbW.trans (hW2.mono hbW.size)))).mono ?_
            rintro e W3 ⟨rfl, hb3⟩
            have hW3 := below_next (hbW.trans (hW2.mono hbW.size)) hb3
            go_wp2_with fail
            go_ret
            exact ⟨rfl, hW3⟩
theorem makes_all (s : NSet) (a : Option Addr) (len cap : Nat) (l : List Int) (n : Int) (w : World) (hT : TabZ w) (h : ReadsI w (.slice a len cap) l ∧ l.length = len ∧ len ≤ cap) :
    Calls Tryd.prog 3 #[.int .u64 (nv s), .slice a len cap, .int .i64 n] w fun e w' => e = .returned (.bool true) ∧ Below w.heap.size w w' := by
  by_cases hlen : len ≤ 200
  · exact makes_walk s a len cap l n w hT h.1 h.2.1 h.2.2 hlen
  · exact makes_long s a len cap l n w hT h.1 h.2.1 h.2.2 (by omega)
end Go.Proofs.YtkllhnfnkgkelaaDoor
