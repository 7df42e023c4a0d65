/- BitsTells walked. Condition: math/bits' table of trailing zeros lies as its text lays it. -/
import Derived.Lib.MinMax
import Derived.Test.YtkllhnfnkgkelaaDoorBitsListed
import Derived.Test.YtkllhnfnkgkelaaDoorBitsRText
import Derived.Test.YtkllhnfnkgkelaaDoorBitsOne
import Derived.Test.YtkllhnfnkgkelaaDoorPickP
import Derived.Test.YtkllhnfnkgkelaaDoorBitsMakesP
namespace Go.Proofs.YtkllhnfnkgkelaaDoor
set_option linter.unusedVariables false
open Go.ChangeShapes Go.WideShapes Go.ChangeAt Go.RowKit Go.Shelf
attribute [local go_sem ↓] Go.wp_at_zero Go.wp_at_succ comesTo_value_eq comesTo_skip_eq comesTo_enter_eq

theorem ReadsI.first {w : World} {av : Option Addr} {len cv : Nat} {l : List Int} (h : ReadsI w (.slice av len cv) l) {k : Nat} (hk : k ≤ l.length) : ReadsI w (.slice av k cv) (l.take k) := by
  have hlen : (l.take k).length = k := by rw [List.length_take]; omega
  rcases h with ⟨rfl, a, c, hv⟩ | ⟨h0, hm, g, o, c, hv, hcap, hc⟩
  · cases hv
    have h0 : k = 0 := by simpa using hk
    subst h0
    exact .inl ⟨rfl, _, _, rfl⟩
  · cases hv
    by_cases h0 : k = 0
    · subst h0; exact .inl ⟨rfl, _, _, rfl⟩
    · refine .inr ⟨by omega, by omega, g, o, cv, by rw [hlen], by omega, fun j hj => ?_⟩
      rw [hlen] at hj
      rw [hc j (by omega)]
      simp [List.getD, List.getElem?_take, hj]
theorem rset_first (s : NSet) (k : Nat) {v : Value} (w : World) (h : ReadsI w v ((nodes s).take k)) : Calls Tryd.prog 14 #[v] w fun e w' => e = .returned (.int .u64 (nv (tk k s))) ∧ w = w' := by
  have := rset_any w h (fun x hx => nodes_range s x (List.mem_of_mem_take hx)) ((nodes_sorted (card s) s rfl).sublist (List.take_sublist _ _))
  rw [addL_take, BitVec.zero_or] at this
  exact this
set_option maxRecDepth 100000 in
set_option maxHeartbeats 4000000 in
theorem tells_zb (s : NSet) (n : Int) (w : World) (hT : TabZ w) (hlo : -9223372036854775808 ≤ n) (hhi : n ≤ 9223372036854775807) (hs : s = 0#64) (hn : (card s : Int) < n) :
    Calls Tryd.prog 4 #[.int .u64 (nv s), .int .i64 n] w fun e w' => e = .returned (.bool true) ∧ Below w.heap.size w w' := by
  have hcard := card_le s
  have hlen : (nodes s).length = card s := nodes_length (card s) s rfl
  have hl1000 : (nodes s).length ≤ 1000 := by omega
  have HT := Lib.hid hT
  have KOf := Lib.hid (rof_any s)
  have KLi := Lib.hid (fun W (h : TabZ W) => listed_any s W h)
  have KTx := Lib.hid (fun W (h : TabZ W) => text_all s W h)
  have KRt := Lib.hid (fun v W (h : ReadsI W v (nodes s)) => rtext_nodes s W h)
  have kl := fun W (h : TabZ W) => lowest_any s W h
  rw [show lowI s = -1 by unfold lowI; rw [if_pos hs]] at kl
  have e0 : (nodes s).length = 0 := by rw [hlen, hs, card_zero]
  have KLow := Lib.hid kl
  have kt := fun W => take_no s n W hn
  have hgt : decide ((0 : Int) < n) = true := by simp; omega
  have KTk := Lib.hid kt
  clear kt kl hT hs hn hcard hlo hhi
  have HL := Lib.hid hlen
  clear hlen
  go_enter Tryd.func4, Tryd.ntmps4
  go_wp2_with fail
  refine (KOf.out _).mono ?_
  rintro e w1 ⟨v, rfl, hO, hb1⟩
  obtain ⟨av, cv, rfl⟩ := hO.form
  have hR1 := hO.ints
  have hT1 := HT.out.below hb1
  rw [e0] at hR1 ⊢
  clear hO
  go_wp2_with fail
  refine (KTk.out _).mono ?_
  rintro e w' ⟨rfl, rfl⟩
  go_wp2_with fail
  refine (KLow.out _ hT1).mono ?_
  rintro e w' ⟨rfl, rfl⟩
  go_wp2_with fail
  refine (KLi.out _ hT1).mono ?_
  rintro e W2 ⟨u, rfl, hO2, hb2⟩
  go_wp2_with fail
  refine (same_any (nodes s) W2 hl1000 hO2.ints (hR1.below hb2)).mono ?_
  rintro e W3 ⟨rfl, hb3⟩
  have hB3 := below_next hb2 hb3
  go_wp2_with fail
  refine (KTx.out _ (hT1.below hB3)).mono ?_
  rintro e W4 ⟨rfl, hb4⟩
  have hB4 := below_next hB3 hb4
  go_wp2_with fail
  refine (KRt.out _ _ (hR1.below hB4)).mono ?_
  rintro e W5 ⟨rfl, hb5⟩
  have hB5 := below_next hB4 hb5
  go_wp2_with fail
  refine (one_yes _ (hT1.below hB5)).mono ?_
  rintro e W6 ⟨rfl, hb6⟩
  have hB6 := below_next hB5 hb6
  go_wp2_with fail
  go_ret
  exact ⟨rfl, hb1.trans (hB6.mono hb1.size)⟩
set_option maxRecDepth 100000 in
set_option maxHeartbeats 4000000 in
theorem tells_zs (s : NSet) (n : Int) (w : World) (hT : TabZ w) (hlo : -9223372036854775808 ≤ n) (hhi : n ≤ 9223372036854775807) (hs : s = 0#64) (hn : n ≤ (card s : Int)) :
    Calls Tryd.prog 4 #[.int .u64 (nv s), .int .i64 n] w fun e w' => e = .returned (.bool true) ∧ Below w.heap.size w w' := by
  have hcard := card_le s
  have hlen : (nodes s).length = card s := nodes_length (card s) s rfl
  have hl1000 : (nodes s).length ≤ 1000 := by omega
  have HT := Lib.hid hT
  have KOf := Lib.hid (rof_any s)
  have KLi := Lib.hid (fun W (h : TabZ W) => listed_any s W h)
  have KTx := Lib.hid (fun W (h : TabZ W) => text_all s W h)
  have KRt := Lib.hid (fun v W (h : ReadsI W v (nodes s)) => rtext_nodes s W h)
  have kl := fun W (h : TabZ W) => lowest_any s W h
  rw [show lowI s = -1 by unfold lowI; rw [if_pos hs]] at kl
  have e0 : (nodes s).length = 0 := by rw [hlen, hs, card_zero]
  have KLow := Lib.hid kl
  have kt := fun W (h : TabZ W) => take_yes s n W h hn hlo
  have hgt : decide ((0 : Int) < n) = false := by simp; omega
  obtain ⟨k, hk⟩ : ∃ k, k = n.toNat := ⟨_, rfl⟩
  rw [← hk] at kt
  have hmax : max n 0 = (k : Int) := by omega
  have hkl : k ≤ (nodes s).length := by omega
  have KS := Lib.hid (fun v W (h : ReadsI W v ((nodes s).take k)) => rset_first s k W h)
  have KTk := Lib.hid kt
  clear kt kl hT hs hn hcard hlo hhi
  clear hk
  have HL := Lib.hid hlen
  clear hlen
  go_enter Tryd.func4, Tryd.ntmps4
  go_wp2_with fail
  refine (KOf.out _).mono ?_
  rintro e w1 ⟨v, rfl, hO, hb1⟩
  obtain ⟨av, cv, rfl⟩ := hO.form
  have hR1 := hO.ints
  have hT1 := HT.out.below hb1
  rw [e0] at hR1 ⊢
  have hk0 : k = 0 := by omega
  subst hk0
  have hRk := hR1.first hkl
  clear hO
  go_wp2_with fail
  refine (KTk.out _ hT1).mono ?_
  rintro e w' ⟨rfl, rfl⟩
  go_wp2_with fail
  refine (KS.out _ _ hRk).mono ?_
  rintro e w' ⟨rfl, rfl⟩
  go_wp2_with fail
  refine (KLow.out _ hT1).mono ?_
  rintro e w' ⟨rfl, rfl⟩
  go_wp2_with fail
  refine (KLi.out _ hT1).mono ?_
  rintro e W2 ⟨u, rfl, hO2, hb2⟩
  go_wp2_with fail
  refine (same_any (nodes s) W2 hl1000 hO2.ints (hR1.below hb2)).mono ?_
  rintro e W3 ⟨rfl, hb3⟩
  have hB3 := below_next hb2 hb3
  go_wp2_with fail
  refine (KTx.out _ (hT1.below hB3)).mono ?_
  rintro e W4 ⟨rfl, hb4⟩
  have hB4 := below_next hB3 hb4
  go_wp2_with fail
  refine (KRt.out _ _ (hR1.below hB4)).mono ?_
  rintro e W5 ⟨rfl, hb5⟩
  have hB5 := below_next hB4 hb5
  go_wp2_with fail
  refine (one_yes _ (hT1.below hB5)).mono ?_
  rintro e W6 ⟨rfl, hb6⟩
  have hB6 := below_next hB5 hb6
  go_wp2_with fail
  go_ret
  exact ⟨rfl, hb1.trans (hB6.mono hb1.size)⟩
set_option maxRecDepth 100000 in
set_option maxHeartbeats 4000000 in
theorem tells_nb (s : NSet) (n : Int) (w : World) (hT : TabZ w) (hlo : -9223372036854775808 ≤ n) (hhi : n ≤ 9223372036854775807) (hs : s ≠ 0#64) (hn : (card s : Int) < n) :
    Calls Tryd.prog 4 #[.int .u64 (nv s), .int .i64 n] w fun e w' => e = .returned (.bool true) ∧ Below w.heap.size w w' := by
  have hcard := card_le s
  have hlen : (nodes s).length = card s := nodes_length (card s) s rfl
  have hl1000 : (nodes s).length ≤ 1000 := by omega
  have HT := Lib.hid hT
  have KOf := Lib.hid (rof_any s)
  have KLi := Lib.hid (fun W (h : TabZ W) => listed_any s W h)
  have KTx := Lib.hid (fun W (h : TabZ W) => text_all s W h)
  have KRt := Lib.hid (fun v W (h : ReadsI W v (nodes s)) => rtext_nodes s W h)
  have kl := fun W (h : TabZ W) => lowest_any s W h
  have hget : (nodes s).getD 0 0 = lowI s := by rw [nodes_cons hs]; rfl
  have hlp : 0 < (nodes s).length := by rw [nodes_cons hs]; simp
  have hl0 : decide ((0 : Int) < ((nodes s).length : Int)) = true := by simp; omega
  have KLow := Lib.hid kl
  have kt := fun W => take_no s n W hn
  have hgt : decide (((nodes s).length : Int) < n) = true := by simp; omega
  have KTk := Lib.hid kt
  clear kt kl hT hs hn hcard hlo hhi
  have HL := Lib.hid hlen
  clear hlen
  go_enter Tryd.func4, Tryd.ntmps4
  go_wp2_with fail
  refine (KOf.out _).mono ?_
  rintro e w1 ⟨v, rfl, hO, hb1⟩
  obtain ⟨av, cv, rfl⟩ := hO.form
  have hR1 := hO.ints
  have hT1 := HT.out.below hb1
  have hR2 := hR1
  rcases hR2 with ⟨he, _⟩ | ⟨h0, hm, g, o, c, hv, hcap, hc⟩
  · rw [he] at hlp; exact absurd hlp (Nat.lt_irrefl _)
  cases hv
  have hcell := hc 0 h0
  rw [hget, Nat.add_zero] at hcell
  clear hc
  clear hO
  go_wp2_with fail
  refine (KTk.out _).mono ?_
  rintro e w' ⟨rfl, rfl⟩
  go_wp2_with fail
  refine (KLow.out _ hT1).mono ?_
  rintro e w' ⟨rfl, rfl⟩
  go_wp2_with fail
  refine (KLi.out _ hT1).mono ?_
  rintro e W2 ⟨u, rfl, hO2, hb2⟩
  go_wp2_with fail
  refine (same_any (nodes s) W2 hl1000 hO2.ints (hR1.below hb2)).mono ?_
  rintro e W3 ⟨rfl, hb3⟩
  have hB3 := below_next hb2 hb3
  go_wp2_with fail
  refine (KTx.out _ (hT1.below hB3)).mono ?_
  rintro e W4 ⟨rfl, hb4⟩
  have hB4 := below_next hB3 hb4
  go_wp2_with fail
  refine (KRt.out _ _ (hR1.below hB4)).mono ?_
  rintro e W5 ⟨rfl, hb5⟩
  have hB5 := below_next hB4 hb5
  go_wp2_with fail
  refine (one_yes _ (hT1.below hB5)).mono ?_
  rintro e W6 ⟨rfl, hb6⟩
  have hB6 := below_next hB5 hb6
  go_wp2_with fail
  go_ret
  exact ⟨rfl, hb1.trans (hB6.mono hb1.size)⟩
set_option maxRecDepth 100000 in
set_option maxHeartbeats 4000000 in
theorem tells_ns (s : NSet) (n : Int) (w : World) (hT : TabZ w) (hlo : -9223372036854775808 ≤ n) (hhi : n ≤ 9223372036854775807) (hs : s ≠ 0#64) (hn : n ≤ (card s : Int)) :
    Calls Tryd.prog 4 #[.int .u64 (nv s), .int .i64 n] w fun e w' => e = .returned (.bool true) ∧ Below w.heap.size w w' := by
  have hcard := card_le s
  have hlen : (nodes s).length = card s := nodes_length (card s) s rfl
  have hl1000 : (nodes s).length ≤ 1000 := by omega
  have HT := Lib.hid hT
  have KOf := Lib.hid (rof_any s)
  have KLi := Lib.hid (fun W (h : TabZ W) => listed_any s W h)
  have KTx := Lib.hid (fun W (h : TabZ W) => text_all s W h)
  have KRt := Lib.hid (fun v W (h : ReadsI W v (nodes s)) => rtext_nodes s W h)
  have kl := fun W (h : TabZ W) => lowest_any s W h
  have hget : (nodes s).getD 0 0 = lowI s := by rw [nodes_cons hs]; rfl
  have hlp : 0 < (nodes s).length := by rw [nodes_cons hs]; simp
  have hl0 : decide ((0 : Int) < ((nodes s).length : Int)) = true := by simp; omega
  have KLow := Lib.hid kl
  have kt := fun W (h : TabZ W) => take_yes s n W h hn hlo
  have hgt : decide (((nodes s).length : Int) < n) = false := by simp; omega
  obtain ⟨k, hk⟩ : ∃ k, k = n.toNat := ⟨_, rfl⟩
  rw [← hk] at kt
  have hmax : max n 0 = (k : Int) := by omega
  have hkl : k ≤ (nodes s).length := by omega
  have KS := Lib.hid (fun v W (h : ReadsI W v ((nodes s).take k)) => rset_first s k W h)
  have KTk := Lib.hid kt
  clear kt kl hT hs hn hcard hlo hhi
  clear hk
  have HL := Lib.hid hlen
  clear hlen
  go_enter Tryd.func4, Tryd.ntmps4
  go_wp2_with fail
  refine (KOf.out _).mono ?_
  rintro e w1 ⟨v, rfl, hO, hb1⟩
  obtain ⟨av, cv, rfl⟩ := hO.form
  have hR1 := hO.ints
  have hT1 := HT.out.below hb1
  have hR2 := hR1
  rcases hR2 with ⟨he, _⟩ | ⟨h0, hm, g, o, c, hv, hcap, hc⟩
  · rw [he] at hlp; exact absurd hlp (Nat.lt_irrefl _)
  cases hv
  have hcell := hc 0 h0
  rw [hget, Nat.add_zero] at hcell
  clear hc
  have hkc : (k : Int) ≤ (cv : Int) := by omega
  have hRk := hR1.first hkl
  clear hO
  go_wp2_with fail
  refine (KTk.out _ hT1).mono ?_
  rintro e w' ⟨rfl, rfl⟩
  go_wp2_with fail
  refine (KS.out _ _ hRk).mono ?_
  rintro e w' ⟨rfl, rfl⟩
  go_wp2_with fail
  refine (KLow.out _ hT1).mono ?_
  rintro e w' ⟨rfl, rfl⟩
  go_wp2_with fail
  refine (KLi.out _ hT1).mono ?_
  rintro e W2 ⟨u, rfl, hO2, hb2⟩
  go_wp2_with fail
  refine (same_any (nodes s) W2 hl1000 hO2.ints (hR1.below hb2)).mono ?_
  rintro e W3 ⟨rfl, hb3⟩
  have hB3 := below_next hb2 hb3
  go_wp2_with fail
  refine (KTx.out _ (hT1.below hB3)).mono ?_
  rintro e W4 ⟨rfl, hb4⟩
  have hB4 := below_next hB3 hb4
  go_wp2_with fail
  refine (KRt.out _ _ (hR1.below hB4)).mono ?_
  rintro e W5 ⟨rfl, hb5⟩
  have hB5 := below_next hB4 hb5
  go_wp2_with fail
  refine (one_yes _ (hT1.below hB5)).mono ?_
  rintro e W6 ⟨rfl, hb6⟩
  have hB6 := below_next hB5 hb6
  go_wp2_with fail
  go_ret
  exact ⟨rfl, hb1.trans (hB6.mono hb1.size)⟩
theorem tells_all (s : NSet) (n : Int) (w : World) (hT : TabZ w) (hlo : -9223372036854775808 ≤ n) (hhi : n ≤ 9223372036854775807) :
    Calls Tryd.prog 4 #[.int .u64 (nv s), .int .i64 n] w fun e w' => e = .returned (.bool true) ∧ Below w.heap.size w w' := by
  by_cases hs : s = 0#64
  · by_cases hn : (card s : Int) < n
    · exact tells_zb s n w hT hlo hhi hs hn
    · exact tells_zs s n w hT hlo hhi hs (by omega)
  · by_cases hn : (card s : Int) < n
    · exact tells_nb s n w hT hlo hhi hs hn
    · exact tells_ns s n w hT hlo hhi hs (by omega)
end Go.Proofs.YtkllhnfnkgkelaaDoor
