/- The document's Set and Made at any nodes: the rest of XBitsRef, behind XRof. No condition. -/
import Derived.Test.YtgeldpfojmkdbaaRof
namespace Go.Proofs.Ytgeldpfojmkdbaa
set_option linter.unusedVariables false
open Go.ChangeShapes Go.WideShapes Go.ChangeAt Go.RowKit
attribute [local go_sem ↓] Go.wp_at_zero Go.wp_at_succ
set_option maxRecDepth 100000 in
theorem rset_row (g o c : Nat) (l : List Int) (w : World) (hl : l.length ≤ 9223372036854775807) (hc : ∀ k, k < l.length → w.cell? ⟨g, o + k, none⟩ = some (.int .i64 (l.getD k 0)))
    (hr : ∀ x ∈ l, 0 ≤ x ∧ x < 64) (hs : ∀ k, k < l.length → hasI (addL 0#64 (l.take k)) (l.getD k 0) = false) :
    Calls Try.prog 30 #[.slice (some ⟨g, o, none⟩) l.length c] w fun e w' => e = .returned (.int .u64 (nv (addL 0#64 l))) ∧ w = w' := by
  have HC := Lib.hid hc
  clear hc
  go_enter Try.func30, Try.ntmps30
  go_wp2
  go_loop [3, 4] (fun s i => ∃ k : Nat, k ≤ l.length ∧ i = .int .i64 k ∧ s = .int .u64 (nv (addL 0#64 (l.take k)))) (fun _ i => l.length - (intOf i).toNat)
  case atStart => exact ⟨0, Nat.zero_le _, rfl, rfl⟩
  case round =>
    obtain ⟨k, hk, rfl, rfl⟩ := hrel
    by_cases hlt : k < l.length
    · have hcell := HC.out k hlt
      have hx : l.getD k 0 = l[k] := by simp [List.getD, List.getElem?_eq_getElem hlt]
      have hb : 0 ≤ l.getD k 0 ∧ l.getD k 0 < 64 := by rw [hx]; exact hr _ (List.getElem_mem hlt)
      have hnew := and_oneI_zero (hs k hlt)
      have e1 : addL 0#64 (l.take (k + 1)) = addL 0#64 (l.take k) ||| oneI (l.getD k 0) := by
        rw [List.take_succ_eq_append_getElem hlt, addL_snoc, hx]
      have e2 := add_or_nat hnew
      rw [← e1] at e2
      have e3 := one_val (l.getD k 0) hb.1
      have HE : nv (addL 0#64 (l.take k)) + nv (oneI (l.getD k 0)) = nv (addL 0#64 (l.take (k + 1))) := by unfold nv; omega
      have hA0 := nv_lo (addL 0#64 (l.take k))
      have hO0 := nv_lo (oneI (l.getD k 0))
      have hS1 := nv_hi (addL 0#64 (l.take (k + 1)))
      clear e1 e2 hnew hx
      generalize hS2 : nv (addL 0#64 (l.take (k + 1))) = S2 at *
      have HS2 := Lib.hid hS2
      clear hS2
      generalize nv (addL 0#64 (l.take k)) = S1 at *
      generalize nv (oneI (l.getD k 0)) = O at *
      generalize l.getD k 0 = x at *
      obtain ⟨hx0, hx1⟩ := hb
      subst HE
      go_wp2
      go_round
      case rel => exact ⟨k + 1, by omega, by go_num, by rw [HS2.out]⟩
      case measure => simp [intOf]; omega
    · obtain rfl : k = l.length := by omega
      rw [List.take_of_length_le (Nat.le_refl _)]
      go_wp2
      go_ret
      exact ⟨rfl, rfl⟩
theorem rset_none (a : Option Addr) (c : Nat) (w : World) : Calls Try.prog 30 #[.slice a 0 c] w fun e w' => e = .returned (.int .u64 0) ∧ w = w' := by
  go_enter Try.func30, Try.ntmps30
  go_wp2
  go_loop [3, 4] (fun s i => s = .int .u64 0 ∧ i = .int .i64 0) (fun _ i => 0)
  case atStart => exact ⟨rfl, rfl⟩
  case round =>
    obtain ⟨rfl, rfl⟩ := hrel
    go_wp2
    go_ret
    exact ⟨rfl, rfl⟩
/-- the set of nodes that rise -/
theorem rset_any {v : Value} {l : List Int} (w : World) (h : ReadsI w v l) (hr : ∀ x ∈ l, 0 ≤ x ∧ x < 64) (hs : l.Pairwise (· < ·)) :
    Calls Try.prog 30 #[v] w fun e w' => e = .returned (.int .u64 (nv (addL 0#64 l))) ∧ w = w' := by
  rcases h with ⟨rfl, a, c, rfl⟩ | ⟨h0, h1, g, o, c, rfl, _, hc⟩
  · exact rset_none a c w
  · exact rset_row g o c l w h1 hc hr (fun k hk => rising_new hs hr k hk)
theorem rset_nodes {v : Value} (s : NSet) (w : World) (h : ReadsI w v (nodes s)) : Calls Try.prog 30 #[v] w fun e w' => e = .returned (.int .u64 (nv s)) ∧ w = w' := by
  have := rset_any w h (fun x hx => hasI_lt ((nodes_mem (card s) s rfl x).1 hx)) (nodes_sorted (card s) s rfl)
  rw [addL_nodes] at this
  exact this
set_option maxRecDepth 100000 in
theorem rmade_any {v : Value} {l : List Int} (w : World) (h : ReadsI w v l) : Calls Try.prog 29 #[v] w (GivesI w (nodes (addL 0#64 l))) := by
  rw [← made_nodes]
  have KH := Lib.hid (fun n W hb => rhas_any n W (h.below hb))
  clear h
  go_enter Try.func29, Try.ntmps29
  go_wp2
  go_loopw [3, 4] (fun r i wr => ∃ (k : Nat) (v : Value), k ≤ 64 ∧ i = .int .i64 k ∧ r = v ∧ OwnI wr w.heap.size v (upto (fun i => decide ((i : Int) ∈ l)) k) ∧ Below w.heap.size w wr) (fun _ i _ => 64 - (intOf i).toNat)
  case atStart => exact ⟨0, _, by omega, rfl, rfl, OwnI.nil, Below.refl _ _⟩
  case round =>
    obtain ⟨k, v', hk, rfl, rfl, hO, hB⟩ := hrel
    have hlen := upto_length (fun i => decide ((i : Int) ∈ l)) k
    by_cases hlt : k < 64
    · have KHk := KH.out (k : Int) wr hB
      cases hbit : decide ((k : Int) ∈ l) with
      | true =>
        rw [hbit] at KHk
        have HU := Lib.hid (upto_yes (p := fun i => decide ((i : Int) ∈ l)) hbit)
        have KH2 := Lib.hid KHk
        clear hbit KHk
        go_wp2_with fail
        refine KH2.out.mono ?_
        rintro e w' ⟨rfl, rfl⟩
        go_wp2_with (at_builtin; refine wpList_append_int 55 Try.underlying55 rfl _ _ rfl w.heap.size u3 _ rfl (hO.below (below_alloc (Below.refl _ wr) _)) wr.heap.size 1 (k : Int) rfl (by simp) (by omega) (by simp; have := hB.size; omega) ?_; intro v' w1 hO' hB')
        go_roundw
        case rel => exact ⟨k + 1, _, by omega, by go_num, rfl, by rw [HU.out]; exact hO', hB.trans ((Below.alloc (Below.refl _ _) hB.size _).trans hB')⟩
        case measure => simp [intOf]; omega
      | false =>
        rw [hbit] at KHk
        have HU := Lib.hid (upto_no (p := fun i => decide ((i : Int) ∈ l)) hbit)
        have KH2 := Lib.hid KHk
        clear hbit KHk
        go_wp2_with fail
        refine KH2.out.mono ?_
        rintro e w' ⟨rfl, rfl⟩
        go_wp2
        go_roundw
        case rel => exact ⟨k + 1, _, by omega, by go_num, rfl, by rw [HU.out]; exact hO, hB⟩
        case measure => simp [intOf]; omega
    · obtain rfl : k = 64 := by omega
      go_wp2
      go_ret
      exact ⟨_, rfl, hO, hB⟩
theorem with_set15 (s : NSet) (n : Int) : addL 0#64 (nodes s ++ [n]) = s ||| oneI n := by rw [addL_snoc, addL_nodes]
end Go.Proofs.Ytgeldpfojmkdbaa
