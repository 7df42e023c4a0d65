/- The reference's lists of nodes (layer 7): Of, Has alone (XBitsRef's first part, for seats in which Set has no body). No condition but that lists may be read. -/
import Derived.Test.YtgeldpfojmkdbaaOwnI
import Derived.Test.YtgeldpfojmkdbaaBitsRefP
namespace Go.Proofs.Ytgeldpfojmkdbaa
set_option linter.unusedVariables false
open Go.ChangeShapes Go.WideShapes Go.ChangeAt Go.RowKit
attribute [local go_sem ↓] Go.wp_at_zero Go.wp_at_succ

theorem bit_at (s : NSet) (k : Nat) : ((s.toNat / 2 ^ k % 2 : Nat) : Int) = if s.getLsbD k = true then 1 else 0 := by
  have : s.getLsbD k = decide (s.toNat / 2 ^ k % 2 = 1) := by
    rw [BitVec.getLsbD, Nat.testBit_eq_decide_div_mod_eq]
  rw [this]
  by_cases h : s.toNat / 2 ^ k % 2 = 1
  · simp [h]
  · have : s.toNat / 2 ^ k % 2 = 0 := by omega
    simp [this]
set_option maxRecDepth 100000 in
theorem rof_any (s : NSet) (w : World) : Calls Try.prog 27 #[.int .u64 (nv s)] w (GivesI w (nodes s)) := by
  rw [← upto_nodes]
  go_enter Try.func27, Try.ntmps27
  go_wp2
  go_loopw [0, 3, 4] (fun x l i wr => ∃ (k : Nat) (v : Value), k ≤ 64 ∧ i = .int .i64 k ∧ x = .int .u64 ((s.toNat / 2 ^ k : Nat) : Int) ∧ l = v ∧ OwnI wr w.heap.size v (upto (fun i => s.getLsbD i) k) ∧ Below w.heap.size w wr) (fun _ _ i _ => 64 - (intOf i).toNat)
  case atStart => exact ⟨0, _, by omega, rfl, by simp [nv], rfl, OwnI.nil, Below.refl _ _⟩
  case round =>
    obtain ⟨k, v, hk, rfl, rfl, rfl, hO, hB⟩ := hrel
    have hlen := upto_length (fun i => s.getLsbD i) k
    by_cases hlt : k < 64
    · have hb := bit_at s k
      have e2 : s.toNat / 2 ^ k / 2 = s.toNat / 2 ^ (k + 1) := by rw [Nat.div_div_eq_div_mul, Nat.pow_succ]
      have hX : ((s.toNat / 2 ^ (k + 1) : Nat) : Int) = ((s.toNat / 2 ^ k : Nat) : Int) / 2 := by rw [← e2]; generalize s.toNat / 2 ^ k = y; omega
      have hm : ((s.toNat / 2 ^ k % 2 : Nat) : Int) = ((s.toNat / 2 ^ k : Nat) : Int) % 2 := by generalize s.toNat / 2 ^ k = y; omega
      rw [hm] at hb
      have HX := Lib.hid hX
      clear hX hm e2
      have hx0 : 0 ≤ ((s.toNat / 2 ^ k : Nat) : Int) := Int.natCast_nonneg _
      have hx1 : ((s.toNat / 2 ^ k : Nat) : Int) ≤ 18446744073709551615 := by have h1 := s.isLt; have h2 := Nat.div_le_self s.toNat (2 ^ k); generalize s.toNat / 2 ^ k = y at *; omega
      generalize ((s.toNat / 2 ^ k : Nat) : Int) = X at *
      cases hbit : s.getLsbD k with
      | true =>
        rw [hbit, if_pos rfl] at hb
        have hb' : (X % 2 == 1) = true := by rw [hb]; rfl
        have HU := Lib.hid (upto_yes (p := fun i => s.getLsbD i) hbit)
        clear hb hbit
        go_wp2_with (at_builtin; refine wpList_append_int 55 Try.underlying55 rfl _ _ rfl w.heap.size u3 _ rfl (hO.below (below_alloc (Below.refl _ wr) _)) wr.heap.size 1 (k : Int) rfl (by simp) (by omega) (by simp; have := hB.size; omega) ?_; intro v' w1 hO' hB')
        go_roundw
        case rel => exact ⟨k + 1, _, by omega, by go_num, by rw [HX.out], rfl, by rw [HU.out]; exact hO', hB.trans ((Below.alloc (Below.refl _ _) hB.size _).trans hB')⟩
        case measure => simp [intOf]; omega
      | false =>
        rw [hbit, if_neg (by decide)] at hb
        have hb' : (X % 2 == 1) = false := by rw [hb]; rfl
        have HU := Lib.hid (upto_no (p := fun i => s.getLsbD i) hbit)
        clear hb hbit
        go_wp2
        go_roundw
        case rel => exact ⟨k + 1, _, by omega, by go_num, by rw [HX.out], rfl, by rw [HU.out]; exact hO, hB⟩
        case measure => simp [intOf]; omega
    · obtain rfl : k = 64 := by omega
      go_wp2
      go_ret
      exact ⟨_, rfl, hO, hB⟩
set_option maxRecDepth 100000 in
theorem rhas_row (g o c : Nat) (l : List Int) (n : Int) (w : World) (hl : l.length ≤ 9223372036854775807) (hc : ∀ k, k < l.length → w.cell? ⟨g, o + k, none⟩ = some (.int .i64 (l.getD k 0))) :
    Calls Try.prog 28 #[.slice (some ⟨g, o, none⟩) l.length c, .int .i64 n] w fun e w' => e = .returned (.bool (decide (n ∈ l))) ∧ w = w' := by
  have HC := Lib.hid hc
  clear hc
  generalize hD : decide (n ∈ l) = D
  have HD := Lib.hid hD
  clear hD
  go_enter Try.func28, Try.ntmps28
  go_wp2
  go_loop [5] (fun i => ∃ k : Nat, k ≤ l.length ∧ i = .int .i64 k ∧ n ∉ l.take k) (fun i => l.length - (intOf i).toNat)
  case atStart => exact ⟨0, Nat.zero_le _, rfl, by simp⟩
  case round =>
    obtain ⟨k, hk, rfl, hno⟩ := hrel
    by_cases hlt : k < l.length
    · have hcell := HC.out k hlt
      have hx : l.getD k 0 = l[k] := by simp [List.getD, List.getElem?_eq_getElem hlt]
      by_cases hn : l.getD k 0 = n
      · have hb : (l.getD k 0 == n) = true := by simpa using hn
        have hD2 : D = true := by rw [← HD.out, decide_eq_true_eq, ← hn, hx]; exact List.getElem_mem hlt
        subst hD2
        clear hn hx hno
        generalize l.getD k 0 = x at *
        go_wp2
        go_ret
        exact ⟨rfl, rfl⟩
      · have hb : (l.getD k 0 == n) = false := by simpa using hn
        have HN := Lib.hid (show n ∉ l.take (k + 1) by
          rw [List.take_succ_eq_append_getElem hlt, List.mem_append, List.mem_singleton]
          rintro (h | h)
          · exact hno h
          · exact hn (hx.trans h.symm))
        clear hn hx hno
        generalize l.getD k 0 = x at *
        go_wp2
        go_round
        case rel => exact ⟨k + 1, by omega, by go_num, HN.out⟩
        case measure => simp [intOf]; omega
    · obtain rfl : k = l.length := by omega
      have hD2 : D = false := by rw [← HD.out, decide_eq_false_iff_not]; rwa [List.take_of_length_le (Nat.le_refl _)] at hno
      subst hD2
      clear hno
      go_wp2
      go_ret
      exact ⟨rfl, rfl⟩
theorem rhas_none (a : Option Addr) (c : Nat) (n : Int) (w : World) :
    Calls Try.prog 28 #[.slice a 0 c, .int .i64 n] w fun e w' => e = .returned (.bool false) ∧ w = w' := by
  go_enter Try.func28, Try.ntmps28
  go_wp2
  go_loop [5] (fun i => i = .int .i64 0) (fun i => 0)
  case atStart => exact rfl
  case round =>
    subst hrel
    go_wp2
    go_ret
    exact ⟨rfl, rfl⟩
theorem rhas_any {v : Value} {l : List Int} (n : Int) (w : World) (h : ReadsI w v l) :
    Calls Try.prog 28 #[v, .int .i64 n] w fun e w' => e = .returned (.bool (decide (n ∈ l))) ∧ w = w' := by
  rcases h with ⟨rfl, a, c, rfl⟩ | ⟨h0, h1, g, o, c, rfl, _, hc⟩
  · have := rhas_none a c n w
    simpa using this
  · exact rhas_row g o c l n w h1 hc
end Go.Proofs.Ytgeldpfojmkdbaa
