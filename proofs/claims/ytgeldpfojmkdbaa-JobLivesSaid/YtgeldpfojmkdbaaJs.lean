/- The document's job (layer 15): times, lengths, what two sets have in common. No condition. -/
import Derived.Test.YtgeldpfojmkdbaaJa
import Derived.Test.YtgeldpfojmkdbaaRof
import Derived.Test.YtgeldpfojmkdbaaBitsToks
import Derived.Test.YtgeldpfojmkdbaaBitsJoin
import Derived.Test.YtgeldpfojmkdbaaRelT
namespace Go.Proofs.Ytgeldpfojmkdbaa
set_option linter.unusedVariables false
open Go.ChangeShapes Go.WideShapes Go.ChangeAt Go.RowKit
attribute [local go_sem ↓] Go.wp_at_zero Go.wp_at_succ comesTo_value_eq comesTo_skip_eq comesTo_enter_eq Rl.comesToR_value_eq Rl.comesToR_skip_eq Rl.comesToR_enter_eq

theorem rtime_any (t : Int) (w : World) : Calls Try.prog 18 #[.int .i64 t] w fun e w' => e = .returned (.bool (timeB t)) ∧ w = w' := by
  have E := Lib.hid (show timeB t = (t == clampI t) from rfl)
  go_enter Try.func18, Try.ntmps18
  go_wp2_with (go_at_call 35; refine (rclamp_any _ _).mono ?_; rintro e w' ⟨rfl, rfl⟩)
  go_ret
  exact ⟨by rw [E.out]; rfl, rfl⟩
theorem rlen15 (s : NSet) (w : World) : Calls Try.prog 19 #[.int .u64 (nv s)] w fun e w' => e = .returned (.int .i64 (card s)) ∧ Below w.heap.size w w' := by
  have KO := Lib.hid (rof_any s w)
  have HN := Lib.hid (nodes_length _ s rfl)
  go_enter Try.func19, Try.ntmps19
  go_wp2_with fail
  refine KO.out.mono ?_
  rintro e w1 ⟨u, rfl, hO, hb⟩
  obtain ⟨av, cv, rfl⟩ := hO.form
  rw [HN.out]
  go_wp2
  go_ret
  exact ⟨rfl, hb⟩
theorem hasI_none (n : Int) : hasI 0#64 n = false := by
  rw [Bool.eq_false_iff]
  intro h
  have := ((hasI_iff 0#64 n).1 h).2
  simp at this
theorem meets_plain (a b : NSet) : (∃ x ∈ nodes a, x ∈ nodes b) ↔ (nv (a &&& b) == 0) = false := by
  rw [nv_is0, decide_eq_false_iff_not]
  constructor
  · rintro ⟨x, hx, hy⟩ h
    have h1 := (nodes_mem _ a rfl x).1 hx
    have h2 := (nodes_mem _ b rfl x).1 hy
    have := hasI_and a b x
    rw [h1, h2, h, hasI_none] at this
    exact absurd this (by decide)
  · intro h
    have := hasI_low h
    rw [hasI_and, Bool.and_eq_true] at this
    exact ⟨_, (nodes_mem _ a rfl _).2 this.1, (nodes_mem _ b rfl _).2 this.2⟩
set_option maxRecDepth 100000 in
set_option maxHeartbeats 4000000 in
theorem rmeets_any (a b : NSet) (w : World) : Calls Try.prog 20 #[.int .u64 (nv a), .int .u64 (nv b)] w fun e w' => e = .returned (.bool (!(nv (a &&& b) == 0))) ∧ Below w.heap.size w w' := by
  have KA := Lib.hid (rof_any a)
  have KB := Lib.hid (rof_any b)
  have hL64 : (nodes a).length ≤ 64 := by rw [nodes_length _ a rfl]; exact card_le a
  have HM := Lib.hid (meets_plain a b)
  generalize (nv (a &&& b) == 0) = M at *
  go_enter Try.func20, Try.ntmps20
  go_wp2_with fail
  refine (KA.out _).mono ?_
  rintro e w1 ⟨u, rfl, hO, hb⟩
  obtain ⟨av, cv, rfl⟩ := hO.form
  have HO1 := Lib.hid hO
  have HB1 := Lib.hid hb
  clear hO hb
  go_wp2_with fail
  refine (KB.out _).mono ?_
  rintro e w2 ⟨v, rfl, hO, hb⟩
  have RA := Lib.hid (HO1.out.ints.below hb)
  have RB := Lib.hid hO.ints
  have HB2 := Lib.hid (below_next HB1.out hb)
  clear hO hb KA KB HO1 HB1
  generalize nodes a = l at *
  generalize nodes b = m at *
  go_wp2_with fail
  go_loop [7] (fun i => ∃ k : Nat, k ≤ l.length ∧ i = .int .i64 k ∧ ∀ x ∈ l.take k, x ∉ m) (fun i => l.length - (intOf i).toNat)
  case atStart => exact ⟨0, Nat.zero_le _, rfl, by simp⟩
  case round =>
    obtain ⟨k, hk, rfl, hno⟩ := hrel
    by_cases hlt : k < l.length
    · obtain ⟨g, o, rfl, hcell⟩ : ∃ g o, av = some ⟨g, o, none⟩ ∧ w2.cell? ⟨g, o + k, none⟩ = some (.int .i64 (l.getD k 0)) := by
        rcases RA.out with ⟨h0, _⟩ | ⟨_, _, g, o, c, hv, _, hc⟩
        · rw [h0] at hlt; exact absurd hlt (by simp)
        · injection hv with h1 _ _
          exact ⟨g, o, h1, hc k hlt⟩
      have hx : l.getD k 0 = l[k] := by simp [List.getD, List.getElem?_eq_getElem hlt]
      have KH := Lib.hid (rhas_any (l.getD k 0) w2 RB.out)
      by_cases hn : l.getD k 0 ∈ m
      · rw [decide_eq_true hn] at KH
        obtain rfl : M = false := HM.out.1 ⟨_, by rw [hx]; exact List.getElem_mem hlt, hn⟩
        clear hn hx hno
        generalize l.getD k 0 = x at *
        go_wp2_with (go_at_call 28; refine KH.out.mono ?_; rintro e w' ⟨rfl, rfl⟩)
        go_ret
        exact ⟨rfl, HB2.out⟩
      · rw [decide_eq_false hn] at KH
        have HN := Lib.hid (show ∀ x ∈ l.take (k + 1), x ∉ m by
          intro x hxm
          rw [List.take_succ_eq_append_getElem hlt, List.mem_append, List.mem_singleton] at hxm
          rcases hxm with h | h
          · exact hno x h
          · rw [h, ← hx]; exact hn)
        clear hn hx hno
        generalize l.getD k 0 = x at *
        go_wp2_with (go_at_call 28; refine KH.out.mono ?_; rintro e w' ⟨rfl, rfl⟩)
        go_round
        case rel => exact ⟨k + 1, by omega, by go_num, HN.out⟩
        case measure => simp [intOf]; omega
    · obtain rfl : k = l.length := by omega
      obtain rfl : M = true := by
        cases hM : M with
        | true => rfl
        | false =>
          obtain ⟨x, hx, hy⟩ := HM.out.2 hM
          exact absurd hy (hno x (by rw [List.take_length]; exact hx))
      clear hno
      go_wp2
      go_ret
      exact ⟨rfl, HB2.out⟩
end Go.Proofs.Ytgeldpfojmkdbaa
