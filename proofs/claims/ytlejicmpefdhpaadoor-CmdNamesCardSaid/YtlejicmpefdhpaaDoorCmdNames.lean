/- The law CmdNames of layer 22, walked. Its conditions: errors.errorType and cmd.names read as the program's text lays them. -/
import Derived.Test.YtlejicmpefdhpaaDoorCmdO
namespace Go.Proofs.YtlejicmpefdhpaaDoor
set_option linter.unusedVariables false
open Go.ChangeShapes Go.WideShapes Go.ChangeAt Go.RowKit
attribute [local go_sem ↓] Go.wp_at_zero Go.wp_at_succ comesTo_value_eq comesTo_skip_eq comesTo_enter_eq

theorem names_long (k : Int) (s : ByteArray) (h : ¬ s.size ≤ 200) (w : World) : Calls Tryd.prog 7 #[.int .i64 k, .string s] w fun e w' => e = .returned (.bool true) ∧ Below w.heap.size w w' := by
  have hd : decide ((s.size : Int) > 200) = true := decide_eq_true (by omega)
  go_enter Tryd.func7, Tryd.ntmps7
  go_wp2
  go_ret
  exact ⟨rfl, Below.refl _ _⟩
theorem toList_ne {a b : ByteArray} (h : a ≠ b) : (a.toList == b.toList) = false := by
  rw [beq_eq_false_iff_ne]
  exact fun e => h (bytes_inj e)
theorem empty_ne {a : ByteArray} (h : a ≠ ⟨#[]⟩) : ¬ a.toList = [] := fun e => h (bytes_inj (e.trans (by rw [ByteArray.toList_eq])))
set_option maxRecDepth 100000 in
set_option maxHeartbeats 1000000 in
theorem names_any (k : Int) (s : ByteArray) (w : World) (hE : ErrAt w) (hN : CmdNamesAt w) : Calls Tryd.prog 7 #[.int .i64 k, .string s] w fun e w' => e = .returned (.bool true) ∧ Below w.heap.size w w' := by
  by_cases h200 : s.size ≤ 200
  case neg => exact names_long k s h200 w
  have hd : decide ((s.size : Int) > 200) = false := decide_eq_false (by omega)
  have KO := Lib.hid (cmd_one w hE hN)
  have KN := Lib.hid (fun (n : Nat) (h1 : 1 ≤ n) (h2 : n ≤ 12) => cmdname_at n h1 h2 w hN)
  have KF := Lib.hid (fun (s : ByteArray) => cmdof_any s w hN)
  have HN := Lib.hid hN
  clear hE hN h200
  by_cases hk : 1 ≤ k ∧ k ≤ 12
  · obtain ⟨n, rfl⟩ : ∃ n : Nat, k = (n : Int) := ⟨k.toNat, by omega⟩
    have h1 : 1 ≤ n := by omega
    have h2 : n ≤ 12 := by omega
    have q1 : decide ((n : Int) ≥ 1) = true := decide_eq_true (by omega)
    have q2 : decide ((n : Int) ≤ 12) = true := decide_eq_true (by omega)
    have hie : (cname n).toList.isEmpty = false := by rw [List.isEmpty_eq_false_iff]; exact empty_ne (cname_ne n ⟨h1, h2⟩)
    have KF1 := Lib.hid (KF.out (cname n))
    have HH := Lib.hid hk
    clear hk
    go_enter Tryd.func7, Tryd.ntmps7
    go_wp2_with fail
    ((with_reducible refine (KN.out n h1 h2).mono ?_))
    rintro e w1 ⟨rfl, rfl⟩
    go_wp2_with fail
    ((with_reducible refine KF1.out.mono ?_))
    rintro e w1 ⟨hh, rfl⟩
    obtain ⟨m, hm1, hm2, hm, rfl⟩ | ⟨hno, _⟩ := hh
    rotate_left
    · exact absurd rfl (hno n h1 h2)
    obtain rfl : m = n := cname_inj m (by omega) n (by omega) hm
    clear hm
    go_wp2_with fail
    ((with_reducible refine (KF.out s).mono ?_))
    rintro e w1 ⟨hh, rfl⟩
    obtain ⟨j, hj1, hj2, rfl, rfl⟩ | ⟨_, rfl⟩ := hh
    · go_wp2_with fail
      ((with_reducible refine (KN.out j hj1 hj2).mono ?_))
      rintro e w1 ⟨rfl, rfl⟩
      go_wp2_with fail
      ((with_reducible refine KO.out.mono ?_))
      rintro e w1 ⟨rfl, hb⟩
      have HB := Lib.hid hb
      clear hb
      go_wp2
      go_ret
      exact ⟨rfl, HB.out⟩
    · go_wp2_with fail
      ((with_reducible refine KO.out.mono ?_))
      rintro e w1 ⟨rfl, hb⟩
      have HB := Lib.hid hb
      clear hb
      go_wp2
      go_ret
      exact ⟨rfl, HB.out⟩
  · have KM := Lib.hid (cmdname_none k (by omega) w)
    have KF1 := Lib.hid (KF.out ⟨#[]⟩)
    have HH := Lib.hid hk
    have hq : k < 1 ∧ decide (k ≥ 1) = false ∨ ¬ k < 1 ∧ decide (k ≥ 1) = true ∧ decide (k ≤ 12) = false := by
      by_cases h : k < 1
      · exact .inl ⟨h, decide_eq_false (by omega)⟩
      · exact .inr ⟨h, decide_eq_true (by omega), decide_eq_false (by omega)⟩
    clear hk
    rcases hq with ⟨hl, q1⟩ | ⟨hl, q1, q2⟩
    all_goals
      clear hl
      go_enter Tryd.func7, Tryd.ntmps7
      go_wp2_with fail
      ((with_reducible refine KM.out.mono ?_))
      rintro e w1 ⟨rfl, rfl⟩
      go_wp2_with fail
      ((with_reducible refine KF1.out.mono ?_))
      rintro e w1 ⟨hh, rfl⟩
      obtain ⟨m, hm1, hm2, hm, rfl⟩ | ⟨_, rfl⟩ := hh
      · exact absurd hm (cname_ne m ⟨hm1, hm2⟩)
      go_wp2_with fail
      ((with_reducible refine (KF.out s).mono ?_))
      rintro e w1 ⟨hh, rfl⟩
      obtain ⟨j, hj1, hj2, rfl, rfl⟩ | ⟨_, rfl⟩ := hh
      · go_wp2_with fail
        ((with_reducible refine (KN.out j hj1 hj2).mono ?_))
        rintro e w1 ⟨rfl, rfl⟩
        go_wp2_with fail
        ((with_reducible refine KO.out.mono ?_))
        rintro e w1 ⟨rfl, hb⟩
        have HB := Lib.hid hb
        clear hb
        go_wp2
        go_ret
        exact ⟨rfl, HB.out⟩
      · go_wp2_with fail
        ((with_reducible refine KO.out.mono ?_))
        rintro e w1 ⟨rfl, hb⟩
        have HB := Lib.hid hb
        clear hb
        go_wp2
        go_ret
        exact ⟨rfl, HB.out⟩
end Go.Proofs.YtlejicmpefdhpaaDoor
