/- The reference's digits (layer 7). Condition: a number from 0 to 99. -/
import Derived.Test.YtkllhnfnkgkelaaDoorBitsRow
import Derived.Test.YtkllhnfnkgkelaaDoorBitsTellsP
namespace Go.Proofs.YtkllhnfnkgkelaaDoor
set_option linter.unusedVariables false
open Go.ChangeShapes Go.WideShapes Go.ChangeAt Go.RowKit
attribute [local go_sem ↓] Go.wp_at_zero Go.wp_at_succ

set_option maxRecDepth 100000 in
theorem rdig_small (n : Int) (h0 : 0 ≤ n) (h1 : n < 10) (w : World) : Calls Tryd.prog 52 #[.int .i64 n] w fun e w' => e = .returned (.string (strB (dec2 n.toNat))) ∧ w = w' := by
  rcases (show n = 0 ∨ n = 1 ∨ n = 2 ∨ n = 3 ∨ n = 4 ∨ n = 5 ∨ n = 6 ∨ n = 7 ∨ n = 8 ∨ n = 9 by omega) with rfl | rfl | rfl | rfl | rfl | rfl | rfl | rfl | rfl | rfl
  all_goals
    go_enter Tryd.func52, Tryd.ntmps52
    go_wp2
    go_ret
    exact ⟨congrArg (fun b => Ending.returned (Value.string b)) (by decide +kernel), rfl⟩
def digs : ByteArray := { data := #[48, 49, 50, 51, 52, 53, 54, 55, 56, 57] }
theorem dig_cat (t d : Nat) (ht0 : 1 ≤ t) (ht : t < 10) (hd : d < 10) (b : ByteArray) (hb : b = strB [UInt8.ofNat (48 + d)]) : strB (dec2 t) ++ b = strB (dec2 (10 * t + d)) := by
  rw [hb, strB_app]
  congr 1
  unfold dec2
  rw [if_pos ht, if_neg (by omega), show (10 * t + d) / 10 = t by omega, show (10 * t + d) % 10 = d by omega]
  rfl
set_option maxRecDepth 100000 in
theorem rdig_big (n t : Int) (d : Nat) (h0 : 10 ≤ n) (h1 : n < 100) (hd : d < 10) (hn : n = 10 * t + d) (w : World) : Calls Tryd.prog 52 #[.int .i64 n] w fun e w' => e = .returned (.string (strB (dec2 n.toNat))) ∧ w = w' := by
  have ht0 : 1 ≤ t := by omega
  have ht1 : t < 10 := by omega
  have K := Lib.hid (fun W => rdig_small t (by omega) ht1 W)
  have e1 : n / 10 = t := by omega
  have e3 : decide (n < 10) = false := by simp; omega
  have hcat := fun b hb => dig_cat t.toNat d (by omega) (by omega) hd b hb
  rw [show 10 * t.toNat + d = n.toNat by omega] at hcat
  have HC := Lib.hid hcat
  have hsz : (strB (dec2 t.toNat)).size ≤ 2 := dec2_len t.toNat
  clear hcat
  rcases (show d = 0 ∨ d = 1 ∨ d = 2 ∨ d = 3 ∨ d = 4 ∨ d = 5 ∨ d = 6 ∨ d = 7 ∨ d = 8 ∨ d = 9 by omega) with rfl | rfl | rfl | rfl | rfl | rfl | rfl | rfl | rfl | rfl
  · have e2 : n % 10 = 0 := by omega
    have hx := HC.out (digs.extract 0 1) (by decide +kernel)
    unfold digs at hx
    have HX := Lib.hid hx
    clear hx hn HC
    generalize strB (dec2 t.toNat) = T at *
    go_enter Tryd.func52, Tryd.ntmps52
    go_wp2_with fail
    refine (K.out _).mono ?_
    rintro e w' ⟨rfl, rfl⟩
    go_wp2_with fail
    go_ret
    exact ⟨congrArg (fun b => Ending.returned (Value.string b)) HX.out, rfl⟩
  · have e2 : n % 10 = 1 := by omega
    have hx := HC.out (digs.extract 1 2) (by decide +kernel)
    unfold digs at hx
    have HX := Lib.hid hx
    clear hx hn HC
    generalize strB (dec2 t.toNat) = T at *
    go_enter Tryd.func52, Tryd.ntmps52
    go_wp2_with fail
    refine (K.out _).mono ?_
    rintro e w' ⟨rfl, rfl⟩
    go_wp2_with fail
    go_ret
    exact ⟨congrArg (fun b => Ending.returned (Value.string b)) HX.out, rfl⟩
  · have e2 : n % 10 = 2 := by omega
    have hx := HC.out (digs.extract 2 3) (by decide +kernel)
    unfold digs at hx
    have HX := Lib.hid hx
    clear hx hn HC
    generalize strB (dec2 t.toNat) = T at *
    go_enter Tryd.func52, Tryd.ntmps52
    go_wp2_with fail
    refine (K.out _).mono ?_
    rintro e w' ⟨rfl, rfl⟩
    go_wp2_with fail
    go_ret
    exact ⟨congrArg (fun b => Ending.returned (Value.string b)) HX.out, rfl⟩
  · have e2 : n % 10 = 3 := by omega
    have hx := HC.out (digs.extract 3 4) (by decide +kernel)
    unfold digs at hx
    have HX := Lib.hid hx
    clear hx hn HC
    generalize strB (dec2 t.toNat) = T at *
    go_enter Tryd.func52, Tryd.ntmps52
    go_wp2_with fail
    refine (K.out _).mono ?_
    rintro e w' ⟨rfl, rfl⟩
    go_wp2_with fail
    go_ret
    exact ⟨congrArg (fun b => Ending.returned (Value.string b)) HX.out, rfl⟩
  · have e2 : n % 10 = 4 := by omega
    have hx := HC.out (digs.extract 4 5) (by decide +kernel)
    unfold digs at hx
    have HX := Lib.hid hx
    clear hx hn HC
    generalize strB (dec2 t.toNat) = T at *
    go_enter Tryd.func52, Tryd.ntmps52
    go_wp2_with fail
    refine (K.out _).mono ?_
    rintro e w' ⟨rfl, rfl⟩
    go_wp2_with fail
    go_ret
    exact ⟨congrArg (fun b => Ending.returned (Value.string b)) HX.out, rfl⟩
  · have e2 : n % 10 = 5 := by omega
    have hx := HC.out (digs.extract 5 6) (by decide +kernel)
    unfold digs at hx
    have HX := Lib.hid hx
    clear hx hn HC
    generalize strB (dec2 t.toNat) = T at *
    go_enter Tryd.func52, Tryd.ntmps52
    go_wp2_with fail
    refine (K.out _).mono ?_
    rintro e w' ⟨rfl, rfl⟩
    go_wp2_with fail
    go_ret
    exact ⟨congrArg (fun b => Ending.returned (Value.string b)) HX.out, rfl⟩
  · have e2 : n % 10 = 6 := by omega
    have hx := HC.out (digs.extract 6 7) (by decide +kernel)
    unfold digs at hx
    have HX := Lib.hid hx
    clear hx hn HC
    generalize strB (dec2 t.toNat) = T at *
    go_enter Tryd.func52, Tryd.ntmps52
    go_wp2_with fail
    refine (K.out _).mono ?_
    rintro e w' ⟨rfl, rfl⟩
    go_wp2_with fail
    go_ret
    exact ⟨congrArg (fun b => Ending.returned (Value.string b)) HX.out, rfl⟩
  · have e2 : n % 10 = 7 := by omega
    have hx := HC.out (digs.extract 7 8) (by decide +kernel)
    unfold digs at hx
    have HX := Lib.hid hx
    clear hx hn HC
    generalize strB (dec2 t.toNat) = T at *
    go_enter Tryd.func52, Tryd.ntmps52
    go_wp2_with fail
    refine (K.out _).mono ?_
    rintro e w' ⟨rfl, rfl⟩
    go_wp2_with fail
    go_ret
    exact ⟨congrArg (fun b => Ending.returned (Value.string b)) HX.out, rfl⟩
  · have e2 : n % 10 = 8 := by omega
    have hx := HC.out (digs.extract 8 9) (by decide +kernel)
    unfold digs at hx
    have HX := Lib.hid hx
    clear hx hn HC
    generalize strB (dec2 t.toNat) = T at *
    go_enter Tryd.func52, Tryd.ntmps52
    go_wp2_with fail
    refine (K.out _).mono ?_
    rintro e w' ⟨rfl, rfl⟩
    go_wp2_with fail
    go_ret
    exact ⟨congrArg (fun b => Ending.returned (Value.string b)) HX.out, rfl⟩
  · have e2 : n % 10 = 9 := by omega
    have hx := HC.out (digs.extract 9 10) (by decide +kernel)
    unfold digs at hx
    have HX := Lib.hid hx
    clear hx hn HC
    generalize strB (dec2 t.toNat) = T at *
    go_enter Tryd.func52, Tryd.ntmps52
    go_wp2_with fail
    refine (K.out _).mono ?_
    rintro e w' ⟨rfl, rfl⟩
    go_wp2_with fail
    go_ret
    exact ⟨congrArg (fun b => Ending.returned (Value.string b)) HX.out, rfl⟩
theorem rdig_any (n : Int) (h0 : 0 ≤ n) (h1 : n < 64) (w : World) : Calls Tryd.prog 52 #[.int .i64 n] w fun e w' => e = .returned (.string (strB (dec2 n.toNat))) ∧ w = w' := by
  by_cases h : n < 10
  · exact rdig_small n h0 h w
  · exact rdig_big n (n / 10) (n % 10).toNat (by omega) (by omega) (by omega) (by omega) w
end Go.Proofs.YtkllhnfnkgkelaaDoor
