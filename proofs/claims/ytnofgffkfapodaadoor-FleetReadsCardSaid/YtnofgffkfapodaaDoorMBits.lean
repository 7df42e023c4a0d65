/- Contracts of sets of nodes (layer 7, bits): And, Or, Less, one, With, Without, Has, Len, First. No condition but that arguments fit their kinds. -/
import Derived.Test.YtnofgffkfapodaaDoorMaa
import Derived.Test.YtnofgffkfapodaaDoorTxt
import Derived.Test.YtnofgffkfapodaaDoorMac
import Derived.OpenShut
import Derived.Outline
import Derived.WalkLawsBesides
import Derived.RegionTactic
import Derived.BigRegion
import Derived.BigQuiet
import Derived.Deep.QuietTactic
import Derived.Deep.RegionHeld3
import Derived.Deep.DrawnRows
import Derived.Deep.DeepCutAuto
import Derived.Lib.Hide
import Derived.IntWalk
import Derived.LoopTactic
import Derived.Laws.BitsAllLaws
import Derived.Laws.Bits64
import Derived.Laws.Bits128
namespace Go.Proofs.YtnofgffkfapodaaDoor
set_option linter.unusedVariables false
open Go.ChangeShapes Go.WideShapes Go.ChangeAt Go.RowKit
attribute [local go_sem ↓] Go.wp_at_zero Go.wp_at_succ comesTo_value_eq comesTo_skip_eq comesTo_enter_eq

theorem ret_int' {k : IntKind} {a b : Int} (h : a = b) : Ending.returned (.int k a) = .returned (.int k b) := by rw [h]
theorem ret_bool' {a b : Bool} (h : a = b) : Ending.returned (.bool a) = .returned (.bool b) := by rw [h]
/-- a set as a number -/
def nv (s : NSet) : Int := (s.toNat : Int)
theorem nv_lo (s : NSet) : 0 ≤ nv s := by unfold nv; omega
theorem nv_hi (s : NSet) : nv s ≤ 18446744073709551615 := by unfold nv; have := s.isLt; omega
theorem nv_inj {a b : NSet} (h : nv a = nv b) : a = b := by unfold nv at h; exact BitVec.eq_of_toNat_eq (by omega)
theorem nv_zero : nv 0#64 = 0 := rfl
theorem nv_of (n : Int) (h0 : 0 ≤ n) (h1 : n ≤ 18446744073709551615) : ∃ s : NSet, nv s = n := ⟨BitVec.ofNat 64 n.toNat, by unfold nv; rw [BitVec.toNat_ofNat, Nat.mod_eq_of_lt (by omega)]; omega⟩
theorem nv_eq (a b : NSet) : (nv a == nv b) = decide (a = b) := by
  by_cases h : a = b
  · subst h; simp
  · have : ¬ nv a = nv b := fun e => h (nv_inj e)
    simp [h, this]
theorem nv_is0 (a : NSet) : (nv a == 0) = decide (a = 0#64) := by rw [← nv_zero]; exact nv_eq a 0#64
theorem bit_and (a b : NSet) : bits .and .u64 (nv a) (nv b) = nv (a &&& b) := by
  unfold nv; rw [u64_and_nat _ _ a.isLt b.isLt, BitVec.toNat_and]
theorem bit_or (a b : NSet) : bits .or .u64 (nv a) (nv b) = nv (a ||| b) := by
  unfold nv; rw [u64_or_nat _ _ a.isLt b.isLt, BitVec.toNat_or]
theorem bit_less (a b : NSet) : bits .andNot .u64 (nv a) (nv b) = nv (a &&& ~~~b) := by
  unfold nv; rw [u64_andNot_nat _ _ a.isLt b.isLt, BitVec.toNat_and, BitVec.toNat_not]

theorem and_any (a b : NSet) (w : World) : Calls Tryd.prog 25 #[.int .u64 (nv a), .int .u64 (nv b)] w fun e w' => e = .returned (.int .u64 (nv (a &&& b))) ∧ w = w' := by
  have k := bit_and a b
  go_enter Tryd.func25, Tryd.ntmps25
  go_wp2
  go_ret
  exact ⟨rfl, rfl⟩
theorem bless_any (a b : NSet) (w : World) : Calls Tryd.prog 24 #[.int .u64 (nv a), .int .u64 (nv b)] w fun e w' => e = .returned (.int .u64 (nv (a &&& ~~~b))) ∧ w = w' := by
  have k := bit_less a b
  go_enter Tryd.func24, Tryd.ntmps24
  go_wp2
  go_ret
  exact ⟨rfl, rfl⟩
theorem one_val (n : Int) (h0 : 0 ≤ n) : IntKind.u64.wrap (2 ^ n.toNat) = nv (oneI n) := by
  unfold oneI nv
  rw [if_neg (by omega), BitVec.toNat_twoPow, IntKind.wrap_u64]
  rw [Int.natCast_emod, Int.natCast_pow]
  rfl
theorem one_node (n : Int) (w : World) : Calls Tryd.prog 78 #[.int .i64 n] w fun e w' => e = .returned (.int .u64 (nv (oneI n))) ∧ w = w' := by
  by_cases h0 : n < 0
  · have e : oneI n = 0#64 := by unfold oneI; rw [if_pos h0]
    rw [e, nv_zero]
    go_enter Tryd.func78, Tryd.ntmps78
    go_wp2
    go_ret
    exact ⟨rfl, rfl⟩
  · by_cases h6 : 64 ≤ n
    · have e : oneI n = 0#64 := by
        apply BitVec.eq_of_getLsbD_eq
        intro i hi
        rw [oneI_get, BitVec.getLsbD_zero]
        have : ¬ n = (i : Int) := by omega
        simp only [this, decide_false, Bool.and_false]
      rw [e, nv_zero]
      go_enter Tryd.func78, Tryd.ntmps78
      go_wp2
      go_ret
      exact ⟨rfl, rfl⟩
    · have h0' : 0 ≤ n := by omega
      have h6' : n < 64 := by omega
      clear h0 h6
      go_enter Tryd.func78, Tryd.ntmps78
      go_wp2
      go_ret
      exact ⟨ret_int' (one_val n h0'), rfl⟩
theorem pop_walk (x a1 a2 b a3 a4 c d e f g r : Int) (h1 : bits .and .u64 (x / 2) 6148914691236517205 = a1) (h2 : bits .and .u64 x 6148914691236517205 = a2) (h3 : IntKind.u64.wrap (a1 + a2) = b)
    (h4 : bits .and .u64 (b / 4) 3689348814741910323 = a3) (h5 : bits .and .u64 b 3689348814741910323 = a4) (h6 : IntKind.u64.wrap (a3 + a4) = c) (h7 : bits .and .u64 (IntKind.u64.wrap (c / 16 + c)) 1085102592571150095 = d)
    (h8 : IntKind.u64.wrap (d + d / 256) = e) (h9 : IntKind.u64.wrap (e + e / 65536) = f) (h10 : IntKind.u64.wrap (f + f / 4294967296) = g) (h11 : bits .and .i64 (wrap64 g) 127 = r) (w : World) :
    Calls Tryd.prog 55 #[.int .u64 x] w fun e w' => e = .returned (.int .i64 r) ∧ w = w' := by
  go_enter Tryd.func55, Tryd.ntmps55
  go_wp2
  go_ret
  exact ⟨rfl, rfl⟩
theorem wrap_u64_in (n : Nat) (h : n < 18446744073709551616) : IntKind.u64.wrap (n : Int) = (n : Int) := by rw [IntKind.wrap_u64]; omega
theorem pop_any (s : NSet) (w : World) : Calls Tryd.prog 55 #[.int .u64 (nv s)] w fun e w' => e = .returned (.int .i64 (card s)) ∧ w = w' := by
  have hX := s.isLt
  rw [card_cnt]
  unfold nv
  generalize s.toNat = X at *
  obtain ⟨q0, q1, q2, q3, q4⟩ := pop_eq X hX
  rw [← q0]
  unfold pop
  have m1 : y1 X = (X / 2 &&& 6148914691236517205) + (X &&& 6148914691236517205) := rfl
  have m2 : y2 (y1 X) = (y1 X / 4 &&& 3689348814741910323) + (y1 X &&& 3689348814741910323) := rfl
  have m3 : y3 (y2 (y1 X)) = (y2 (y1 X) / 16 + y2 (y1 X)) &&& 1085102592571150095 := rfl
  generalize y3 (y2 (y1 X)) = D at *
  generalize y2 (y1 X) = C at *
  generalize y1 X = B at *
  refine pop_walk (X : Int) ((X / 2 &&& 6148914691236517205 : Nat) : Int) ((X &&& 6148914691236517205 : Nat) : Int) (B : Int) ((B / 4 &&& 3689348814741910323 : Nat) : Int) ((B &&& 3689348814741910323 : Nat) : Int) (C : Int) (D : Int) ((add8 D : Nat) : Int) ((add16 (add8 D) : Nat) : Int) ((add32 (add16 (add8 D)) : Nat) : Int) _ ?_ ?_ ?_ ?_ ?_ ?_ ?_ ?_ ?_ ?_ ?_ w
  · exact u64_and_nat (X / 2) 6148914691236517205 (by omega) (by decide)
  · exact u64_and_nat X 6148914691236517205 hX (by decide)
  · rw [← Int.natCast_add, ← m1]; exact wrap_u64_in B q1
  · exact u64_and_nat (B / 4) 3689348814741910323 (by omega) (by decide)
  · exact u64_and_nat B 3689348814741910323 q1 (by decide)
  · rw [← Int.natCast_add, ← m2]; exact wrap_u64_in C q2
  · rw [show ((C : Int) / 16 + (C : Int)) = ((C / 16 + C : Nat) : Int) by omega, wrap_u64_in _ q3, m3]; exact u64_and_nat (C / 16 + C) 1085102592571150095 q3 (by decide)
  · rw [show ((D : Int) + (D : Int) / 256) = ((add8 D : Nat) : Int) by unfold add8; omega]; exact wrap_u64_in _ (by unfold add8; omega)
  · have h8 : add8 D ≤ 600000000000000000 := by unfold add8; omega
    generalize add8 D = E at *
    rw [show ((E : Int) + (E : Int) / 65536) = ((add16 E : Nat) : Int) by unfold add16; omega]; exact wrap_u64_in _ (by unfold add16; omega)
  · have h8 : add8 D ≤ 600000000000000000 := by unfold add8; omega
    generalize add8 D = E at *
    have h9 : add16 E ≤ 700000000000000000 := by unfold add16; omega
    generalize add16 E = F at *
    rw [show ((F : Int) + (F : Int) / 4294967296) = ((add32 F : Nat) : Int) by unfold add32; omega]; exact wrap_u64_in _ (by unfold add32; omega)
  · have h8 : add8 D ≤ 600000000000000000 := by unfold add8; omega
    generalize add8 D = E at *
    have h9 : add16 E ≤ 700000000000000000 := by unfold add16; omega
    generalize add16 E = F at *
    have h10 : add32 F ≤ 800000000000000000 := by unfold add32; omega
    generalize add32 F = G at *
    rw [IntWalk.wrap64_in (G : Int) (by omega), i64_and127]
    omega
theorem blen_any (s : NSet) (w : World) : Calls Tryd.prog 22 #[.int .u64 (nv s)] w fun e w' => e = .returned (.int .i64 (card s)) ∧ w = w' := by
  go_enter Tryd.func22, Tryd.ntmps22
  go_wp2_with (go_at_call 55; refine (pop_any _ _).mono ?_; rintro e w' ⟨rfl, rfl⟩)
  go_ret
  exact ⟨rfl, rfl⟩
theorem with_any (s : NSet) (n : Int) (w : World) : Calls Tryd.prog 64 #[.int .u64 (nv s), .int .i64 n] w fun e w' => e = .returned (.int .u64 (nv (s ||| oneI n))) ∧ w = w' := by
  have k := bit_or s (oneI n)
  go_enter Tryd.func64, Tryd.ntmps64
  go_wp2_with (go_at_call 78; refine (one_node _ _).mono ?_; rintro e w' ⟨rfl, rfl⟩)
  go_ret
  exact ⟨rfl, rfl⟩
theorem without_any (s : NSet) (n : Int) (w : World) : Calls Tryd.prog 65 #[.int .u64 (nv s), .int .i64 n] w fun e w' => e = .returned (.int .u64 (nv (s &&& ~~~oneI n))) ∧ w = w' := by
  have k := bit_less s (oneI n)
  go_enter Tryd.func65, Tryd.ntmps65
  go_wp2_with (go_at_call 78; refine (one_node _ _).mono ?_; rintro e w' ⟨rfl, rfl⟩)
  go_ret
  exact ⟨rfl, rfl⟩
theorem has_eq (s : NSet) (n : Int) : (!(nv (s &&& oneI n) == 0)) = hasI s n := by
  rw [nv_is0]
  cases h : hasI s n with
  | false => rw [(and_one s n).2 h]; rfl
  | true =>
    have : ¬ s &&& oneI n = 0#64 := fun e => by rw [and_one, h] at e; cases e
    simp only [this, decide_false, Bool.not_false]
theorem first_val (n : Int) (h1 : 1 ≤ n) (h6 : n ≤ 64) : (18446744073709551615 : Int) / 2 ^ (64 - n).toNat = nv (firstI n) := by
  unfold nv
  have e := all_shr n.toNat (by omega)
  rw [firstI_toNat, Nat.min_eq_left (by omega), ← e, show (64 - n).toNat = 64 - n.toNat by omega, Int.natCast_ediv, Int.natCast_pow]
  rfl
theorem first_any (n : Int) (w : World) : Calls Tryd.prog 32 #[.int .i64 n] w fun e w' => e = .returned (.int .u64 (nv (firstI n))) ∧ w = w' := by
  by_cases h : n < 1
  · have e : firstI n = 0#64 := by unfold firstI; rw [show min n.toNat 64 = 0 by omega]
    rw [e, nv_zero]
    go_enter Tryd.func32, Tryd.ntmps32
    go_wp2
    go_ret
    exact ⟨rfl, rfl⟩
  · have h' : 1 ≤ n := by omega
    clear h
    by_cases h6 : 64 < n
    · have e : nv (firstI n) = 18446744073709551615 := by unfold nv; rw [firstI_toNat, show min n.toNat 64 = 64 by omega]; rfl
      have E := Lib.hid e
      clear e
      go_enter Tryd.func32, Tryd.ntmps32
      go_wp2
      go_ret
      exact ⟨ret_int' E.out.symm, rfl⟩
    · have h6' : n ≤ 64 := by omega
      clear h6
      go_enter Tryd.func32, Tryd.ntmps32
      go_wp2
      go_ret
      exact ⟨ret_int' (first_val n h' h6'), rfl⟩
end Go.Proofs.YtnofgffkfapodaaDoor
