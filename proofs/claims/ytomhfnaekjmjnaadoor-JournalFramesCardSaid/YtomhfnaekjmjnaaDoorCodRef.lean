/- The document's answers of layer 2: what is laid, as texts. No condition but the numbers' bounds. -/
import Derived.Test.YtomhfnaekjmjnaaDoorCodQ
namespace Go.Proofs.YtomhfnaekjmjnaaDoor
set_option linter.unusedVariables false
open Go.ChangeShapes Go.WideShapes Go.ChangeAt Go.RowKit Go.Lib
attribute [local go_sem ↓] Go.wp_at_zero Go.wp_at_succ comesTo_value_eq comesTo_skip_eq comesTo_enter_eq

theorem str_append (xs ys : List Int) : strOfNums xs ++ strOfNums ys = strOfNums (xs ++ ys) := by
  apply ByteArray.ext
  simp [strOfNums, ByteArray.data_append]
theorem rfold_any {v : Int} (h : -9223372036854775808 ≤ v ∧ v ≤ 9223372036854775807) (w : World) : Calls Tryd.prog 64 #[.int .i64 v] w fun e w' => e = .returned (.int .u64 (foldF v : Int)) ∧ w = w' := by
  by_cases hv : v < 0
  · have hd : decide (v < 0) = true := decide_eq_true hv
    go_enter Tryd.func64, Tryd.ntmps64
    go_wp2
    go_ret
    refine ⟨?_, rfl⟩
    have e : (foldF v : Int) = 2 * -(v + 1) + 1 := by unfold foldF; rw [if_pos hv]; omega
    rw [e]
    rfl
  · have hd : decide (v < 0) = false := decide_eq_false hv
    go_enter Tryd.func64, Tryd.ntmps64
    go_wp2
    go_ret
    refine ⟨?_, rfl⟩
    have e : (foldF v : Int) = 2 * v := by unfold foldF; rw [if_neg (by omega)]; omega
    rw [e]
    rfl
set_option maxRecDepth 100000 in
theorem rputint_any (xs : List Int) (hxl : xs.length ≤ 1099511627776) {n : Int} (hn : -9223372036854775808 ≤ n ∧ n ≤ 9223372036854775807) (w : World) :
    Calls Tryd.prog 41 #[.string (strOfNums xs), .int .i64 n] w fun e w' => e = .returned (.string (strOfNums (xs ++ putI n))) ∧ Below w.heap.size w w' := by
  have K := Lib.hid (rfold_any hn w)
  have h64 := fold_lt hn
  have hlen := putI_len hn
  unfold putI at *
  generalize foldF n = u0 at *
  have HL := Lib.hid hlen
  clear hlen
  go_enter Tryd.func41, Tryd.ntmps41
  go_wp2_with fail
  refine K.out.mono ?_
  rintro e w' ⟨rfl, rfl⟩
  go_wp2_with fail
  go_loopw [0, 5] (fun b r wr => ∃ (acc : List Int) (u : Nat), b = .string (strOfNums (xs ++ acc)) ∧ r = .int .u64 (u : Int) ∧ u < 18446744073709551616 ∧ acc ++ putU u = putU u0 ∧ Below w.heap.size w wr) (fun _ r _ => (intOf r).toNat)
  case atStart => exact ⟨[], u0, by rw [List.append_nil], rfl, h64, rfl, Below.refl _ _⟩
  case round =>
    obtain ⟨acc, u, rfl, rfl, hu, hacc, hb⟩ := hrel
    have HA := Lib.hid hacc
    have HB := Lib.hid hb
    clear hacc hb
    by_cases h128 : u < 128
    · have hq : decide ((u : Int) ≥ 128) = false := decide_eq_false (by omega)
      have hw : IntKind.u8.wrap (u : Int) = (u : Int) := by rw [IntKind.wrap_u8']; omega
      have hA1 := below_alloc (Below.refl _ wr) (.cells #[.int .u8 (u : Int)] 5)
      have hcv := txt_conv (byte_txt (World.alloc_heap_new wr (.cells #[.int .u8 (u : Int)] 5)) (by omega)) _ (Below.refl _ _)
      have hap := str_append (xs ++ acc) [(u : Int)]
      have hsz : ¬ 9223372036854775807 < (strOfNums (xs ++ acc)).size + (strOfNums [(u : Int)]).size := by
        rw [size_str, size_str]
        have h1 := putU_len u
        have h2 : acc.length + (putU u).length ≤ 10 := by rw [← List.length_append, HA.out]; exact HL.out
        simp only [List.length_append, List.length_cons, List.length_nil]
        omega
      have HF := Lib.hid (below_next HB.out hA1)
      clear hA1
      go_wp2
      go_ret
      refine ⟨?_, HF.out⟩
      rw [← HA.out, putU_lt h128]
      rfl
    · have hq : decide ((u : Int) ≥ 128) = true := decide_eq_true (by omega)
      have HM := Lib.hid (show u / 128 < u ∧ u / 128 < 18446744073709551616 by omega)
      have hA1 := below_alloc (Below.refl _ wr) (.cells #[.int .u8 ((u : Int) % 128 + 128)] 5)
      have hcv := txt_conv (byte_txt (World.alloc_heap_new wr (.cells #[.int .u8 ((u : Int) % 128 + 128)] 5)) (by omega)) _ (Below.refl _ _)
      have hap := str_append (xs ++ acc) [(u : Int) % 128 + 128]
      have hsz : ¬ 9223372036854775807 < (strOfNums (xs ++ acc)).size + (strOfNums [(u : Int) % 128 + 128]).size := by
        rw [size_str, size_str]
        have h2 : acc.length + (putU u).length ≤ 10 := by rw [← List.length_append, HA.out]; exact HL.out
        simp only [List.length_append, List.length_cons, List.length_nil]
        omega
      have HF := Lib.hid (below_next HB.out hA1)
      have HA2 := Lib.hid (show (acc ++ [(u : Int) % 128 + 128]) ++ putU (u / 128) = putU u0 by
        rw [← HA.out, putU_ge h128, List.append_assoc, show ((u % 128 + 128 : Nat) : Int) = (u : Int) % 128 + 128 by omega]; rfl)
      clear hA1
      go_wp2
      go_roundw
      case rel => exact ⟨acc ++ [(u : Int) % 128 + 128], u / 128, rfl, by rw [Int.natCast_ediv]; rfl, HM.out.2, HA2.out, HF.out⟩
      case measure => have := HM.out.1; simp [intOf]; omega
end Go.Proofs.YtomhfnaekjmjnaaDoor
