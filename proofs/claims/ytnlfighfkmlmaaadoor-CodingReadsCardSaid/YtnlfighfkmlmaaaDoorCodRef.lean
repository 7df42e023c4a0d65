/- The document's answers of layer 2: what is laid, as texts. No condition but the numbers' bounds. -/
import Derived.Test.YtnlfighfkmlmaaaDoorCodQ
namespace Go.Proofs.YtnlfighfkmlmaaaDoor
set_option linter.unusedVariables false
open Go.ChangeShapes Go.WideShapes Go.ChangeAt Go.RowKit Go.Lib
attribute [local go_sem ↓] Go.wp_at_zero Go.wp_at_succ comesTo_value_eq comesTo_skip_eq comesTo_enter_eq

theorem str_append (xs ys : List Int) : strOfNums xs ++ strOfNums ys = strOfNums (xs ++ ys) := by
  apply ByteArray.ext
  simp [strOfNums, ByteArray.data_append]
theorem rfold_any {v : Int} (h : -9223372036854775808 ≤ v ∧ v ≤ 9223372036854775807) (w : World) : Calls Tryd.prog 49 #[.int .i64 v] w fun e w' => e = .returned (.int .u64 (foldF v : Int)) ∧ w = w' := by
  by_cases hv : v < 0
  · have hd : decide (v < 0) = true := decide_eq_true hv
    go_enter Tryd.func49, Tryd.ntmps49
    go_wp2
    go_ret
    refine ⟨?_, rfl⟩
    have e : (foldF v : Int) = 2 * -(v + 1) + 1 := by unfold foldF; rw [if_pos hv]; omega
    rw [e]
    rfl
  · have hd : decide (v < 0) = false := decide_eq_false hv
    go_enter Tryd.func49, Tryd.ntmps49
    go_wp2
    go_ret
    refine ⟨?_, rfl⟩
    have e : (foldF v : Int) = 2 * v := by unfold foldF; rw [if_neg (by omega)]; omega
    rw [e]
    rfl
set_option maxRecDepth 100000 in
theorem rputint_any (xs : List Int) (hxl : xs.length ≤ 1099511627776) {n : Int} (hn : -9223372036854775808 ≤ n ∧ n ≤ 9223372036854775807) (w : World) :
    Calls Tryd.prog 14 #[.string (strOfNums xs), .int .i64 n] w fun e w' => e = .returned (.string (strOfNums (xs ++ putI n))) ∧ Below w.heap.size w w' := by
  have K := Lib.hid (rfold_any hn w)
  have h64 := fold_lt hn
  have hlen := putI_len hn
  unfold putI at *
  generalize foldF n = u0 at *
  have HL := Lib.hid hlen
  clear hlen
  go_enter Tryd.func14, Tryd.ntmps14
  go_wp2_with fail
  refine K.out.mono ?_
  rintro e w' ⟨rfl, rfl⟩
  go_wp2_with fail
  go_loopw [0, 5] (fun b r wr => ∃ (acc : List Int) (u : Nat), b = .string (strOfNums (xs ++ acc)) ∧ r = .int .u64 (u : Int) ∧ u < 18446744073709551616 ∧ acc ++ putU u = putU u0 ∧ Below w.heap.size w wr) (fun _ r _ => (intOf r).toNat)
  case atStart => exact ⟨[], u0, by rw [List.append_nil], rfl, h64, rfl, Below.refl _ _⟩
  case round =>
    obtain ⟨acc, u, rfl, rfl, hu, hacc, hb⟩ := hrel
    have HA := Lib.hid hacc
    have HB := Lib.hid hb
    clear hacc hb
    by_cases h128 : u < 128
    · have hq : decide ((u : Int) ≥ 128) = false := decide_eq_false (by omega)
      have hw : IntKind.u8.wrap (u : Int) = (u : Int) := by rw [IntKind.wrap_u8']; omega
      have hA1 := below_alloc (Below.refl _ wr) (.cells #[.int .u8 (u : Int)] 5)
      have hcv := txt_conv (byte_txt (World.alloc_heap_new wr (.cells #[.int .u8 (u : Int)] 5)) (by omega)) _ (Below.refl _ _)
      have hap := str_append (xs ++ acc) [(u : Int)]
      have hsz : ¬ 9223372036854775807 < (strOfNums (xs ++ acc)).size + (strOfNums [(u : Int)]).size := by
        rw [size_str, size_str]
        have h1 := putU_len u
        have h2 : acc.length + (putU u).length ≤ 10 := by rw [← List.length_append, HA.out]; exact HL.out
        simp only [List.length_append, List.length_cons, List.length_nil]
        omega
      have HF := Lib.hid (below_next HB.out hA1)
      clear hA1
      go_wp2
      go_ret
      refine ⟨?_, HF.out⟩
      rw [← HA.out, putU_lt h128]
      rfl
    · have hq : decide ((u : Int) ≥ 128) = true := decide_eq_true (by omega)
      have HM := Lib.hid (show u / 128 < u ∧ u / 128 < 18446744073709551616 by omega)
      have hA1 := below_alloc (Below.refl _ wr) (.cells #[.int .u8 ((u : Int) % 128 + 128)] 5)
      have hcv := txt_conv (byte_txt (World.alloc_heap_new wr (.cells #[.int .u8 ((u : Int) % 128 + 128)] 5)) (by omega)) _ (Below.refl _ _)
      have hap := str_append (xs ++ acc) [(u : Int) % 128 + 128]
      have hsz : ¬ 9223372036854775807 < (strOfNums (xs ++ acc)).size + (strOfNums [(u : Int) % 128 + 128]).size := by
        rw [size_str, size_str]
        have h2 : acc.length + (putU u).length ≤ 10 := by rw [← List.length_append, HA.out]; exact HL.out
        simp only [List.length_append, List.length_cons, List.length_nil]
        omega
      have HF := Lib.hid (below_next HB.out hA1)
      have HA2 := Lib.hid (show (acc ++ [(u : Int) % 128 + 128]) ++ putU (u / 128) = putU u0 by
        rw [← HA.out, putU_ge h128, List.append_assoc, show ((u % 128 + 128 : Nat) : Int) = (u : Int) % 128 + 128 by omega]; rfl)
      clear hA1
      go_wp2
      go_roundw
      case rel => exact ⟨acc ++ [(u : Int) % 128 + 128], u / 128, rfl, by rw [Int.natCast_ediv]; rfl, HM.out.2, HA2.out, HF.out⟩
      case measure => have := HM.out.1; simp [intOf]; omega
/-- a text, laid -/
theorem rputtext_any (xs ys : List Int) (hxl : xs.length ≤ 1099511627776) (hyl : ys.length ≤ 1099511627776) (w : World) :
    Calls Tryd.prog 16 #[.string (strOfNums xs), .string (strOfNums ys)] w fun e w' => e = .returned (.string (strOfNums (xs ++ putT ys))) ∧ Below w.heap.size w w' := by
  have K := Lib.hid (rputint_any xs hxl (n := (ys.length : Int)) (by omega) w)
  have hz : (strOfNums ys).size = ys.length := size_str ys
  have hlen := putI_len (v := (ys.length : Int)) (by omega)
  have hap := str_append (xs ++ putI ys.length) ys
  have hsz : ¬ 9223372036854775807 < (strOfNums (xs ++ putI ys.length)).size + (strOfNums ys).size := by
    rw [size_str, size_str]
    simp only [List.length_append]
    omega
  clear hlen
  go_enter Tryd.func16, Tryd.ntmps16
  go_wp2_with fail
  refine K.out.mono ?_
  rintro e w1 ⟨rfl, hb⟩
  have HB := Lib.hid hb
  clear hb
  go_wp2
  go_ret
  refine ⟨?_, HB.out⟩
  unfold putT
  rw [← List.append_assoc]
  rfl
set_option maxRecDepth 100000 in
/-- numbers, laid -/
theorem rputints_any (xs : List Int) (hxl : xs.length ≤ 1099511627) {w : World} {la : Option Addr} {ll lc : Nat} {l : List Int} (hL : ReadsL w (.slice la ll lc) l) (hln : l.length = ll) (hll : ll ≤ 1099511627) (hin : ∀ x ∈ l, -9223372036854775808 ≤ x ∧ x ≤ 9223372036854775807) :
    Calls Tryd.prog 18 #[.string (strOfNums xs), .slice la ll lc] w fun e w' => e = .returned (.string (strOfNums (xs ++ putL l))) ∧ Below w.heap.size w w' := by
  have K := Lib.hid (rputint_any xs (by omega) (n := (ll : Int)) (by omega) w)
  have HL := Lib.hid hL
  have HLN := Lib.hid hln
  have HIN := Lib.hid hin
  clear hL hln hin
  have hlen := putI_len (v := (ll : Int)) (by omega)
  go_enter Tryd.func18, Tryd.ntmps18
  go_wp2_with fail
  refine K.out.mono ?_
  rintro e w1 ⟨rfl, hb⟩
  have HB1 := Lib.hid hb
  clear hb K
  go_wp2_with fail
  go_loopw [0, 5] (fun b i wr => ∃ (k : Nat) (S : ByteArray), k ≤ ll ∧ b = .string S ∧ i = .int .i64 k ∧ S = strOfNums (xs ++ putI ll ++ (l.take k).flatMap putI) ∧ Below w.heap.size w wr) (fun _ i _ => ll - (intOf i).toNat)
  case atStart => exact ⟨0, _, Nat.zero_le _, rfl, rfl, by simp, HB1.out⟩
  case round =>
    obtain ⟨k, S, hk, rfl, rfl, hS, hb⟩ := hrel
    have HBB := Lib.hid hb
    have HS := Lib.hid hS
    clear hb hS
    by_cases hlt : k < ll
    · have hd1 : decide ((k : Int) < (ll : Int)) = true := decide_eq_true (by omega)
      obtain ⟨g, o, rfl, hc⟩ : ∃ g o, la = some ⟨g, o, none⟩ ∧ wr.cell? ⟨g, o + k, none⟩ = some (.int .i64 (l.getD k 0)) := by
        have hL := HL.out.below HBB.out
        have hln := HLN.out
        rcases hL with ⟨rfl, _⟩ | ⟨_, _, g, o, c, e, _, hc⟩
        · simp at hln; omega
        · cases e; exact ⟨g, o, rfl, hc k (by omega)⟩
      have hk' : k < l.length := by have := HLN.out; omega
      have hxm : l.getD k 0 ∈ l := by simp [List.getD, List.getElem?_eq_getElem hk']
      have htk : (l.take (k + 1)).flatMap putI = (l.take k).flatMap putI ++ putI (l.getD k 0) := by
        rw [List.take_succ_eq_append_getElem hk', List.flatMap_append]
        simp [List.getD, List.getElem?_eq_getElem hk']
      have hfl : ((l.take k).flatMap putI).length ≤ 10 * k := by
        have := flat_len (l.take k) fun x hx => HIN.out x (List.mem_of_mem_take hx)
        rw [List.length_take] at this
        omega
      have ki := rputint_any (xs ++ putI ll ++ (l.take k).flatMap putI) (by simp only [List.length_append]; omega) (HIN.out _ hxm) wr
      rw [← HS.out] at ki
      generalize hS2 : strOfNums (xs ++ putI ll ++ (l.take k).flatMap putI ++ putI (l.getD k 0)) = S2 at ki
      have HS2 := Lib.hid hS2
      have KI := Lib.hid ki
      have HTK := Lib.hid htk
      clear ki hS2
      generalize l.getD k 0 = x at *
      clear htk hfl hxm hk'
      go_wp2_with fail
      refine KI.out.mono ?_
      rintro e w3 ⟨rfl, hb3⟩
      have HB3 := Lib.hid (below_next HBB.out hb3)
      clear hb3 KI
      go_wp2
      go_roundw
      case rel => exact ⟨k + 1, _, by omega, rfl, by go_num, by rw [HTK.out, ← List.append_assoc]; exact HS2.out.symm, HB3.out⟩
      case measure => simp [intOf]; omega
    · have hd1 : decide ((k : Int) < (ll : Int)) = false := decide_eq_false (by omega)
      obtain rfl : k = ll := by omega
      have ht : l.take k = l := List.take_of_length_le (by have := HLN.out; omega)
      have HT := Lib.hid ht
      clear ht
      go_wp2
      go_ret
      refine ⟨?_, HBB.out⟩
      have hS := HS.out
      rw [HT.out] at hS
      unfold putL
      rw [HLN.out, ← List.append_assoc, ← hS]
      rfl
end Go.Proofs.YtnlfighfkmlmaaaDoor
