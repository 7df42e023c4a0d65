/- Laws that belong together: A cursor's numbers. No condition.; Numbers laid behind bytes; a cursor made. No condition but the lengths' bound.; The document's answers of layer 2: a number laid, as text. No condition but the numbers' bounds. -/
import Derived.Test.YtbhnjmdlagjfbaaMCur
import Derived.Deep.SlicePairs
namespace Go.Proofs.Ytbhnjmdlagjfbaa
set_option linter.unusedVariables false
open Go.ChangeShapes Go.WideShapes Go.ChangeAt Go.RowKit
attribute [local go_sem ↓] Go.wp_at_zero Go.wp_at_succ comesTo_value_eq comesTo_skip_eq comesTo_enter_eq

/-- a number that is read -/
def intF (st : CS) : CS × Int := if st.bad = 0 then (⟨(scan 0 0 st.xs).1, (scan 0 0 st.xs).2.1⟩, (scan 0 0 st.xs).2.2) else (st, 0)
theorem slice_from {b o n c k : Nat} (hk : k ≤ n) (hc : n ≤ c) (W : World) : Sem.run Try.prog (Instr.slice 24 (.slice (some ⟨b, o, none⟩) n c) (some (.int .i64 (k : Int))) none none) W = .ok (.slice (some ⟨b, if c = k then o else o + k, none⟩) (n - k) (c - k)) W := by
  by_cases h : c = k
  · subst h
    obtain rfl : n = c := by omega
    go_simp
  · rw [if_neg h]
    go_simp
/-- the bytes behind the first ones -/
theorem TxtAt.behind {w : World} {b o n c : Nat} {xs : List Int} (h : TxtAt w (.slice (some ⟨b, o, none⟩) n c) xs) {k : Nat} (hk : k ≤ n) (hc : n ≤ c) : TxtAt w (.slice (some ⟨b, if c = k then o else o + k, none⟩) (n - k) (c - k)) (xs.drop k) := by
  obtain ⟨hn, h | ⟨rfl, _⟩ | ⟨b', o', e, h0, hr⟩⟩ := h.form
  · cases h.1
  · exact .inr ⟨by simp, some ⟨b, if c = k then o else o + k, none⟩, c - k, by rw [show n - k = 0 by simp at hn; omega], fun h => by cases h⟩
  · cases e
    by_cases h : n = k
    · exact .inr ⟨List.drop_eq_nil_of_le (by omega), some ⟨b, if c = k then o else o + k, none⟩, c - k, by rw [show n - k = 0 by omega], fun h => by cases h⟩
    · rw [if_neg (by omega)]
      refine .inl ⟨b, o + k, _, by rw [show n - k = (xs.drop k).length by simp; omega], by simp; omega, ⟨fun j hj => ?_, fun j hj => ?_, fun j hj => ?_, ?_⟩⟩
      · have := hr.cell (k + j) (by simp at hj; omega)
        rw [show o + k + j = o + (k + j) by omega, this]
        simp [List.getD, List.getElem?_drop]
      · have := hr.lo (k + j) (by simp at hj; omega)
        simpa [List.getD, List.getElem?_drop] using this
      · have := hr.hi (k + j) (by simp at hj; omega)
        simpa [List.getD, List.getElem?_drop] using this
      · have := hr.len; simp; omega
theorem and_128 {m : Nat} (hm : m ≤ 255) : (bits BinOp.and IntKind.u8 (m : Int) 128 != 0) = decide (128 ≤ m) := by
  have h := u8_and_nat m 128 (by omega) (by decide)
  have hb : m &&& 128 = m / 128 % 2 * 128 := nat_bit 7 m
  rw [show ((128 : Nat) : Int) = 128 from rfl, hb] at h
  rw [h]
  by_cases h1 : 128 ≤ m
  · rw [decide_eq_true h1]; simp; omega
  · rw [decide_eq_false h1]; simp; omega
theorem or_lt {u m k : Nat} (hu : u < 2 ^ (7 * k)) (hk : k ≤ 9) (hm : m ≤ 255) (hA : ¬ (k = 9 ∧ 1 < m)) : u + m % 128 * 2 ^ (7 * k) < 18446744073709551616 := by
  rcases (by omega : k = 9 ∨ k ≤ 8) with rfl | h8
  · have : m % 128 * 2 ^ (7 * 9) ≤ 1 * 2 ^ (7 * 9) := Nat.mul_le_mul_right _ (by omega)
    simp at this hu
    omega
  · have h1 : m % 128 * 2 ^ (7 * k) ≤ 127 * 2 ^ (7 * k) := Nat.mul_le_mul_right _ (by omega)
    have h2 : 2 ^ (7 * k) ≤ 2 ^ 56 := Nat.pow_le_pow_right (by decide) (by omega)
    simp at h2
    omega
theorem or_step {u m k : Nat} (hu : u < 2 ^ (7 * k)) (hk : k ≤ 9) (hm : m ≤ 255) (hA : ¬ (k = 9 ∧ 1 < m)) :
    bits BinOp.or IntKind.u64 (u : Int) (IntKind.u64.wrap (IntKind.u64.wrap (bits BinOp.andNot IntKind.u8 (m : Int) 128) * 2 ^ (7 * k))) = ((u + m % 128 * 2 ^ (7 * k) : Nat) : Int) := by
  have hlt := or_lt hu hk hm hA
  have h1 : bits BinOp.andNot IntKind.u8 (m : Int) 128 = ((m % 128 : Nat) : Int) := by
    have := u8_andNot_nat m 128 (by omega) (by decide)
    rw [show 255 - 128 = 127 from rfl, nat_mask7] at this
    exact this
  have e : ((m % 128 : Nat) : Int) * 2 ^ (7 * k) = ((m % 128 * 2 ^ (7 * k) : Nat) : Int) := by simp [Int.natCast_mul, Int.natCast_pow]
  rw [h1, IntKind.wrap_u64 ((m % 128 : Nat) : Int), show ((m % 128 : Nat) : Int) % 18446744073709551616 = ((m % 128 : Nat) : Int) by omega, e, IntKind.wrap_u64, show ((m % 128 * 2 ^ (7 * k) : Nat) : Int) % 18446744073709551616 = ((m % 128 * 2 ^ (7 * k) : Nat) : Int) by omega,
    u64_or_nat _ _ (by omega) (by omega), Nat.or_comm, nat_join (7 * k) _ _ (Nat.mul_mod_left _ _) hu, Nat.add_comm]
end Go.Proofs.Ytbhnjmdlagjfbaa
namespace Go.Proofs.Ytbhnjmdlagjfbaa
set_option linter.unusedVariables false
open Go.ChangeShapes Go.WideShapes Go.ChangeAt Go.RowKit
attribute [local go_sem ↓] Go.wp_at_zero Go.wp_at_succ comesTo_value_eq comesTo_skip_eq comesTo_enter_eq

theorem or_128 : ∀ x : Nat, x < 256 → x ||| 128 = x % 128 + 128 := by decide +kernel
theorem or_more (u : Nat) : bits BinOp.or IntKind.u8 ((u : Int) % 256) 128 = ((u % 128 + 128 : Nat) : Int) := by
  have h := u8_or_nat (u % 256) 128 (by omega) (by decide)
  rw [or_128 _ (by omega), show u % 256 % 128 = u % 128 by omega] at h
  rw [show (u : Int) % 256 = ((u % 256 : Nat) : Int) by omega]
  exact h
theorem byte_txt {w : World} {b : Nat} {x : Int} {T : TypeId} (hb : w.heap[b]? = some (.cells #[.int .u8 x] T (0, 0))) (h : 0 ≤ x ∧ x ≤ 255) : TxtAt w (.slice (some ⟨b, 0, none⟩) 1 1) [x] := by
  refine .inl ⟨b, 0, 1, rfl, by simp, ⟨fun k hk => ?_, fun k hk => ?_, fun k hk => ?_, by simp⟩⟩ <;> (obtain rfl : k = 0 := by simpa using hk)
  · exact cell_of_block hb rfl
  · exact h.1
  · exact h.2
set_option maxRecDepth 100000 in
theorem lay64_any {w : World} {B : Nat} {v : Value} {xs : List Int} (h : OwnTxt w B v xs) (hB : B ≤ w.heap.size) (hl : xs.length ≤ 1099511627776) {n : Int} (hn : -9223372036854775808 ≤ n ∧ n ≤ 9223372036854775807) :
    Calls Try.prog 128 #[v, .int .i64 n] w fun e w' => ∃ u, e = .returned u ∧ OwnTxt w' B u (xs ++ putI n) ∧ Below B w w' := by
  have K := Lib.hid (fold_any hn w)
  have h64 := fold_lt hn
  have hlen := putI_len hn
  have HO := Lib.hid h
  clear h
  unfold putI at *
  generalize foldF n = u0 at *
  go_enter Try.func128, Try.ntmps128
  go_wp2_with fail
  refine K.out.mono ?_
  rintro e w' ⟨rfl, rfl⟩
  have HL := Lib.hid hlen
  clear hlen
  go_wp2_with fail
  go_loopw [0, 5] (fun b r wr => ∃ (v' : Value) (acc : List Int) (u : Nat), b = v' ∧ r = .int .u64 (u : Int) ∧ u < 18446744073709551616 ∧ acc ++ putU u = putU u0 ∧ OwnTxt wr B v' (xs ++ acc) ∧ Below B w wr) (fun _ r _ => (intOf r).toNat)
  case atStart => exact ⟨v, [], u0, rfl, rfl, h64, rfl, by rw [List.append_nil]; exact HO.out, Below.refl _ _⟩
  case round =>
    clear HO
    obtain ⟨v', acc, u, rfl, rfl, hu, hacc, ho, hb⟩ := hrel
    have HA := Lib.hid hacc
    have HB := Lib.hid hb
    have hal : acc.length + (putU u).length ≤ 10 := by
      have := HL.out
      rw [← hacc, List.length_append] at this
      exact this
    clear hacc hb
    by_cases h128 : u < 128
    · have hq : decide ((u : Int) ≥ 128) = false := decide_eq_false (by omega)
      have hw : IntKind.u8.wrap (u : Int) = (u : Int) := by rw [IntKind.wrap_u8']; omega
      have hA1 := below_alloc (Below.refl _ wr) (.cells #[.int .u8 (u : Int)] 5)
      have HO1 := Lib.hid (ho.below hA1)
      have HT1 := Lib.hid (byte_txt (World.alloc_heap_new wr (.cells #[.int .u8 (u : Int)] 5)) (by omega))
      have HA1 := Lib.hid hA1
      rw [putU_lt h128] at HA
      have h9 : (xs ++ acc).length + 1 ≤ 140737488355328 := by
        have := putU_len u
        simp; omega
      have hBA : B ≤ (wr.alloc (.cells #[.int .u8 (u : Int)] 5)).heap.size := Nat.le_trans hB (Nat.le_trans HB.out.size HA1.out.size)
      have HF := Lib.hid (HB.out.trans (HA1.out.mono (Nat.le_trans hB HB.out.size)))
      clear ho hA1 hal h128
      go_wp2_with (at_builtin; go_loud (refine wpList_append_txt (by rfl) _ _ (by rfl) B u0 (xs ++ acc) (by rfl) HO1.out _ [(u : Int)] (by rfl) HT1.out (by simpa using h9) hBA ?_; intro ad n' c' w1 o1 b1 g1; have O1 := Lib.hid o1; have B1 := Lib.hid b1; clear o1 b1 g1))
      go_ret
      refine ⟨_, rfl, ?_, HF.out.trans B1.out⟩
      rw [← HA.out, ← List.append_assoc]
      exact O1.out
    · have hq : decide ((u : Int) ≥ 128) = true := decide_eq_true (by omega)
      have hor := or_more u
      have hA1 := below_alloc (Below.refl _ wr) (.cells #[.int .u8 ((u % 128 + 128 : Nat) : Int)] 5)
      have HO1 := Lib.hid (ho.below hA1)
      have HT1 := Lib.hid (byte_txt (World.alloc_heap_new wr (.cells #[.int .u8 ((u % 128 + 128 : Nat) : Int)] 5)) (by omega))
      have HA1 := Lib.hid hA1
      rw [putU_ge h128] at HA
      have h9 : (xs ++ acc).length + 1 ≤ 140737488355328 := by simp; omega
      have hBA : B ≤ (wr.alloc (.cells #[.int .u8 ((u % 128 + 128 : Nat) : Int)] 5)).heap.size := Nat.le_trans hB (Nat.le_trans HB.out.size HA1.out.size)
      have HF := Lib.hid (HB.out.trans (HA1.out.mono (Nat.le_trans hB HB.out.size)))
      have HM := Lib.hid (show u / 128 < u ∧ u / 128 < 18446744073709551616 by omega)
      generalize u % 128 + 128 = y at *
      clear ho hA1 hal h128
      go_wp2_with (at_builtin; go_loud (refine wpList_append_txt (by rfl) _ _ (by rfl) B u0 (xs ++ acc) (by rfl) HO1.out _ [(y : Int)] (by rfl) HT1.out (by simpa using h9) hBA ?_; intro ad n' c' w1 o1 b1 g1; have O1 := Lib.hid o1; have B1 := Lib.hid b1; clear o1 b1 g1))
      go_roundw
      case rel => exact ⟨_, acc ++ [(y : Int)], u / 128, rfl, by rw [Int.natCast_ediv]; rfl, HM.out.2, by rw [List.append_assoc]; exact HA.out, by rw [← List.append_assoc]; exact O1.out, HF.out.trans B1.out⟩
      case measure => have := HM.out.1; simp [intOf]; omega
/-- a number behind bytes -/
theorem putint_any {w : World} {v : Value} {xs : List Int} (h : TxtAt w v xs) (hl : xs.length ≤ 1099511627776) {n : Int} (hn : -9223372036854775808 ≤ n ∧ n ≤ 9223372036854775807) :
    Calls Try.prog 80 #[v, .int .i64 n] w fun e w' => ∃ u, e = .returned u ∧ OwnTxt w' w.heap.size u (xs ++ putI n) ∧ Below w.heap.size w w' := by
  have K := Lib.hid (clone_bytes h (by omega))
  clear h
  go_enter Try.func80, Try.ntmps80
  go_wp2_with fail
  refine K.out.mono ?_
  rintro e w1 ⟨u, rfl, ho, hb, _⟩
  have KL := Lib.hid (lay64_any ho hb.size hl hn)
  have HB := Lib.hid hb
  clear ho hb K
  go_wp2_with fail
  refine KL.out.mono ?_
  rintro e w2 ⟨u2, rfl, ho2, hb2⟩
  have HO2 := Lib.hid ho2
  have HB2 := Lib.hid (HB.out.trans hb2)
  clear ho2 hb2
  go_wp2
  go_ret
  exact ⟨_, rfl, HO2.out, HB2.out⟩
end Go.Proofs.Ytbhnjmdlagjfbaa
namespace Go.Proofs.Ytbhnjmdlagjfbaa
set_option linter.unusedVariables false
open Go.ChangeShapes Go.WideShapes Go.ChangeAt Go.RowKit Go.Lib
attribute [local go_sem ↓] Go.wp_at_zero Go.wp_at_succ comesTo_value_eq comesTo_skip_eq comesTo_enter_eq

theorem str_append (xs ys : List Int) : strOfNums xs ++ strOfNums ys = strOfNums (xs ++ ys) := by
  apply ByteArray.ext
  simp [strOfNums, ByteArray.data_append]
theorem rfold_any {v : Int} (h : -9223372036854775808 ≤ v ∧ v ≤ 9223372036854775807) (w : World) : Calls Try.prog 129 #[.int .i64 v] w fun e w' => e = .returned (.int .u64 (foldF v : Int)) ∧ w = w' := by
  by_cases hv : v < 0
  · have hd : decide (v < 0) = true := decide_eq_true hv
    go_enter Try.func129, Try.ntmps129
    go_wp2
    go_ret
    refine ⟨?_, rfl⟩
    have e : (foldF v : Int) = 2 * -(v + 1) + 1 := by unfold foldF; rw [if_pos hv]; omega
    rw [e]
    rfl
  · have hd : decide (v < 0) = false := decide_eq_false hv
    go_enter Try.func129, Try.ntmps129
    go_wp2
    go_ret
    refine ⟨?_, rfl⟩
    have e : (foldF v : Int) = 2 * v := by unfold foldF; rw [if_neg (by omega)]; omega
    rw [e]
    rfl
set_option maxRecDepth 100000 in
theorem rputint_any (xs : List Int) (hxl : xs.length ≤ 1099511627776) {n : Int} (hn : -9223372036854775808 ≤ n ∧ n ≤ 9223372036854775807) (w : World) :
    Calls Try.prog 81 #[.string (strOfNums xs), .int .i64 n] w fun e w' => e = .returned (.string (strOfNums (xs ++ putI n))) ∧ Below w.heap.size w w' := by
  have K := Lib.hid (rfold_any hn w)
  have h64 := fold_lt hn
  have hlen := putI_len hn
  unfold putI at *
  generalize foldF n = u0 at *
  have HL := Lib.hid hlen
  clear hlen
  go_enter Try.func81, Try.ntmps81
  go_wp2_with fail
  refine K.out.mono ?_
  rintro e w' ⟨rfl, rfl⟩
  go_wp2_with fail
  go_loopw [0, 5] (fun b r wr => ∃ (acc : List Int) (u : Nat), b = .string (strOfNums (xs ++ acc)) ∧ r = .int .u64 (u : Int) ∧ u < 18446744073709551616 ∧ acc ++ putU u = putU u0 ∧ Below w.heap.size w wr) (fun _ r _ => (intOf r).toNat)
  case atStart => exact ⟨[], u0, by rw [List.append_nil], rfl, h64, rfl, Below.refl _ _⟩
  case round =>
    obtain ⟨acc, u, rfl, rfl, hu, hacc, hb⟩ := hrel
    have HA := Lib.hid hacc
    have HB := Lib.hid hb
    clear hacc hb
    by_cases h128 : u < 128
    · have hq : decide ((u : Int) ≥ 128) = false := decide_eq_false (by omega)
      have hw : IntKind.u8.wrap (u : Int) = (u : Int) := by rw [IntKind.wrap_u8']; omega
      have hA1 := below_alloc (Below.refl _ wr) (.cells #[.int .u8 (u : Int)] 5)
      have hcv := txt_conv (byte_txt (World.alloc_heap_new wr (.cells #[.int .u8 (u : Int)] 5)) (by omega)) _ (Below.refl _ _)
      have hap := str_append (xs ++ acc) [(u : Int)]
      have hsz : ¬ 9223372036854775807 < (strOfNums (xs ++ acc)).size + (strOfNums [(u : Int)]).size := by
        rw [size_str, size_str]
        have h1 := putU_len u
        have h2 : acc.length + (putU u).length ≤ 10 := by rw [← List.length_append, HA.out]; exact HL.out
        simp only [List.length_append, List.length_cons, List.length_nil]
        omega
      have HF := Lib.hid (below_next HB.out hA1)
      clear hA1
      go_wp2
      go_ret
      refine ⟨?_, HF.out⟩
      rw [← HA.out, putU_lt h128]
      rfl
    · have hq : decide ((u : Int) ≥ 128) = true := decide_eq_true (by omega)
      have HM := Lib.hid (show u / 128 < u ∧ u / 128 < 18446744073709551616 by omega)
      have hA1 := below_alloc (Below.refl _ wr) (.cells #[.int .u8 ((u : Int) % 128 + 128)] 5)
      have hcv := txt_conv (byte_txt (World.alloc_heap_new wr (.cells #[.int .u8 ((u : Int) % 128 + 128)] 5)) (by omega)) _ (Below.refl _ _)
      have hap := str_append (xs ++ acc) [(u : Int) % 128 + 128]
      have hsz : ¬ 9223372036854775807 < (strOfNums (xs ++ acc)).size + (strOfNums [(u : Int) % 128 + 128]).size := by
        rw [size_str, size_str]
        have h2 : acc.length + (putU u).length ≤ 10 := by rw [← List.length_append, HA.out]; exact HL.out
        simp only [List.length_append, List.length_cons, List.length_nil]
        omega
      have HF := Lib.hid (below_next HB.out hA1)
      have HA2 := Lib.hid (show (acc ++ [(u : Int) % 128 + 128]) ++ putU (u / 128) = putU u0 by
        rw [← HA.out, putU_ge h128, List.append_assoc, show ((u % 128 + 128 : Nat) : Int) = (u : Int) % 128 + 128 by omega]; rfl)
      clear hA1
      go_wp2
      go_roundw
      case rel => exact ⟨acc ++ [(u : Int) % 128 + 128], u / 128, rfl, by rw [Int.natCast_ediv]; rfl, HM.out.2, HA2.out, HF.out⟩
      case measure => have := HM.out.1; simp [intOf]; omega
end Go.Proofs.Ytbhnjmdlagjfbaa
