/- Numbers laid behind bytes; a cursor made. No condition but the lengths' bound. -/
import Derived.Test.YtomhfnaekjmjnaaDoorCurI
namespace Go.Proofs.YtomhfnaekjmjnaaDoor
set_option linter.unusedVariables false
open Go.ChangeShapes Go.WideShapes Go.ChangeAt Go.RowKit
attribute [local go_sem ↓] Go.wp_at_zero Go.wp_at_succ comesTo_value_eq comesTo_skip_eq comesTo_enter_eq

/-- a cursor is made -/
theorem read_cur {w : World} {v : Value} {xs : List Int} (h : TxtAt w v xs) (hl : xs.length ≤ 1099511627775) :
    Calls Tryd.prog 79 #[v] w fun e w' => ∃ C, e = .returned (.pointer (some ⟨C, 0, none⟩)) ∧ Cur w' C (fun j => w.heap.size ≤ j) ⟨xs, 0⟩ ∧ Below w.heap.size w w' := by
  have K := Lib.hid (clone_bytes h (by omega))
  clear h
  go_enter Tryd.func79, Tryd.ntmps79
  go_wp2_with fail
  refine K.out.mono ?_
  rintro e w1 ⟨u, rfl, ho, hb, _⟩
  have HO := Lib.hid ho
  have HB := Lib.hid hb
  clear ho hb K
  rcases HO.out.form with ⟨rfl, rfl⟩ | ⟨g, c, rfl, hn, hc⟩
  · go_wp2
    go_ret
    have hA := below_alloc (Below.refl _ w1) (.cells #[.slice none 0 0, .nilIface] 145)
    exact ⟨w1.heap.size, rfl, ⟨HB.out.size, fun h => absurd rfl h, hl, none, 0, 0, World.alloc_heap_new w1 _, .inr ⟨rfl, none, 0, rfl, fun _ => rfl⟩, Nat.le_refl _, fun p hp => by cases hp⟩, HB.out.trans (hA.mono HB.out.size)⟩
  · have HC := Lib.hid hn
    have HL := Lib.hid hl
    clear hn hc hl
    go_wp2
    go_ret
    have hA := below_alloc (Below.refl _ w1) (.cells #[.slice (some ⟨g, 0, none⟩) xs.length c, .nilIface] 145)
    refine ⟨w1.heap.size, rfl, ⟨HB.out.size, fun h => absurd rfl h, HL.out, some ⟨g, 0, none⟩, xs.length, c, World.alloc_heap_new w1 _, HO.out.at.below hA, HC.out, fun p hp => ?_⟩, HB.out.trans (hA.mono HB.out.size)⟩
    cases hp
    have h1 := ownBlock_lt HO.out (g := g) rfl
    have h2 := HO.out.blockGe (g := g) rfl
    exact ⟨by show g ≠ w1.heap.size; omega, h2, Nat.lt_of_lt_of_le h1 hA.size⟩
theorem or_128 : ∀ x : Nat, x < 256 → x ||| 128 = x % 128 + 128 := by decide +kernel
theorem or_more (u : Nat) : bits BinOp.or IntKind.u8 ((u : Int) % 256) 128 = ((u % 128 + 128 : Nat) : Int) := by
  have h := u8_or_nat (u % 256) 128 (by omega) (by decide)
  rw [or_128 _ (by omega), show u % 256 % 128 = u % 128 by omega] at h
  rw [show (u : Int) % 256 = ((u % 256 : Nat) : Int) by omega]
  exact h
theorem byte_txt {w : World} {b : Nat} {x : Int} {T : TypeId} (hb : w.heap[b]? = some (.cells #[.int .u8 x] T (0, 0))) (h : 0 ≤ x ∧ x ≤ 255) : TxtAt w (.slice (some ⟨b, 0, none⟩) 1 1) [x] := by
  refine .inl ⟨b, 0, 1, rfl, by simp, ⟨fun k hk => ?_, fun k hk => ?_, fun k hk => ?_, by simp⟩⟩ <;> (obtain rfl : k = 0 := by simpa using hk)
  · exact cell_of_block hb rfl
  · exact h.1
  · exact h.2
set_option maxRecDepth 100000 in
theorem lay64_any {w : World} {B : Nat} {v : Value} {xs : List Int} (h : OwnTxt w B v xs) (hB : B ≤ w.heap.size) (hl : xs.length ≤ 1099511627776) {n : Int} (hn : -9223372036854775808 ≤ n ∧ n ≤ 9223372036854775807) :
    Calls Tryd.prog 60 #[v, .int .i64 n] w fun e w' => ∃ u, e = .returned u ∧ OwnTxt w' B u (xs ++ putI n) ∧ Below B w w' := by
  have K := Lib.hid (fold_any hn w)
  have h64 := fold_lt hn
  have hlen := putI_len hn
  have HO := Lib.hid h
  clear h
  unfold putI at *
  generalize foldF n = u0 at *
  go_enter Tryd.func60, Tryd.ntmps60
  go_wp2_with fail
  refine K.out.mono ?_
  rintro e w' ⟨rfl, rfl⟩
  have HL := Lib.hid hlen
  clear hlen
  go_wp2_with fail
  go_loopw [0, 5] (fun b r wr => ∃ (v' : Value) (acc : List Int) (u : Nat), b = v' ∧ r = .int .u64 (u : Int) ∧ u < 18446744073709551616 ∧ acc ++ putU u = putU u0 ∧ OwnTxt wr B v' (xs ++ acc) ∧ Below B w wr) (fun _ r _ => (intOf r).toNat)
  case atStart => exact ⟨v, [], u0, rfl, rfl, h64, rfl, by rw [List.append_nil]; exact HO.out, Below.refl _ _⟩
  case round =>
    clear HO
    obtain ⟨v', acc, u, rfl, rfl, hu, hacc, ho, hb⟩ := hrel
    have HA := Lib.hid hacc
    have HB := Lib.hid hb
    have hal : acc.length + (putU u).length ≤ 10 := by
      have := HL.out
      rw [← hacc, List.length_append] at this
      exact this
    clear hacc hb
    by_cases h128 : u < 128
    · have hq : decide ((u : Int) ≥ 128) = false := decide_eq_false (by omega)
      have hw : IntKind.u8.wrap (u : Int) = (u : Int) := by rw [IntKind.wrap_u8']; omega
      have hA1 := below_alloc (Below.refl _ wr) (.cells #[.int .u8 (u : Int)] 5)
      have HO1 := Lib.hid (ho.below hA1)
      have HT1 := Lib.hid (byte_txt (World.alloc_heap_new wr (.cells #[.int .u8 (u : Int)] 5)) (by omega))
      have HA1 := Lib.hid hA1
      rw [putU_lt h128] at HA
      have h9 : (xs ++ acc).length + 1 ≤ 140737488355328 := by
        have := putU_len u
        simp; omega
      have hBA : B ≤ (wr.alloc (.cells #[.int .u8 (u : Int)] 5)).heap.size := Nat.le_trans hB (Nat.le_trans HB.out.size HA1.out.size)
      have HF := Lib.hid (HB.out.trans (HA1.out.mono (Nat.le_trans hB HB.out.size)))
      clear ho hA1 hal h128
      go_wp2_with (at_builtin; go_loud (refine wpList_append_txt (by rfl) _ _ (by rfl) B u0 (xs ++ acc) (by rfl) HO1.out _ [(u : Int)] (by rfl) HT1.out (by simpa using h9) hBA ?_; intro ad n' c' w1 o1 b1 g1; have O1 := Lib.hid o1; have B1 := Lib.hid b1; clear o1 b1 g1))
      go_ret
      refine ⟨_, rfl, ?_, HF.out.trans B1.out⟩
      rw [← HA.out, ← List.append_assoc]
      exact O1.out
    · have hq : decide ((u : Int) ≥ 128) = true := decide_eq_true (by omega)
      have hor := or_more u
      have hA1 := below_alloc (Below.refl _ wr) (.cells #[.int .u8 ((u % 128 + 128 : Nat) : Int)] 5)
      have HO1 := Lib.hid (ho.below hA1)
      have HT1 := Lib.hid (byte_txt (World.alloc_heap_new wr (.cells #[.int .u8 ((u % 128 + 128 : Nat) : Int)] 5)) (by omega))
      have HA1 := Lib.hid hA1
      rw [putU_ge h128] at HA
      have h9 : (xs ++ acc).length + 1 ≤ 140737488355328 := by simp; omega
      have hBA : B ≤ (wr.alloc (.cells #[.int .u8 ((u % 128 + 128 : Nat) : Int)] 5)).heap.size := Nat.le_trans hB (Nat.le_trans HB.out.size HA1.out.size)
      have HF := Lib.hid (HB.out.trans (HA1.out.mono (Nat.le_trans hB HB.out.size)))
      have HM := Lib.hid (show u / 128 < u ∧ u / 128 < 18446744073709551616 by omega)
      generalize u % 128 + 128 = y at *
      clear ho hA1 hal h128
      go_wp2_with (at_builtin; go_loud (refine wpList_append_txt (by rfl) _ _ (by rfl) B u0 (xs ++ acc) (by rfl) HO1.out _ [(y : Int)] (by rfl) HT1.out (by simpa using h9) hBA ?_; intro ad n' c' w1 o1 b1 g1; have O1 := Lib.hid o1; have B1 := Lib.hid b1; clear o1 b1 g1))
      go_roundw
      case rel => exact ⟨_, acc ++ [(y : Int)], u / 128, rfl, by rw [Int.natCast_ediv]; rfl, HM.out.2, by rw [List.append_assoc]; exact HA.out, by rw [← List.append_assoc]; exact O1.out, HF.out.trans B1.out⟩
      case measure => have := HM.out.1; simp [intOf]; omega
/-- a number behind bytes -/
theorem putint_any {w : World} {v : Value} {xs : List Int} (h : TxtAt w v xs) (hl : xs.length ≤ 1099511627776) {n : Int} (hn : -9223372036854775808 ≤ n ∧ n ≤ 9223372036854775807) :
    Calls Tryd.prog 38 #[v, .int .i64 n] w fun e w' => ∃ u, e = .returned u ∧ OwnTxt w' w.heap.size u (xs ++ putI n) ∧ Below w.heap.size w w' := by
  have K := Lib.hid (clone_bytes h (by omega))
  clear h
  go_enter Tryd.func38, Tryd.ntmps38
  go_wp2_with fail
  refine K.out.mono ?_
  rintro e w1 ⟨u, rfl, ho, hb, _⟩
  have KL := Lib.hid (lay64_any ho hb.size hl hn)
  have HB := Lib.hid hb
  clear ho hb K
  go_wp2_with fail
  refine KL.out.mono ?_
  rintro e w2 ⟨u2, rfl, ho2, hb2⟩
  have HO2 := Lib.hid ho2
  have HB2 := Lib.hid (HB.out.trans hb2)
  clear ho2 hb2
  go_wp2
  go_ret
  exact ⟨_, rfl, HO2.out, HB2.out⟩
end Go.Proofs.YtomhfnaekjmjnaaDoor
