/- SnapsNobody walked. Condition: errors.errorType reads as the program's text lays it. -/
import Derived.Test.YtomhfnaekjmjnaaDoorSng
namespace Go.Proofs.YtomhfnaekjmjnaaDoor
set_option linter.unusedVariables false
open Go.ChangeShapes Go.WideShapes Go.ChangeAt Go.RowKit
attribute [local go_sem ↓] Go.wp_at_zero Go.wp_at_succ comesTo_value_eq comesTo_skip_eq comesTo_enter_eq

set_option maxRecDepth 100000 in
set_option maxHeartbeats 4000000 in
theorem snobody_any (ad : Option Addr) (n c : Nat) (w : World) (hE : ErrAt w) :
    Calls Tryd.prog 11 #[.slice ad n c] w fun e w' => e = .returned (.bool true) ∧ Below w.heap.size w w' := by
  have HE := Lib.hid hE
  clear hE
  by_cases hl : 1000 < n
  · have hd : decide ((n : Int) > 1000) = true := decide_eq_true (by omega)
    clear hl
    go_enter Tryd.func11, Tryd.ntmps11
    go_wp2
    go_ret
    exact ⟨rfl, Below.refl _ _⟩
  have hd : decide ((n : Int) > 1000) = false := decide_eq_false (by omega)
  clear hl
  go_enter Tryd.func11, Tryd.ntmps11
  go_wp2
  clear hd
  go_loopw [3] (fun i wr => ∃ k : Nat, k ≤ 2 ∧ i = .int .i64 k ∧ Below w.heap.size w wr) (fun i _ => 2 - (intOf i).toNat)
  case atStart => exact ⟨0, by decide, rfl, Below.refl _ _⟩
  case round =>
    obtain ⟨k, hk, rfl, hB⟩ := hrel
    rcases (by omega : k = 0 ∨ k = 1 ∨ k = 2) with rfl | rfl | rfl
    · have hBk := below_alloc hB (.cells #[.pointer none, .int .i64 0, .int .i64 0, .int .i64 0, .slice none 0 0, .int .i64 0, .bool false] 87)
      have hN : NoSn (wr.alloc (.cells #[.pointer none, .int .i64 0, .int .i64 0, .int .i64 0, .slice none 0 0, .int .i64 0, .bool false] 87)) (.pointer (some ⟨wr.heap.size, 0, none⟩)) := .inr ⟨_, rfl, World.alloc_heap_new wr _⟩
      have HBk := Lib.hid hBk
      clear hB hBk
      go_wp2_with fail
      refine (last_no hN).mono ?_
      rintro e w' ⟨rfl, rfl⟩
      go_wp2_with fail
      refine (save_no hN ad n c).mono ?_
      rintro e w' ⟨rfl, rfl⟩
      go_wp2_with fail
      refine (slot_no hN).mono ?_
      rintro e w' ⟨rfl, rfl⟩
      go_wp2_with fail
      go_roundw
      case rel => exact ⟨1, by decide, rfl, HBk.out⟩
      case measure => decide
    · have hBk := below_alloc hB (.cells #[.pointer none, .int .i64 0, .int .i64 0, .int .i64 0, .slice none 0 0, .int .i64 0, .bool false] 87)
      have hN : NoSn (wr.alloc (.cells #[.pointer none, .int .i64 0, .int .i64 0, .int .i64 0, .slice none 0 0, .int .i64 0, .bool false] 87)) (.pointer none) := .inl rfl
      have HBk := Lib.hid hBk
      clear hB hBk
      go_wp2_with fail
      refine (last_no hN).mono ?_
      rintro e w' ⟨rfl, rfl⟩
      go_wp2_with fail
      refine (save_no hN ad n c).mono ?_
      rintro e w' ⟨rfl, rfl⟩
      go_wp2_with fail
      refine (slot_no hN).mono ?_
      rintro e w' ⟨rfl, rfl⟩
      go_wp2_with fail
      go_roundw
      case rel => exact ⟨2, by decide, rfl, HBk.out⟩
      case measure => decide
    · have HB1 := Lib.hid hB
      clear hB
      go_wp2_with fail
      refine (new_any _).mono ?_
      rintro e w1 ⟨D, rfl, hd, hb⟩
      have HB2 := Lib.hid (HB1.out.trans (hb.mono HB1.out.size))
      have HD := Lib.hid hd
      clear hd hb
      go_wp2_with fail
      refine (sopen_no (w := w1) 0 1 (by decide)).mono ?_
      rintro e w2 ⟨rfl, hb2⟩
      have HB3 := Lib.hid (HB2.out.trans (hb2.mono HB2.out.size))
      have HD2 := Lib.hid (HD.out.below hb2)
      clear hb2
      go_wp2_with fail
      refine (sopen_any HD2.out (HE.out.below HB3.out) 2 2).mono ?_
      rintro e w3 ⟨hb3, h | h | h | h⟩
      rotate_left
      · exact absurd rfl h.1
      · exact absurd rfl h.1
      · exact absurd rfl h.1
      obtain ⟨_, rfl⟩ := h
      have HB4 := Lib.hid (HB3.out.trans (hb3.mono HB3.out.size))
      have HD3 := Lib.hid (HD2.out.below hb3)
      clear hb3
      go_wp2_with fail
      refine (sopen_any HD3.out (HE.out.below HB4.out) 0 7).mono ?_
      rintro e w4 ⟨hb4, h | h | h | h⟩
      · exact absurd h.1 (by decide)
      · exact absurd (by decide : wrongF newF.down 0 = 0) h.2.1
      rotate_left
      · exact absurd h.2.2.1 (by decide)
      obtain ⟨_, _, _, rfl⟩ := h
      rw [show wrongF newF.down 7 = 13 from by decide]
      have HB5 := Lib.hid (HB4.out.trans (hb4.mono HB4.out.size))
      clear hb4
      go_wp2_with fail
      refine (one_sn _ (HE.out.below HB5.out)).mono ?_
      rintro e w5 ⟨rfl, hb5⟩
      have HB6 := Lib.hid (HB5.out.trans (hb5.mono HB5.out.size))
      clear hb5
      go_wp2_with fail
      go_ret
      exact ⟨rfl, HB6.out⟩
end Go.Proofs.YtomhfnaekjmjnaaDoor
