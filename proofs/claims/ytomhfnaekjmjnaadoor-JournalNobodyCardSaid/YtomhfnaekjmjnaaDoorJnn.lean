/- JournalNobody walked. Condition: errors.errorType reads as the program's text lays it. -/
import Derived.Test.YtomhfnaekjmjnaaDoorJnm
import Derived.Test.YtomhfnaekjmjnaaDoorJno
namespace Go.Proofs.YtomhfnaekjmjnaaDoor
set_option linter.unusedVariables false
open Go.ChangeShapes Go.WideShapes Go.ChangeAt Go.RowKit
attribute [local go_sem ↓] Go.wp_at_zero Go.wp_at_succ comesTo_value_eq comesTo_skip_eq comesTo_enter_eq

set_option maxRecDepth 100000 in
set_option maxHeartbeats 4000000 in
theorem jnobody_any (g : Int) (bs : List Int) (ad : Option Addr) (c : Nat) (w : World) (hE : ErrAt w) :
    Calls Tryd.prog 6 #[.agg #[.int .i64 g, .slice ad bs.length c]] w fun e w' => e = .returned (.bool true) ∧ Below w.heap.size w w' := by
  have hb0 := below_alloc (Below.refl _ w) (.cells #[.int .i64 g, .slice ad bs.length c] 24)
  have n0 := World.alloc_heap_new w (.cells #[.int .i64 g, .slice ad bs.length c] 24)
  have hlt : w.heap.size < (w.alloc (.cells #[.int .i64 g, .slice ad bs.length c] 24)).heap.size := by simp
  have HB0 := Lib.hid hb0
  have HE := Lib.hid (hE.below hb0)
  have HN := Lib.hid n0
  clear hb0 hE
  have c0 := cell_of_block (o := 0) n0 rfl
  have c1 := cell_of_block (o := 1) n0 rfl
  clear n0
  by_cases hl : 1000 < bs.length
  · have hd : decide ((bs.length : Int) > 1000) = true := decide_eq_true (by omega)
    clear hl
    go_enter Tryd.func6, Tryd.ntmps6
    go_wp2
    go_ret
    exact ⟨rfl, HB0.out⟩
  have hd : decide ((bs.length : Int) > 1000) = false := decide_eq_false (by omega)
  clear hl
  go_enter Tryd.func6, Tryd.ntmps6
  go_wp2
  generalize w.alloc (.cells #[.int .i64 g, .slice ad bs.length c] 24) = wA at *
  have HC0 := Lib.hid c0
  have HC1 := Lib.hid c1
  clear c0 c1 hd
  go_loopw [3] (fun i wr => ∃ k : Nat, k ≤ 2 ∧ i = .int .i64 k ∧ Below wA.heap.size wA wr) (fun i _ => 2 - (intOf i).toNat)
  case atStart => exact ⟨0, by decide, rfl, Below.refl _ _⟩
  case round =>
    obtain ⟨k, hk, rfl, hB⟩ := hrel
    rcases (by omega : k = 0 ∨ k = 1 ∨ k = 2) with rfl | rfl | rfl
    · have hBk := below_alloc hB (.cells #[.pointer none, .int .i64 0, .slice none 0 0, .int .i64 0, .bool false, .bool false] 62)
      have hN : NoLog (wr.alloc (.cells #[.pointer none, .int .i64 0, .slice none 0 0, .int .i64 0, .bool false, .bool false] 62)) (.pointer (some ⟨wr.heap.size, 0, none⟩)) := .inr ⟨_, rfl, World.alloc_heap_new wr _⟩
      have HBk := Lib.hid hBk
      have b0 := (hBk.cell (p := ⟨w.heap.size, 0, none⟩) hlt).trans HC0.out
      have b1 := (hBk.cell (p := ⟨w.heap.size, 1, none⟩) hlt).trans HC1.out
      clear hB hBk
      go_wp2_with fail
      refine (add_lno hN g ad bs.length c).mono ?_
      rintro e W2 ⟨rfl, hb2⟩
      have hN2 := hN.below hb2
      have HB2 := Lib.hid (below_next HBk.out hb2)
      clear hb2
      have HS2 := Lib.hid (Nat.lt_of_lt_of_le hlt HB2.out.size)
      have d0 := (HB2.out.cell (p := ⟨w.heap.size, 0, none⟩) hlt).trans HC0.out
      go_wp2_with fail
      refine (clear_no hN2).mono ?_
      rintro e w' ⟨rfl, rfl⟩
      go_wp2_with fail
      refine (texts_no hN2 g).mono ?_
      rintro e W3 ⟨tv, rfl, ho, hb3⟩
      have hN3 := hN2.below hb3
      have HB3 := Lib.hid (below_next HB2.out hb3)
      have htv : tv = .slice none 0 0 ∨ ∃ a c, tv = .slice a 0 c := by
        rcases (show OwnS W3 W2.heap.size tv [] from ho).form with ⟨_, h⟩ | ⟨g', c', h, _⟩
        · exact .inl h
        · exact .inr ⟨_, _, h⟩
      obtain ⟨ta, tc, rfl⟩ : ∃ a c, tv = .slice a 0 c := by
        rcases htv with h | h
        · exact ⟨_, _, h⟩
        · exact h
      clear ho hb3 htv
      go_wp2_with fail
      refine (len_no hN3).mono ?_
      rintro e w' ⟨rfl, rfl⟩
      go_wp2_with fail
      refine (torn_no hN3).mono ?_
      rintro e w' ⟨rfl, rfl⟩
      go_wp2_with fail
      go_roundw
      case rel => exact ⟨1, by decide, rfl, HB3.out⟩
      case measure => decide
    · have hBk := below_alloc hB (.cells #[.pointer none, .int .i64 0, .slice none 0 0, .int .i64 0, .bool false, .bool false] 62)
      have hN : NoLog (wr.alloc (.cells #[.pointer none, .int .i64 0, .slice none 0 0, .int .i64 0, .bool false, .bool false] 62)) (.pointer none) := .inl rfl
      have HBk := Lib.hid hBk
      have b0 := (hBk.cell (p := ⟨w.heap.size, 0, none⟩) hlt).trans HC0.out
      have b1 := (hBk.cell (p := ⟨w.heap.size, 1, none⟩) hlt).trans HC1.out
      clear hB hBk
      go_wp2_with fail
      refine (add_lno hN g ad bs.length c).mono ?_
      rintro e W2 ⟨rfl, hb2⟩
      have hN2 := hN.below hb2
      have HB2 := Lib.hid (below_next HBk.out hb2)
      clear hb2
      have HS2 := Lib.hid (Nat.lt_of_lt_of_le hlt HB2.out.size)
      have d0 := (HB2.out.cell (p := ⟨w.heap.size, 0, none⟩) hlt).trans HC0.out
      go_wp2_with fail
      refine (clear_no hN2).mono ?_
      rintro e w' ⟨rfl, rfl⟩
      go_wp2_with fail
      refine (texts_no hN2 g).mono ?_
      rintro e W3 ⟨tv, rfl, ho, hb3⟩
      have hN3 := hN2.below hb3
      have HB3 := Lib.hid (below_next HB2.out hb3)
      have htv : tv = .slice none 0 0 ∨ ∃ a c, tv = .slice a 0 c := by
        rcases (show OwnS W3 W2.heap.size tv [] from ho).form with ⟨_, h⟩ | ⟨g', c', h, _⟩
        · exact .inl h
        · exact .inr ⟨_, _, h⟩
      obtain ⟨ta, tc, rfl⟩ : ∃ a c, tv = .slice a 0 c := by
        rcases htv with h | h
        · exact ⟨_, _, h⟩
        · exact h
      clear ho hb3 htv
      go_wp2_with fail
      refine (len_no hN3).mono ?_
      rintro e w' ⟨rfl, rfl⟩
      go_wp2_with fail
      refine (torn_no hN3).mono ?_
      rintro e w' ⟨rfl, rfl⟩
      go_wp2_with fail
      go_roundw
      case rel => exact ⟨2, by decide, rfl, HB3.out⟩
      case measure => decide
    · have HB1 := Lib.hid (HB0.out.trans (hB.mono HB0.out.size))
      have hB0 := hB
      go_wp2_with fail
      refine (open_no (.inl rfl) 0).mono ?_
      rintro e w' ⟨rfl, rfl⟩
      go_wp2_with fail
      refine (new_any _).mono ?_
      rintro e w1 ⟨D, rfl, hd, hb⟩
      have HB2 := Lib.hid (HB1.out.trans (hb.mono HB1.out.size))
      have hE2 : ErrAt w1 := (HE.out.below hB0).below hb
      have HE2 := Lib.hid hE2
      go_wp2_with fail
      refine (open_any hd hE2 9).mono ?_
      rintro e w2 ⟨hb2, h | ⟨h, _⟩⟩
      rotate_left
      · exact absurd h (by decide)
      obtain ⟨_, rfl⟩ := h
      rw [show wrongF newF.down 9 = 13 from by decide]
      have HB3 := Lib.hid (HB2.out.trans (hb2.mono HB2.out.size))
      have HE3 := Lib.hid (hE2.below hb2)
      clear hb2 hb hd
      go_wp2_with fail
      refine (one_jn _ HE3.out).mono ?_
      rintro e w3 ⟨rfl, hb3⟩
      have HB4 := Lib.hid (HB3.out.trans (hb3.mono HB3.out.size))
      clear hb3
      go_wp2_with fail
      go_ret
      exact ⟨rfl, HB4.out⟩
end Go.Proofs.YtomhfnaekjmjnaaDoor
