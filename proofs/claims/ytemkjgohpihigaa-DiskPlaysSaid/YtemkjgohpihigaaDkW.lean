/- A disk that was made: its calls; and a small play. No condition. -/
import Derived.Test.YtemkjgohpihigaaDkC0
import Derived.Test.YtemkjgohpihigaaDkC1
import Derived.Test.YtemkjgohpihigaaDkC2
import Derived.Test.YtemkjgohpihigaaDkF
import Derived.Test.YtemkjgohpihigaaDkN
import Derived.Lib.SlBytesConst
namespace Go.Proofs.Ytemkjgohpihigaa
set_option linter.unusedVariables false
open Go.ChangeShapes Go.WideShapes Go.ChangeAt Go.RowKit
attribute [local go_sem ↓] Go.wp_at_zero Go.wp_at_succ comesTo_value_eq comesTo_skip_eq comesTo_enter_eq

theorem append_dk {w : World} {D : Nat} {F : Nat → Prop} {st : DS} (h : Dk w D F st) (f : Int) (ad : Option Addr) (n c : Nat) (xs : List Int) (hn : n = xs.length) (hX : ∀ w', Fr F w w' → TxtAt w' (.slice ad n c) xs) (hxl : xs.length ≤ 140737487306752) :
    Calls Try.prog 7 #[.pointer (some ⟨D, 0, none⟩), .int .i64 f, .slice ad n c] w fun e w' => CallEnd 0 w D F st f xs e w' := by
  have K := Lib.hid (call0_dk h f ad n c xs hn hX hxl)
  clear h hX hn hxl
  go_enter Try.func7, Try.ntmps7
  go_wp2_with fail
  refine K.out.mono ?_
  rintro e w' ⟨rfl, h⟩
  go_wp2_with fail
  go_ret
  exact ⟨rfl, h⟩
theorem sync_dk {w : World} {D : Nat} {F : Nat → Prop} {st : DS} (h : Dk w D F st) (f : Int) :
    Calls Try.prog 9 #[.pointer (some ⟨D, 0, none⟩), .int .i64 f] w fun e w' => CallEnd 1 w D F st f [] e w' := by
  have K := Lib.hid (call1_dk h f)
  clear h
  go_enter Try.func9, Try.ntmps9
  go_wp2_with fail
  refine K.out.mono ?_
  rintro e w' ⟨rfl, h⟩
  go_wp2_with fail
  go_ret
  exact ⟨rfl, h⟩
theorem reset_dk {w : World} {D : Nat} {F : Nat → Prop} {st : DS} (h : Dk w D F st) (f : Int) :
    Calls Try.prog 11 #[.pointer (some ⟨D, 0, none⟩), .int .i64 f] w fun e w' => CallEnd 2 w D F st f [] e w' := by
  have K := Lib.hid (call2_dk h f)
  clear h
  go_enter Try.func11, Try.ntmps11
  go_wp2_with fail
  refine K.out.mono ?_
  rintro e w' ⟨rfl, h⟩
  go_wp2_with fail
  go_ret
  exact ⟨rfl, h⟩
theorem Dk.bound {w : World} {D : Nat} {F : Nat → Prop} {st : DS} (h : Dk w D F st) : Dk w D (fun j => F j ∧ j < w.heap.size) st := by
  obtain ⟨hm, hft, hsf, hl, v, lf, ar, hb, hr, hx⟩ := h
  exact ⟨⟨hm, (Array.getElem?_eq_some_iff.1 hb).1⟩, hft, hsf, hl, v, lf, ar, hb, ⟨hr.own, fun k g hk hg => ⟨⟨(hr.foot k g hk hg).1, ownBlock_lt (hr.own k hk) hg⟩, (hr.foot k g hk hg).2⟩, hr.apart⟩, hx⟩
def keep1 : Nat → Int := fun k => if k = 1 then 1 else 0
theorem one_st : ((callF 0 newF 1 [120, 121, 122]).2 = 0) ∧ (fallF (callF 0 newF 1 [120, 121, 122]).1 keep1).b 1 = [120] ∧ (fallF (callF 0 newF 1 [120, 121, 122]).1 keep1).down = false := by decide
set_option maxRecDepth 100000 in
set_option maxHeartbeats 4000000 in
theorem one_yes (w : World) : Calls Try.prog 16 #[] w fun e w' => e = .returned (.bool true) ∧ Below w.heap.size w w' := by
  have hs1 := Lib.hid one_st.1
  have hs2 := Lib.hid one_st.2.1
  have hs3 := Lib.hid one_st.2.2
  have kc := fun (w : World) (C : Array Value) (n c : Nat) => Lib.run_convert_bytes_const (P := Try.prog) w 30 5 C n c Try.underlying30 Try.underlying5
  have KN := Lib.hid (new_any w)
  go_enter Try.func16, Try.ntmps16
  go_wp2_with fail
  refine KN.out.mono ?_
  rintro e w1 ⟨D, rfl, hd, hb⟩
  have hd1 := hd.bound
  have hA := below_alloc (Below.refl _ w1) (.cells #[.int .u8 120, .int .u8 121, .int .u8 122] 5 (3, 4))
  have hd2 := hd1.below hA
  have hX : ∀ w', Fr (fun j => w.heap.size ≤ j ∧ j < w1.heap.size) (w1.alloc (.cells #[.int .u8 120, .int .u8 121, .int .u8 122] 5 (3, 4))) w' → TxtAt w' (.slice (some ⟨w1.heap.size, 0, none⟩) 3 3) [120, 121, 122] := fun w' hf => by
    have hblk : w'.heap[w1.heap.size]? = some (.cells #[.int .u8 120, .int .u8 121, .int .u8 122] 5 (3, 4)) := (hf.block _ (by simp) (fun h => by omega)).trans (World.alloc_heap_new w1 _)
    refine .inl ⟨w1.heap.size, 0, 3, rfl, by decide, ⟨fun k hk => ?_, fun k hk => ?_, fun k hk => ?_, by decide⟩⟩
    · rcases (by simp at hk; omega : k = 0 ∨ k = 1 ∨ k = 2) with rfl | rfl | rfl <;> (unfold World.cell?; rw [show ∀ o, (⟨w1.heap.size, o, none⟩ : Addr).block = w1.heap.size from fun _ => rfl, hblk]; rfl)
    · rcases (by simp at hk; omega : k = 0 ∨ k = 1 ∨ k = 2) with rfl | rfl | rfl <;> decide
    · rcases (by simp at hk; omega : k = 0 ∨ k = 1 ∨ k = 2) with rfl | rfl | rfl <;> decide
  have KA := Lib.hid (append_dk hd2 1 (some ⟨w1.heap.size, 0, none⟩) 3 3 [120, 121, 122] rfl hX (by decide))
  have HB := Lib.hid (hb.trans (hA.mono hb.size))
  clear hd hb hd1 hA hd2 hX
  go_wp2_with fail
  refine KA.out.mono ?_
  rintro e w2 ⟨rfl, hd, hf⟩
  have HB2 := Lib.hid (HB.out.trans (hf.below HB.out.size (fun j h => h.1)))
  have KF := Lib.hid (fall_dk hd keep1)
  have hsz := HB.out.size
  rw [hs1.out]
  clear hd hf
  go_wp2_with fail
  refine KF.out.mono ?_
  rintro e w3 ⟨rfl, hd, hf⟩
  have HB3 := Lib.hid (HB2.out.trans (hf.below HB2.out.size (fun j h => by rcases h with h | h; exact h.1; omega)))
  have KR := Lib.hid (read_dk hd 1)
  rw [hs3.out] at KR
  clear hd hf hsz
  go_wp2_with fail
  refine KR.out.mono ?_
  rintro e w4 ⟨u, rfl, ho, hb, _⟩
  have e0 : wrongF false 1 = 0 := by decide
  rw [e0, if_pos rfl, show ((1 : Int)).toNat = 1 from rfl, hs2.out] at ho
  rw [e0]
  obtain ⟨s, hs, hsz, hcv⟩ := txt_convert ho.at
  have hcv2 := fun w' h => hcv w' h
  have HB4 := Lib.hid (below_next HB3.out hb)
  have hse : s = ⟨#[120]⟩ := bytesOf_inj (hs.trans rfl)
  subst hse
  have hcv0 := hcv w4 (Below.refl _ _)
  clear hcv hcv2 ho hb hs hsz
  go_wp2_with fail
  go_ret
  exact ⟨rfl, HB4.out⟩
end Go.Proofs.Ytemkjgohpihigaa
