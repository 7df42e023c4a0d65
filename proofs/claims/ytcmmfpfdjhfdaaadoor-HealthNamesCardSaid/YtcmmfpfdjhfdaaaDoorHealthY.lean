/- The walk of HealthNames, where the names are laid. -/
import Derived.Test.YtcmmfpfdjhfdaaaDoorHealthW
namespace Go.Proofs.YtcmmfpfdjhfdaaaDoor
set_option linter.unusedVariables false
open Go.ChangeShapes Go.WideShapes Go.ChangeAt Go.RowKit

set_option maxRecDepth 100000 in
set_option maxHeartbeats 4000000 in
theorem names_0 (k : Int) (s : ByteArray) (j : Int) (ok : Bool) (w : World) (hN : NamesAt w) (hs : ¬ 100 < (s.size : Int)) (hk : k = 0)
    (hO : OfSays s j ok) (hj : (ok = true ∧ ∃ i : Nat, i < 5 ∧ j = i ∧ ((nameAt i).toList == s.toList) = true) ∨ (ok = false ∧ j = 0)) :
    Calls Tryd.prog 3 #[.int .i64 k, .string s] w fun e w' => e = .returned (.bool true) ∧ Below w.heap.size w w' := by
  have HN := Lib.hid hN
  have HO := Lib.hid hO
  clear hO hN
  rcases hj with ⟨rfl, i, hi, rfl, hij⟩ | ⟨rfl, rfl⟩
  · go_enter Tryd.func3, Tryd.ntmps3
    go_wp2_with fail
    subst hk
    refine (text_at 0 (by decide) _ HN.out).mono ?_
    rintro e w' ⟨rfl, rfl⟩
    rw [show nameAt 0 = ⟨#[117, 112]⟩ from rfl]
    go_wp2_with fail
    refine (of_0 ⟨#[117, 112]⟩ _ HN.out (by kernel_rfl)).mono ?_
    rintro e w' ⟨rfl, rfl⟩
    go_wp2_with fail
    refine (HO.out _ HN.out).mono ?_
    rintro e w' ⟨rfl, rfl⟩
    have hT := Lib.hid (fun W h => text_at i hi W h)
    go_wp2_with (first | (go_at_call 6; refine (hT.out _ HN.out).mono ?_; rintro e w' ⟨rfl, rfl⟩) | (go_at_call 8; refine (one_any _ HN.out).mono ?_; rintro e w5 ⟨rfl, hb5⟩))
    go_ret
    exact ⟨rfl, hb5⟩
  · go_enter Tryd.func3, Tryd.ntmps3
    go_wp2_with fail
    subst hk
    refine (text_at 0 (by decide) _ HN.out).mono ?_
    rintro e w' ⟨rfl, rfl⟩
    rw [show nameAt 0 = ⟨#[117, 112]⟩ from rfl]
    go_wp2_with fail
    refine (of_0 ⟨#[117, 112]⟩ _ HN.out (by kernel_rfl)).mono ?_
    rintro e w' ⟨rfl, rfl⟩
    go_wp2_with fail
    refine (HO.out _ HN.out).mono ?_
    rintro e w' ⟨rfl, rfl⟩
    go_wp2_with (go_at_call 8; refine (one_any _ HN.out).mono ?_; rintro e w5 ⟨rfl, hb5⟩)
    go_ret
    exact ⟨rfl, hb5⟩
set_option maxRecDepth 100000 in
set_option maxHeartbeats 4000000 in
theorem names_1 (k : Int) (s : ByteArray) (j : Int) (ok : Bool) (w : World) (hN : NamesAt w) (hs : ¬ 100 < (s.size : Int)) (hk : k = 1)
    (hO : OfSays s j ok) (hj : (ok = true ∧ ∃ i : Nat, i < 5 ∧ j = i ∧ ((nameAt i).toList == s.toList) = true) ∨ (ok = false ∧ j = 0)) :
    Calls Tryd.prog 3 #[.int .i64 k, .string s] w fun e w' => e = .returned (.bool true) ∧ Below w.heap.size w w' := by
  have HN := Lib.hid hN
  have HO := Lib.hid hO
  clear hO hN
  rcases hj with ⟨rfl, i, hi, rfl, hij⟩ | ⟨rfl, rfl⟩
  · go_enter Tryd.func3, Tryd.ntmps3
    go_wp2_with fail
    subst hk
    refine (text_at 1 (by decide) _ HN.out).mono ?_
    rintro e w' ⟨rfl, rfl⟩
    rw [show nameAt 1 = ⟨#[115, 117, 115, 112, 101, 99, 116]⟩ from rfl]
    go_wp2_with fail
    refine (of_1 ⟨#[115, 117, 115, 112, 101, 99, 116]⟩ _ HN.out (by kernel_rfl) (by kernel_rfl)).mono ?_
    rintro e w' ⟨rfl, rfl⟩
    go_wp2_with fail
    refine (HO.out _ HN.out).mono ?_
    rintro e w' ⟨rfl, rfl⟩
    have hT := Lib.hid (fun W h => text_at i hi W h)
    go_wp2_with (first | (go_at_call 6; refine (hT.out _ HN.out).mono ?_; rintro e w' ⟨rfl, rfl⟩) | (go_at_call 8; refine (one_any _ HN.out).mono ?_; rintro e w5 ⟨rfl, hb5⟩))
    go_ret
    exact ⟨rfl, hb5⟩
  · go_enter Tryd.func3, Tryd.ntmps3
    go_wp2_with fail
    subst hk
    refine (text_at 1 (by decide) _ HN.out).mono ?_
    rintro e w' ⟨rfl, rfl⟩
    rw [show nameAt 1 = ⟨#[115, 117, 115, 112, 101, 99, 116]⟩ from rfl]
    go_wp2_with fail
    refine (of_1 ⟨#[115, 117, 115, 112, 101, 99, 116]⟩ _ HN.out (by kernel_rfl) (by kernel_rfl)).mono ?_
    rintro e w' ⟨rfl, rfl⟩
    go_wp2_with fail
    refine (HO.out _ HN.out).mono ?_
    rintro e w' ⟨rfl, rfl⟩
    go_wp2_with (go_at_call 8; refine (one_any _ HN.out).mono ?_; rintro e w5 ⟨rfl, hb5⟩)
    go_ret
    exact ⟨rfl, hb5⟩
set_option maxRecDepth 100000 in
set_option maxHeartbeats 4000000 in
theorem names_2 (k : Int) (s : ByteArray) (j : Int) (ok : Bool) (w : World) (hN : NamesAt w) (hs : ¬ 100 < (s.size : Int)) (hk : k = 2)
    (hO : OfSays s j ok) (hj : (ok = true ∧ ∃ i : Nat, i < 5 ∧ j = i ∧ ((nameAt i).toList == s.toList) = true) ∨ (ok = false ∧ j = 0)) :
    Calls Tryd.prog 3 #[.int .i64 k, .string s] w fun e w' => e = .returned (.bool true) ∧ Below w.heap.size w w' := by
  have HN := Lib.hid hN
  have HO := Lib.hid hO
  clear hO hN
  rcases hj with ⟨rfl, i, hi, rfl, hij⟩ | ⟨rfl, rfl⟩
  · go_enter Tryd.func3, Tryd.ntmps3
    go_wp2_with fail
    subst hk
    refine (text_at 2 (by decide) _ HN.out).mono ?_
    rintro e w' ⟨rfl, rfl⟩
    rw [show nameAt 2 = ⟨#[100, 111, 119, 110]⟩ from rfl]
    go_wp2_with fail
    refine (of_2 ⟨#[100, 111, 119, 110]⟩ _ HN.out (by kernel_rfl) (by kernel_rfl) (by kernel_rfl)).mono ?_
    rintro e w' ⟨rfl, rfl⟩
    go_wp2_with fail
    refine (HO.out _ HN.out).mono ?_
    rintro e w' ⟨rfl, rfl⟩
    have hT := Lib.hid (fun W h => text_at i hi W h)
    go_wp2_with (first | (go_at_call 6; refine (hT.out _ HN.out).mono ?_; rintro e w' ⟨rfl, rfl⟩) | (go_at_call 8; refine (one_any _ HN.out).mono ?_; rintro e w5 ⟨rfl, hb5⟩))
    go_ret
    exact ⟨rfl, hb5⟩
  · go_enter Tryd.func3, Tryd.ntmps3
    go_wp2_with fail
    subst hk
    refine (text_at 2 (by decide) _ HN.out).mono ?_
    rintro e w' ⟨rfl, rfl⟩
    rw [show nameAt 2 = ⟨#[100, 111, 119, 110]⟩ from rfl]
    go_wp2_with fail
    refine (of_2 ⟨#[100, 111, 119, 110]⟩ _ HN.out (by kernel_rfl) (by kernel_rfl) (by kernel_rfl)).mono ?_
    rintro e w' ⟨rfl, rfl⟩
    go_wp2_with fail
    refine (HO.out _ HN.out).mono ?_
    rintro e w' ⟨rfl, rfl⟩
    go_wp2_with (go_at_call 8; refine (one_any _ HN.out).mono ?_; rintro e w5 ⟨rfl, hb5⟩)
    go_ret
    exact ⟨rfl, hb5⟩
set_option maxRecDepth 100000 in
set_option maxHeartbeats 4000000 in
theorem names_3 (k : Int) (s : ByteArray) (j : Int) (ok : Bool) (w : World) (hN : NamesAt w) (hs : ¬ 100 < (s.size : Int)) (hk : k = 3)
    (hO : OfSays s j ok) (hj : (ok = true ∧ ∃ i : Nat, i < 5 ∧ j = i ∧ ((nameAt i).toList == s.toList) = true) ∨ (ok = false ∧ j = 0)) :
    Calls Tryd.prog 3 #[.int .i64 k, .string s] w fun e w' => e = .returned (.bool true) ∧ Below w.heap.size w w' := by
  have HN := Lib.hid hN
  have HO := Lib.hid hO
  clear hO hN
  rcases hj with ⟨rfl, i, hi, rfl, hij⟩ | ⟨rfl, rfl⟩
  · go_enter Tryd.func3, Tryd.ntmps3
    go_wp2_with fail
    subst hk
    refine (text_at 3 (by decide) _ HN.out).mono ?_
    rintro e w' ⟨rfl, rfl⟩
    rw [show nameAt 3 = ⟨#[100, 114, 97, 105, 110]⟩ from rfl]
    go_wp2_with fail
    refine (of_3 ⟨#[100, 114, 97, 105, 110]⟩ _ HN.out (by kernel_rfl) (by kernel_rfl) (by kernel_rfl) (by kernel_rfl)).mono ?_
    rintro e w' ⟨rfl, rfl⟩
    go_wp2_with fail
    refine (HO.out _ HN.out).mono ?_
    rintro e w' ⟨rfl, rfl⟩
    have hT := Lib.hid (fun W h => text_at i hi W h)
    go_wp2_with (first | (go_at_call 6; refine (hT.out _ HN.out).mono ?_; rintro e w' ⟨rfl, rfl⟩) | (go_at_call 8; refine (one_any _ HN.out).mono ?_; rintro e w5 ⟨rfl, hb5⟩))
    go_ret
    exact ⟨rfl, hb5⟩
  · go_enter Tryd.func3, Tryd.ntmps3
    go_wp2_with fail
    subst hk
    refine (text_at 3 (by decide) _ HN.out).mono ?_
    rintro e w' ⟨rfl, rfl⟩
    rw [show nameAt 3 = ⟨#[100, 114, 97, 105, 110]⟩ from rfl]
    go_wp2_with fail
    refine (of_3 ⟨#[100, 114, 97, 105, 110]⟩ _ HN.out (by kernel_rfl) (by kernel_rfl) (by kernel_rfl) (by kernel_rfl)).mono ?_
    rintro e w' ⟨rfl, rfl⟩
    go_wp2_with fail
    refine (HO.out _ HN.out).mono ?_
    rintro e w' ⟨rfl, rfl⟩
    go_wp2_with (go_at_call 8; refine (one_any _ HN.out).mono ?_; rintro e w5 ⟨rfl, hb5⟩)
    go_ret
    exact ⟨rfl, hb5⟩
set_option maxRecDepth 100000 in
set_option maxHeartbeats 4000000 in
theorem names_4 (k : Int) (s : ByteArray) (j : Int) (ok : Bool) (w : World) (hN : NamesAt w) (hs : ¬ 100 < (s.size : Int)) (hk : k = 4)
    (hO : OfSays s j ok) (hj : (ok = true ∧ ∃ i : Nat, i < 5 ∧ j = i ∧ ((nameAt i).toList == s.toList) = true) ∨ (ok = false ∧ j = 0)) :
    Calls Tryd.prog 3 #[.int .i64 k, .string s] w fun e w' => e = .returned (.bool true) ∧ Below w.heap.size w w' := by
  have HN := Lib.hid hN
  have HO := Lib.hid hO
  clear hO hN
  rcases hj with ⟨rfl, i, hi, rfl, hij⟩ | ⟨rfl, rfl⟩
  · go_enter Tryd.func3, Tryd.ntmps3
    go_wp2_with fail
    subst hk
    refine (text_at 4 (by decide) _ HN.out).mono ?_
    rintro e w' ⟨rfl, rfl⟩
    rw [show nameAt 4 = ⟨#[114, 101, 112, 97, 105, 114]⟩ from rfl]
    go_wp2_with fail
    refine (of_4 ⟨#[114, 101, 112, 97, 105, 114]⟩ _ HN.out (by kernel_rfl) (by kernel_rfl) (by kernel_rfl) (by kernel_rfl) (by kernel_rfl)).mono ?_
    rintro e w' ⟨rfl, rfl⟩
    go_wp2_with fail
    refine (HO.out _ HN.out).mono ?_
    rintro e w' ⟨rfl, rfl⟩
    have hT := Lib.hid (fun W h => text_at i hi W h)
    go_wp2_with (first | (go_at_call 6; refine (hT.out _ HN.out).mono ?_; rintro e w' ⟨rfl, rfl⟩) | (go_at_call 8; refine (one_any _ HN.out).mono ?_; rintro e w5 ⟨rfl, hb5⟩))
    go_ret
    exact ⟨rfl, hb5⟩
  · go_enter Tryd.func3, Tryd.ntmps3
    go_wp2_with fail
    subst hk
    refine (text_at 4 (by decide) _ HN.out).mono ?_
    rintro e w' ⟨rfl, rfl⟩
    rw [show nameAt 4 = ⟨#[114, 101, 112, 97, 105, 114]⟩ from rfl]
    go_wp2_with fail
    refine (of_4 ⟨#[114, 101, 112, 97, 105, 114]⟩ _ HN.out (by kernel_rfl) (by kernel_rfl) (by kernel_rfl) (by kernel_rfl) (by kernel_rfl)).mono ?_
    rintro e w' ⟨rfl, rfl⟩
    go_wp2_with fail
    refine (HO.out _ HN.out).mono ?_
    rintro e w' ⟨rfl, rfl⟩
    go_wp2_with (go_at_call 8; refine (one_any _ HN.out).mono ?_; rintro e w5 ⟨rfl, hb5⟩)
    go_ret
    exact ⟨rfl, hb5⟩
set_option maxRecDepth 100000 in
set_option maxHeartbeats 4000000 in
theorem names_lo (k : Int) (s : ByteArray) (j : Int) (ok : Bool) (w : World) (hN : NamesAt w) (hs : ¬ 100 < (s.size : Int)) (hk : k < 0)
    (hO : OfSays s j ok) (hj : (ok = true ∧ ∃ i : Nat, i < 5 ∧ j = i ∧ ((nameAt i).toList == s.toList) = true) ∨ (ok = false ∧ j = 0)) :
    Calls Tryd.prog 3 #[.int .i64 k, .string s] w fun e w' => e = .returned (.bool true) ∧ Below w.heap.size w w' := by
  have HN := Lib.hid hN
  have HO := Lib.hid hO
  clear hO hN
  rcases hj with ⟨rfl, i, hi, rfl, hij⟩ | ⟨rfl, rfl⟩
  · go_enter Tryd.func3, Tryd.ntmps3
    go_wp2_with fail
    refine (text_none k (.inl hk) _).mono ?_
    rintro e w' ⟨rfl, rfl⟩
    go_wp2_with fail
    refine (of_none ⟨#[]⟩ _ HN.out (by kernel_rfl) (by kernel_rfl) (by kernel_rfl) (by kernel_rfl) (by kernel_rfl)).mono ?_
    rintro e w' ⟨rfl, rfl⟩
    go_wp2_with fail
    refine (HO.out _ HN.out).mono ?_
    rintro e w' ⟨rfl, rfl⟩
    have hT := Lib.hid (fun W h => text_at i hi W h)
    go_wp2_with (first | (go_at_call 6; refine (hT.out _ HN.out).mono ?_; rintro e w' ⟨rfl, rfl⟩) | (go_at_call 8; refine (one_any _ HN.out).mono ?_; rintro e w5 ⟨rfl, hb5⟩))
    go_ret
    exact ⟨rfl, hb5⟩
  · go_enter Tryd.func3, Tryd.ntmps3
    go_wp2_with fail
    refine (text_none k (.inl hk) _).mono ?_
    rintro e w' ⟨rfl, rfl⟩
    go_wp2_with fail
    refine (of_none ⟨#[]⟩ _ HN.out (by kernel_rfl) (by kernel_rfl) (by kernel_rfl) (by kernel_rfl) (by kernel_rfl)).mono ?_
    rintro e w' ⟨rfl, rfl⟩
    go_wp2_with fail
    refine (HO.out _ HN.out).mono ?_
    rintro e w' ⟨rfl, rfl⟩
    go_wp2_with (go_at_call 8; refine (one_any _ HN.out).mono ?_; rintro e w5 ⟨rfl, hb5⟩)
    go_ret
    exact ⟨rfl, hb5⟩
set_option maxRecDepth 100000 in
set_option maxHeartbeats 4000000 in
theorem names_hi (k : Int) (s : ByteArray) (j : Int) (ok : Bool) (w : World) (hN : NamesAt w) (hs : ¬ 100 < (s.size : Int)) (hk : 5 ≤ k) (hk2 : ¬ k < 0) (hk3 : decide (k ≤ 4) = false)
    (hO : OfSays s j ok) (hj : (ok = true ∧ ∃ i : Nat, i < 5 ∧ j = i ∧ ((nameAt i).toList == s.toList) = true) ∨ (ok = false ∧ j = 0)) :
    Calls Tryd.prog 3 #[.int .i64 k, .string s] w fun e w' => e = .returned (.bool true) ∧ Below w.heap.size w w' := by
  have HN := Lib.hid hN
  have HO := Lib.hid hO
  clear hO hN
  rcases hj with ⟨rfl, i, hi, rfl, hij⟩ | ⟨rfl, rfl⟩
  · go_enter Tryd.func3, Tryd.ntmps3
    go_wp2_with fail
    refine (text_none k (.inr hk) _).mono ?_
    rintro e w' ⟨rfl, rfl⟩
    go_wp2_with fail
    refine (of_none ⟨#[]⟩ _ HN.out (by kernel_rfl) (by kernel_rfl) (by kernel_rfl) (by kernel_rfl) (by kernel_rfl)).mono ?_
    rintro e w' ⟨rfl, rfl⟩
    go_wp2_with fail
    refine (HO.out _ HN.out).mono ?_
    rintro e w' ⟨rfl, rfl⟩
    have hT := Lib.hid (fun W h => text_at i hi W h)
    go_wp2_with (first | (go_at_call 6; refine (hT.out _ HN.out).mono ?_; rintro e w' ⟨rfl, rfl⟩) | (go_at_call 8; refine (one_any _ HN.out).mono ?_; rintro e w5 ⟨rfl, hb5⟩))
    go_ret
    exact ⟨rfl, hb5⟩
  · go_enter Tryd.func3, Tryd.ntmps3
    go_wp2_with fail
    refine (text_none k (.inr hk) _).mono ?_
    rintro e w' ⟨rfl, rfl⟩
    go_wp2_with fail
    refine (of_none ⟨#[]⟩ _ HN.out (by kernel_rfl) (by kernel_rfl) (by kernel_rfl) (by kernel_rfl) (by kernel_rfl)).mono ?_
    rintro e w' ⟨rfl, rfl⟩
    go_wp2_with fail
    refine (HO.out _ HN.out).mono ?_
    rintro e w' ⟨rfl, rfl⟩
    go_wp2_with (go_at_call 8; refine (one_any _ HN.out).mono ?_; rintro e w5 ⟨rfl, hb5⟩)
    go_ret
    exact ⟨rfl, hb5⟩
theorem names_long (k : Int) (s : ByteArray) (w : World) (hs : 100 < (s.size : Int)) (hm : s.size ≤ 9223372036854775807) :
    Calls Tryd.prog 3 #[.int .i64 k, .string s] w fun e w' => e = .returned (.bool true) ∧ Below w.heap.size w w' := by
  go_enter Tryd.func3, Tryd.ntmps3
  go_wp2
  go_ret
  exact ⟨rfl, Below.refl _ _⟩
theorem names_walk (k : Int) (s : ByteArray) (hm : s.size ≤ maxLen) (w : World) (hN : NamesAt w) :
    Calls Tryd.prog 3 #[.int .i64 k, .string s] w fun e w' => e = .returned (.bool true) ∧ Below w.heap.size w w' := by
  unfold maxLen at hm
  by_cases hl : 100 < (s.size : Int)
  · exact names_long k s w hl (by omega)
  · obtain ⟨j, ok, hO, hj⟩ : ∃ (j : Int) (ok : Bool), OfSays s j ok ∧ ((ok = true ∧ ∃ i : Nat, i < 5 ∧ j = i ∧ ((nameAt i).toList == s.toList) = true) ∨ (ok = false ∧ j = 0)) := by
      rcases of_any s with ⟨i, hi, h1, h2⟩ | h
      · exact ⟨i, true, h2, .inl ⟨rfl, i, hi, rfl, h1⟩⟩
      · exact ⟨0, false, h, .inr ⟨rfl, rfl⟩⟩
    rcases (show k < 0 ∨ k = 0 ∨ k = 1 ∨ k = 2 ∨ k = 3 ∨ k = 4 ∨ 5 ≤ k by omega) with h | h | h | h | h | h | h
    · exact names_lo k s j ok w hN hl h hO hj
    · exact names_0 k s j ok w hN hl h hO hj
    · exact names_1 k s j ok w hN hl h hO hj
    · exact names_2 k s j ok w hN hl h hO hj
    · exact names_3 k s j ok w hN hl h hO hj
    · exact names_4 k s j ok w hN hl h hO hj
    · exact names_hi k s j ok w hN hl h (by omega) (by simp; omega) hO hj
end Go.Proofs.YtcmmfpfdjhfdaaaDoor
