/- The walks of JobTexts (layer 15). Condition: the names of the states lie as the text lays them. -/
import Derived.Test.YtkllhnfnkgkelaaDoorJobT
import Derived.Test.YtkllhnfnkgkelaaDoorJobO
namespace Go.Proofs.YtkllhnfnkgkelaaDoor
set_option linter.unusedVariables false
open Go.ChangeShapes Go.WideShapes Go.ChangeAt Go.RowKit
attribute [local go_sem ↓] Go.wp_at_zero Go.wp_at_succ comesTo_value_eq comesTo_skip_eq comesTo_enter_eq

theorem jt0 (w : World) (h : JobNamesAt w) : Calls Tryd.prog 32 #[.int .i64 0] w fun e w' => e = .returned (.string ⟨#[119, 97, 105, 116, 105, 110, 103]⟩) ∧ w = w' := jtext_at 0 (by decide) w h
theorem jt1 (w : World) (h : JobNamesAt w) : Calls Tryd.prog 32 #[.int .i64 1] w fun e w' => e = .returned (.string ⟨#[114, 117, 110, 110, 105, 110, 103]⟩) ∧ w = w' := jtext_at 1 (by decide) w h
theorem jt2 (w : World) (h : JobNamesAt w) : Calls Tryd.prog 32 #[.int .i64 2] w fun e w' => e = .returned (.string ⟨#[100, 111, 110, 101]⟩) ∧ w = w' := jtext_at 2 (by decide) w h
theorem jt3 (w : World) (h : JobNamesAt w) : Calls Tryd.prog 32 #[.int .i64 3] w fun e w' => e = .returned (.string ⟨#[102, 97, 105, 108, 101, 100]⟩) ∧ w = w' := jtext_at 3 (by decide) w h
theorem jt4 (w : World) (h : JobNamesAt w) : Calls Tryd.prog 32 #[.int .i64 4] w fun e w' => e = .returned (.string ⟨#[99, 97, 110, 99, 101, 108, 108, 101, 100]⟩) ∧ w = w' := jtext_at 4 (by decide) w h
theorem jt5 (w : World) (h : JobNamesAt w) : Calls Tryd.prog 32 #[.int .i64 5] w fun e w' => e = .returned (.string ⟨#[101, 120, 112, 105, 114, 101, 100]⟩) ∧ w = w' := jtext_at 5 (by decide) w h
set_option maxRecDepth 100000 in
set_option maxHeartbeats 2000000 in
theorem texts_eq0  (w : World) (hN : JobNamesAt w) : Calls Tryd.prog 7 #[.int .i64 0, .int .i64 0] w fun e w' => e = .returned (.bool true) ∧ Below w.heap.size w w' := by
  have HN := Lib.hid hN
  clear hN
  go_enter Tryd.func7, Tryd.ntmps7
  go_wp2_with fail
  refine (jt0 _ HN.out).mono ?_
  rintro e w' ⟨rfl, rfl⟩
  go_wp2_with fail
  refine (jt0 _ HN.out).mono ?_
  rintro e w' ⟨rfl, rfl⟩
  go_wp2_with fail
  refine (jt0 _ HN.out).mono ?_
  rintro e w' ⟨rfl, rfl⟩
  go_wp2_with fail
  refine (jt5 _ HN.out).mono ?_
  rintro e w' ⟨rfl, rfl⟩
  go_wp2_with fail
  refine (job_one _).mono ?_
  rintro e w2 ⟨rfl, hb2⟩
  go_wp2
  go_ret
  first | exact ⟨rfl, hb2⟩ | exact ⟨ret_bool' (by simp; omega), hb2⟩
set_option maxRecDepth 100000 in
set_option maxHeartbeats 2000000 in
theorem texts_ne0 (b : Int) (t : ByteArray) (hB : ∀ W, JobNamesAt W → Calls Tryd.prog 32 #[.int .i64 b] W fun e w' => e = .returned (.string t) ∧ W = w') (g : (([119, 97, 105, 116, 105, 110, 103] : List UInt8) == t.toList) = false) (w : World) (hN : JobNamesAt w) : Calls Tryd.prog 7 #[.int .i64 0, .int .i64 b] w fun e w' => e = .returned (.bool true) ∧ Below w.heap.size w w' := by
  have HN := Lib.hid hN
  clear hN
  have HT := Lib.hid hB
  clear hB
  go_enter Tryd.func7, Tryd.ntmps7
  go_wp2_with fail
  refine (jt0 _ HN.out).mono ?_
  rintro e w' ⟨rfl, rfl⟩
  go_wp2_with fail
  refine (HT.out _ HN.out).mono ?_
  rintro e w' ⟨rfl, rfl⟩
  go_wp2_with fail
  refine (jt0 _ HN.out).mono ?_
  rintro e w' ⟨rfl, rfl⟩
  go_wp2_with fail
  refine (jt5 _ HN.out).mono ?_
  rintro e w' ⟨rfl, rfl⟩
  go_wp2_with fail
  refine (job_one _).mono ?_
  rintro e w2 ⟨rfl, hb2⟩
  go_wp2
  go_ret
  first | exact ⟨rfl, hb2⟩ | exact ⟨ret_bool' (by simp; omega), hb2⟩
set_option maxRecDepth 100000 in
set_option maxHeartbeats 2000000 in
theorem texts_eq1  (w : World) (hN : JobNamesAt w) : Calls Tryd.prog 7 #[.int .i64 1, .int .i64 1] w fun e w' => e = .returned (.bool true) ∧ Below w.heap.size w w' := by
  have HN := Lib.hid hN
  clear hN
  go_enter Tryd.func7, Tryd.ntmps7
  go_wp2_with fail
  refine (jt1 _ HN.out).mono ?_
  rintro e w' ⟨rfl, rfl⟩
  go_wp2_with fail
  refine (jt1 _ HN.out).mono ?_
  rintro e w' ⟨rfl, rfl⟩
  go_wp2_with fail
  refine (jt0 _ HN.out).mono ?_
  rintro e w' ⟨rfl, rfl⟩
  go_wp2_with fail
  refine (jt5 _ HN.out).mono ?_
  rintro e w' ⟨rfl, rfl⟩
  go_wp2_with fail
  refine (job_one _).mono ?_
  rintro e w2 ⟨rfl, hb2⟩
  go_wp2
  go_ret
  first | exact ⟨rfl, hb2⟩ | exact ⟨ret_bool' (by simp; omega), hb2⟩
set_option maxRecDepth 100000 in
set_option maxHeartbeats 2000000 in
theorem texts_ne1 (b : Int) (t : ByteArray) (hB : ∀ W, JobNamesAt W → Calls Tryd.prog 32 #[.int .i64 b] W fun e w' => e = .returned (.string t) ∧ W = w') (g : (([114, 117, 110, 110, 105, 110, 103] : List UInt8) == t.toList) = false) (w : World) (hN : JobNamesAt w) : Calls Tryd.prog 7 #[.int .i64 1, .int .i64 b] w fun e w' => e = .returned (.bool true) ∧ Below w.heap.size w w' := by
  have HN := Lib.hid hN
  clear hN
  have HT := Lib.hid hB
  clear hB
  go_enter Tryd.func7, Tryd.ntmps7
  go_wp2_with fail
  refine (jt1 _ HN.out).mono ?_
  rintro e w' ⟨rfl, rfl⟩
  go_wp2_with fail
  refine (HT.out _ HN.out).mono ?_
  rintro e w' ⟨rfl, rfl⟩
  go_wp2_with fail
  refine (jt0 _ HN.out).mono ?_
  rintro e w' ⟨rfl, rfl⟩
  go_wp2_with fail
  refine (jt5 _ HN.out).mono ?_
  rintro e w' ⟨rfl, rfl⟩
  go_wp2_with fail
  refine (job_one _).mono ?_
  rintro e w2 ⟨rfl, hb2⟩
  go_wp2
  go_ret
  first | exact ⟨rfl, hb2⟩ | exact ⟨ret_bool' (by simp; omega), hb2⟩
set_option maxRecDepth 100000 in
set_option maxHeartbeats 2000000 in
theorem texts_eq2  (w : World) (hN : JobNamesAt w) : Calls Tryd.prog 7 #[.int .i64 2, .int .i64 2] w fun e w' => e = .returned (.bool true) ∧ Below w.heap.size w w' := by
  have HN := Lib.hid hN
  clear hN
  go_enter Tryd.func7, Tryd.ntmps7
  go_wp2_with fail
  refine (jt2 _ HN.out).mono ?_
  rintro e w' ⟨rfl, rfl⟩
  go_wp2_with fail
  refine (jt2 _ HN.out).mono ?_
  rintro e w' ⟨rfl, rfl⟩
  go_wp2_with fail
  refine (jt0 _ HN.out).mono ?_
  rintro e w' ⟨rfl, rfl⟩
  go_wp2_with fail
  refine (jt5 _ HN.out).mono ?_
  rintro e w' ⟨rfl, rfl⟩
  go_wp2_with fail
  refine (job_one _).mono ?_
  rintro e w2 ⟨rfl, hb2⟩
  go_wp2
  go_ret
  first | exact ⟨rfl, hb2⟩ | exact ⟨ret_bool' (by simp; omega), hb2⟩
set_option maxRecDepth 100000 in
set_option maxHeartbeats 2000000 in
theorem texts_ne2 (b : Int) (t : ByteArray) (hB : ∀ W, JobNamesAt W → Calls Tryd.prog 32 #[.int .i64 b] W fun e w' => e = .returned (.string t) ∧ W = w') (g : (([100, 111, 110, 101] : List UInt8) == t.toList) = false) (w : World) (hN : JobNamesAt w) : Calls Tryd.prog 7 #[.int .i64 2, .int .i64 b] w fun e w' => e = .returned (.bool true) ∧ Below w.heap.size w w' := by
  have HN := Lib.hid hN
  clear hN
  have HT := Lib.hid hB
  clear hB
  go_enter Tryd.func7, Tryd.ntmps7
  go_wp2_with fail
  refine (jt2 _ HN.out).mono ?_
  rintro e w' ⟨rfl, rfl⟩
  go_wp2_with fail
  refine (HT.out _ HN.out).mono ?_
  rintro e w' ⟨rfl, rfl⟩
  go_wp2_with fail
  refine (jt0 _ HN.out).mono ?_
  rintro e w' ⟨rfl, rfl⟩
  go_wp2_with fail
  refine (jt5 _ HN.out).mono ?_
  rintro e w' ⟨rfl, rfl⟩
  go_wp2_with fail
  refine (job_one _).mono ?_
  rintro e w2 ⟨rfl, hb2⟩
  go_wp2
  go_ret
  first | exact ⟨rfl, hb2⟩ | exact ⟨ret_bool' (by simp; omega), hb2⟩
set_option maxRecDepth 100000 in
set_option maxHeartbeats 2000000 in
theorem texts_eq3  (w : World) (hN : JobNamesAt w) : Calls Tryd.prog 7 #[.int .i64 3, .int .i64 3] w fun e w' => e = .returned (.bool true) ∧ Below w.heap.size w w' := by
  have HN := Lib.hid hN
  clear hN
  go_enter Tryd.func7, Tryd.ntmps7
  go_wp2_with fail
  refine (jt3 _ HN.out).mono ?_
  rintro e w' ⟨rfl, rfl⟩
  go_wp2_with fail
  refine (jt3 _ HN.out).mono ?_
  rintro e w' ⟨rfl, rfl⟩
  go_wp2_with fail
  refine (jt0 _ HN.out).mono ?_
  rintro e w' ⟨rfl, rfl⟩
  go_wp2_with fail
  refine (jt5 _ HN.out).mono ?_
  rintro e w' ⟨rfl, rfl⟩
  go_wp2_with fail
  refine (job_one _).mono ?_
  rintro e w2 ⟨rfl, hb2⟩
  go_wp2
  go_ret
  first | exact ⟨rfl, hb2⟩ | exact ⟨ret_bool' (by simp; omega), hb2⟩
set_option maxRecDepth 100000 in
set_option maxHeartbeats 2000000 in
theorem texts_ne3 (b : Int) (t : ByteArray) (hB : ∀ W, JobNamesAt W → Calls Tryd.prog 32 #[.int .i64 b] W fun e w' => e = .returned (.string t) ∧ W = w') (g : (([102, 97, 105, 108, 101, 100] : List UInt8) == t.toList) = false) (w : World) (hN : JobNamesAt w) : Calls Tryd.prog 7 #[.int .i64 3, .int .i64 b] w fun e w' => e = .returned (.bool true) ∧ Below w.heap.size w w' := by
  have HN := Lib.hid hN
  clear hN
  have HT := Lib.hid hB
  clear hB
  go_enter Tryd.func7, Tryd.ntmps7
  go_wp2_with fail
  refine (jt3 _ HN.out).mono ?_
  rintro e w' ⟨rfl, rfl⟩
  go_wp2_with fail
  refine (HT.out _ HN.out).mono ?_
  rintro e w' ⟨rfl, rfl⟩
  go_wp2_with fail
  refine (jt0 _ HN.out).mono ?_
  rintro e w' ⟨rfl, rfl⟩
  go_wp2_with fail
  refine (jt5 _ HN.out).mono ?_
  rintro e w' ⟨rfl, rfl⟩
  go_wp2_with fail
  refine (job_one _).mono ?_
  rintro e w2 ⟨rfl, hb2⟩
  go_wp2
  go_ret
  first | exact ⟨rfl, hb2⟩ | exact ⟨ret_bool' (by simp; omega), hb2⟩
set_option maxRecDepth 100000 in
set_option maxHeartbeats 2000000 in
theorem texts_eq4  (w : World) (hN : JobNamesAt w) : Calls Tryd.prog 7 #[.int .i64 4, .int .i64 4] w fun e w' => e = .returned (.bool true) ∧ Below w.heap.size w w' := by
  have HN := Lib.hid hN
  clear hN
  go_enter Tryd.func7, Tryd.ntmps7
  go_wp2_with fail
  refine (jt4 _ HN.out).mono ?_
  rintro e w' ⟨rfl, rfl⟩
  go_wp2_with fail
  refine (jt4 _ HN.out).mono ?_
  rintro e w' ⟨rfl, rfl⟩
  go_wp2_with fail
  refine (jt0 _ HN.out).mono ?_
  rintro e w' ⟨rfl, rfl⟩
  go_wp2_with fail
  refine (jt5 _ HN.out).mono ?_
  rintro e w' ⟨rfl, rfl⟩
  go_wp2_with fail
  refine (job_one _).mono ?_
  rintro e w2 ⟨rfl, hb2⟩
  go_wp2
  go_ret
  first | exact ⟨rfl, hb2⟩ | exact ⟨ret_bool' (by simp; omega), hb2⟩
set_option maxRecDepth 100000 in
set_option maxHeartbeats 2000000 in
theorem texts_ne4 (b : Int) (t : ByteArray) (hB : ∀ W, JobNamesAt W → Calls Tryd.prog 32 #[.int .i64 b] W fun e w' => e = .returned (.string t) ∧ W = w') (g : (([99, 97, 110, 99, 101, 108, 108, 101, 100] : List UInt8) == t.toList) = false) (w : World) (hN : JobNamesAt w) : Calls Tryd.prog 7 #[.int .i64 4, .int .i64 b] w fun e w' => e = .returned (.bool true) ∧ Below w.heap.size w w' := by
  have HN := Lib.hid hN
  clear hN
  have HT := Lib.hid hB
  clear hB
  go_enter Tryd.func7, Tryd.ntmps7
  go_wp2_with fail
  refine (jt4 _ HN.out).mono ?_
  rintro e w' ⟨rfl, rfl⟩
  go_wp2_with fail
  refine (HT.out _ HN.out).mono ?_
  rintro e w' ⟨rfl, rfl⟩
  go_wp2_with fail
  refine (jt0 _ HN.out).mono ?_
  rintro e w' ⟨rfl, rfl⟩
  go_wp2_with fail
  refine (jt5 _ HN.out).mono ?_
  rintro e w' ⟨rfl, rfl⟩
  go_wp2_with fail
  refine (job_one _).mono ?_
  rintro e w2 ⟨rfl, hb2⟩
  go_wp2
  go_ret
  first | exact ⟨rfl, hb2⟩ | exact ⟨ret_bool' (by simp; omega), hb2⟩
set_option maxRecDepth 100000 in
set_option maxHeartbeats 2000000 in
theorem texts_eq5  (w : World) (hN : JobNamesAt w) : Calls Tryd.prog 7 #[.int .i64 5, .int .i64 5] w fun e w' => e = .returned (.bool true) ∧ Below w.heap.size w w' := by
  have HN := Lib.hid hN
  clear hN
  go_enter Tryd.func7, Tryd.ntmps7
  go_wp2_with fail
  refine (jt5 _ HN.out).mono ?_
  rintro e w' ⟨rfl, rfl⟩
  go_wp2_with fail
  refine (jt5 _ HN.out).mono ?_
  rintro e w' ⟨rfl, rfl⟩
  go_wp2_with fail
  refine (jt0 _ HN.out).mono ?_
  rintro e w' ⟨rfl, rfl⟩
  go_wp2_with fail
  refine (jt5 _ HN.out).mono ?_
  rintro e w' ⟨rfl, rfl⟩
  go_wp2_with fail
  refine (job_one _).mono ?_
  rintro e w2 ⟨rfl, hb2⟩
  go_wp2
  go_ret
  first | exact ⟨rfl, hb2⟩ | exact ⟨ret_bool' (by simp; omega), hb2⟩
set_option maxRecDepth 100000 in
set_option maxHeartbeats 2000000 in
theorem texts_ne5 (b : Int) (t : ByteArray) (hB : ∀ W, JobNamesAt W → Calls Tryd.prog 32 #[.int .i64 b] W fun e w' => e = .returned (.string t) ∧ W = w') (g : (([101, 120, 112, 105, 114, 101, 100] : List UInt8) == t.toList) = false) (w : World) (hN : JobNamesAt w) : Calls Tryd.prog 7 #[.int .i64 5, .int .i64 b] w fun e w' => e = .returned (.bool true) ∧ Below w.heap.size w w' := by
  have HN := Lib.hid hN
  clear hN
  have HT := Lib.hid hB
  clear hB
  go_enter Tryd.func7, Tryd.ntmps7
  go_wp2_with fail
  refine (jt5 _ HN.out).mono ?_
  rintro e w' ⟨rfl, rfl⟩
  go_wp2_with fail
  refine (HT.out _ HN.out).mono ?_
  rintro e w' ⟨rfl, rfl⟩
  go_wp2_with fail
  refine (jt0 _ HN.out).mono ?_
  rintro e w' ⟨rfl, rfl⟩
  go_wp2_with fail
  refine (jt5 _ HN.out).mono ?_
  rintro e w' ⟨rfl, rfl⟩
  go_wp2_with fail
  refine (job_one _).mono ?_
  rintro e w2 ⟨rfl, hb2⟩
  go_wp2
  go_ret
  first | exact ⟨rfl, hb2⟩ | exact ⟨ret_bool' (by simp; omega), hb2⟩
set_option maxRecDepth 100000 in
set_option maxHeartbeats 2000000 in
theorem texts_lo (a b : Int) (ha : a < 0) (t : ByteArray) (hB : ∀ W, JobNamesAt W → Calls Tryd.prog 32 #[.int .i64 b] W fun e w' => e = .returned (.string t) ∧ W = w') (g : (([] : List UInt8) == t.toList) = false) (w : World) (hN : JobNamesAt w) : Calls Tryd.prog 7 #[.int .i64 a, .int .i64 b] w fun e w' => e = .returned (.bool true) ∧ Below w.heap.size w w' := by
  have HN := Lib.hid hN
  clear hN
  have k := Lib.hid (jtext_none a (.inl ha))
  have h0 : ¬ 0 ≤ a := by omega
  clear ha
  have HT := Lib.hid hB
  clear hB
  go_enter Tryd.func7, Tryd.ntmps7
  go_wp2_with fail
  refine (k.out _).mono ?_
  rintro e w' ⟨rfl, rfl⟩
  go_wp2_with fail
  refine (HT.out _ HN.out).mono ?_
  rintro e w' ⟨rfl, rfl⟩
  go_wp2_with fail
  refine (jt0 _ HN.out).mono ?_
  rintro e w' ⟨rfl, rfl⟩
  go_wp2_with fail
  refine (jt5 _ HN.out).mono ?_
  rintro e w' ⟨rfl, rfl⟩
  go_wp2_with fail
  refine (job_one _).mono ?_
  rintro e w2 ⟨rfl, hb2⟩
  go_wp2
  go_ret
  first | exact ⟨rfl, hb2⟩ | exact ⟨ret_bool' (by simp; omega), hb2⟩
set_option maxRecDepth 100000 in
set_option maxHeartbeats 2000000 in
theorem texts_lo2 (a b : Int) (ha : a < 0) (hab : a = b) (hB : ∀ W, JobNamesAt W → Calls Tryd.prog 32 #[.int .i64 b] W fun e w' => e = .returned (.string ⟨#[]⟩) ∧ W = w') (w : World) (hN : JobNamesAt w) : Calls Tryd.prog 7 #[.int .i64 a, .int .i64 b] w fun e w' => e = .returned (.bool true) ∧ Below w.heap.size w w' := by
  have HN := Lib.hid hN
  clear hN
  have k := Lib.hid (jtext_none a (.inl ha))
  have h0 : ¬ 0 ≤ a := by omega
  clear ha
  subst hab
  have HT := Lib.hid hB
  clear hB
  go_enter Tryd.func7, Tryd.ntmps7
  go_wp2_with fail
  refine (k.out _).mono ?_
  rintro e w' ⟨rfl, rfl⟩
  go_wp2_with fail
  refine (HT.out _ HN.out).mono ?_
  rintro e w' ⟨rfl, rfl⟩
  go_wp2_with fail
  refine (jt0 _ HN.out).mono ?_
  rintro e w' ⟨rfl, rfl⟩
  go_wp2_with fail
  refine (jt5 _ HN.out).mono ?_
  rintro e w' ⟨rfl, rfl⟩
  go_wp2_with fail
  refine (job_one _).mono ?_
  rintro e w2 ⟨rfl, hb2⟩
  go_wp2
  go_ret
  first | exact ⟨rfl, hb2⟩ | exact ⟨ret_bool' (by simp; omega), hb2⟩
set_option maxRecDepth 100000 in
set_option maxHeartbeats 2000000 in
theorem texts_lo3 (a b : Int) (ha : a < 0) (hab : ¬ a = b) (hB : ∀ W, JobNamesAt W → Calls Tryd.prog 32 #[.int .i64 b] W fun e w' => e = .returned (.string ⟨#[]⟩) ∧ W = w') (w : World) (hN : JobNamesAt w) : Calls Tryd.prog 7 #[.int .i64 a, .int .i64 b] w fun e w' => e = .returned (.bool true) ∧ Below w.heap.size w w' := by
  have HN := Lib.hid hN
  clear hN
  have k := Lib.hid (jtext_none a (.inl ha))
  have h0 : ¬ 0 ≤ a := by omega
  clear ha
  have HT := Lib.hid hB
  clear hB
  go_enter Tryd.func7, Tryd.ntmps7
  go_wp2_with fail
  refine (k.out _).mono ?_
  rintro e w' ⟨rfl, rfl⟩
  go_wp2_with fail
  refine (HT.out _ HN.out).mono ?_
  rintro e w' ⟨rfl, rfl⟩
  go_wp2_with fail
  refine (jt0 _ HN.out).mono ?_
  rintro e w' ⟨rfl, rfl⟩
  go_wp2_with fail
  refine (jt5 _ HN.out).mono ?_
  rintro e w' ⟨rfl, rfl⟩
  go_wp2_with fail
  refine (job_one _).mono ?_
  rintro e w2 ⟨rfl, hb2⟩
  go_wp2
  go_ret
  first | exact ⟨rfl, hb2⟩ | exact ⟨ret_bool' (by simp; omega), hb2⟩
set_option maxRecDepth 100000 in
set_option maxHeartbeats 2000000 in
theorem texts_hi (a b : Int) (ha : 5 < a) (t : ByteArray) (hB : ∀ W, JobNamesAt W → Calls Tryd.prog 32 #[.int .i64 b] W fun e w' => e = .returned (.string t) ∧ W = w') (g : (([] : List UInt8) == t.toList) = false) (w : World) (hN : JobNamesAt w) : Calls Tryd.prog 7 #[.int .i64 a, .int .i64 b] w fun e w' => e = .returned (.bool true) ∧ Below w.heap.size w w' := by
  have HN := Lib.hid hN
  clear hN
  have k := Lib.hid (jtext_none a (.inr ha))
  have h0 : 0 ≤ a := by omega
  have h1 : ¬ a ≤ 5 := by omega
  clear ha
  have HT := Lib.hid hB
  clear hB
  go_enter Tryd.func7, Tryd.ntmps7
  go_wp2_with fail
  refine (k.out _).mono ?_
  rintro e w' ⟨rfl, rfl⟩
  go_wp2_with fail
  refine (HT.out _ HN.out).mono ?_
  rintro e w' ⟨rfl, rfl⟩
  go_wp2_with fail
  refine (jt0 _ HN.out).mono ?_
  rintro e w' ⟨rfl, rfl⟩
  go_wp2_with fail
  refine (jt5 _ HN.out).mono ?_
  rintro e w' ⟨rfl, rfl⟩
  go_wp2_with fail
  refine (job_one _).mono ?_
  rintro e w2 ⟨rfl, hb2⟩
  go_wp2
  go_ret
  first | exact ⟨rfl, hb2⟩ | exact ⟨ret_bool' (by simp; omega), hb2⟩
set_option maxRecDepth 100000 in
set_option maxHeartbeats 2000000 in
theorem texts_hi2 (a b : Int) (ha : 5 < a) (hab : a = b) (hB : ∀ W, JobNamesAt W → Calls Tryd.prog 32 #[.int .i64 b] W fun e w' => e = .returned (.string ⟨#[]⟩) ∧ W = w') (w : World) (hN : JobNamesAt w) : Calls Tryd.prog 7 #[.int .i64 a, .int .i64 b] w fun e w' => e = .returned (.bool true) ∧ Below w.heap.size w w' := by
  have HN := Lib.hid hN
  clear hN
  have k := Lib.hid (jtext_none a (.inr ha))
  have h0 : 0 ≤ a := by omega
  have h1 : ¬ a ≤ 5 := by omega
  clear ha
  subst hab
  have HT := Lib.hid hB
  clear hB
  go_enter Tryd.func7, Tryd.ntmps7
  go_wp2_with fail
  refine (k.out _).mono ?_
  rintro e w' ⟨rfl, rfl⟩
  go_wp2_with fail
  refine (HT.out _ HN.out).mono ?_
  rintro e w' ⟨rfl, rfl⟩
  go_wp2_with fail
  refine (jt0 _ HN.out).mono ?_
  rintro e w' ⟨rfl, rfl⟩
  go_wp2_with fail
  refine (jt5 _ HN.out).mono ?_
  rintro e w' ⟨rfl, rfl⟩
  go_wp2_with fail
  refine (job_one _).mono ?_
  rintro e w2 ⟨rfl, hb2⟩
  go_wp2
  go_ret
  first | exact ⟨rfl, hb2⟩ | exact ⟨ret_bool' (by simp; omega), hb2⟩
set_option maxRecDepth 100000 in
set_option maxHeartbeats 2000000 in
theorem texts_hi3 (a b : Int) (ha : 5 < a) (hab : ¬ a = b) (hB : ∀ W, JobNamesAt W → Calls Tryd.prog 32 #[.int .i64 b] W fun e w' => e = .returned (.string ⟨#[]⟩) ∧ W = w') (w : World) (hN : JobNamesAt w) : Calls Tryd.prog 7 #[.int .i64 a, .int .i64 b] w fun e w' => e = .returned (.bool true) ∧ Below w.heap.size w w' := by
  have HN := Lib.hid hN
  clear hN
  have k := Lib.hid (jtext_none a (.inr ha))
  have h0 : 0 ≤ a := by omega
  have h1 : ¬ a ≤ 5 := by omega
  clear ha
  have HT := Lib.hid hB
  clear hB
  go_enter Tryd.func7, Tryd.ntmps7
  go_wp2_with fail
  refine (k.out _).mono ?_
  rintro e w' ⟨rfl, rfl⟩
  go_wp2_with fail
  refine (HT.out _ HN.out).mono ?_
  rintro e w' ⟨rfl, rfl⟩
  go_wp2_with fail
  refine (jt0 _ HN.out).mono ?_
  rintro e w' ⟨rfl, rfl⟩
  go_wp2_with fail
  refine (jt5 _ HN.out).mono ?_
  rintro e w' ⟨rfl, rfl⟩
  go_wp2_with fail
  refine (job_one _).mono ?_
  rintro e w2 ⟨rfl, hb2⟩
  go_wp2
  go_ret
  first | exact ⟨rfl, hb2⟩ | exact ⟨ret_bool' (by simp; omega), hb2⟩
theorem texts_walk (a b : Int) (w : World) (hN : JobNamesAt w) : Calls Tryd.prog 7 #[.int .i64 a, .int .i64 b] w fun e w' => e = .returned (.bool true) ∧ Below w.heap.size w w' := by
  by_cases hb : 0 ≤ b ∧ b ≤ 5
  · obtain ⟨k, rfl⟩ := Int.eq_ofNat_of_zero_le hb.1
    have hk : k < 6 := by omega
    have hB := fun W h => jtext_at k hk W h
    by_cases ha : 0 ≤ a ∧ a ≤ 5
    · obtain ⟨m, rfl⟩ := Int.eq_ofNat_of_zero_le ha.1
      have hm : m < 6 := by omega
      by_cases hmk : m = k
      · subst hmk
        rcases (show m = 0 ∨ m = 1 ∨ m = 2 ∨ m = 3 ∨ m = 4 ∨ m = 5 by omega) with rfl | rfl | rfl | rfl | rfl | rfl
        · exact texts_eq0 w hN
        · exact texts_eq1 w hN
        · exact texts_eq2 w hN
        · exact texts_eq3 w hN
        · exact texts_eq4 w hN
        · exact texts_eq5 w hN
      · have g : ∀ m : Nat, m < 6 → ∀ k : Nat, k < 6 → m ≠ k → ((jobB.getD m []) == (jname k).toList) = false := by decide +kernel
        have g := g m hm k hk hmk
        rcases (show m = 0 ∨ m = 1 ∨ m = 2 ∨ m = 3 ∨ m = 4 ∨ m = 5 by omega) with rfl | rfl | rfl | rfl | rfl | rfl
        · exact texts_ne0 k _ hB g w hN
        · exact texts_ne1 k _ hB g w hN
        · exact texts_ne2 k _ hB g w hN
        · exact texts_ne3 k _ hB g w hN
        · exact texts_ne4 k _ hB g w hN
        · exact texts_ne5 k _ hB g w hN
    · have g : ∀ k : Nat, k < 6 → (([] : List UInt8) == (jname k).toList) = false := by decide +kernel
      by_cases h0 : a < 0
      · exact texts_lo a k h0 _ hB (g k hk) w hN
      · exact texts_hi a k (by omega) _ hB (g k hk) w hN
  · have hB := fun W (_ : JobNamesAt W) => jtext_none b (by omega) W
    by_cases ha : 0 ≤ a ∧ a ≤ 5
    · obtain ⟨m, rfl⟩ := Int.eq_ofNat_of_zero_le ha.1
      have hm : m < 6 := by omega
      have g : ∀ m : Nat, m < 6 → ((jobB.getD m []) == (⟨#[]⟩ : ByteArray).toList) = false := by decide +kernel
      have g := g m hm
      rcases (show m = 0 ∨ m = 1 ∨ m = 2 ∨ m = 3 ∨ m = 4 ∨ m = 5 by omega) with rfl | rfl | rfl | rfl | rfl | rfl
      · exact texts_ne0 b _ hB g w hN
      · exact texts_ne1 b _ hB g w hN
      · exact texts_ne2 b _ hB g w hN
      · exact texts_ne3 b _ hB g w hN
      · exact texts_ne4 b _ hB g w hN
      · exact texts_ne5 b _ hB g w hN
    · by_cases hab : a = b
      · by_cases h0 : a < 0
        · exact texts_lo2 a b h0 hab hB w hN
        · exact texts_hi2 a b (by omega) hab hB w hN
      · by_cases h0 : a < 0
        · exact texts_lo3 a b h0 hab hB w hN
        · exact texts_hi3 a b (by omega) hab hB w hN
end Go.Proofs.YtkllhnfnkgkelaaDoor
