/- Contracts of Text and Of (health), where the names are laid. -/
import Derived.Test.YtcmmfpfdjhfdaaaDoorHealthO
import Derived.LoopN
import Derived.WalkSpells
namespace Go.Proofs.YtcmmfpfdjhfdaaaDoor
set_option linter.unusedVariables false
open Go.ChangeShapes Go.WideShapes Go.ChangeAt Go.RowKit

theorem text_none (k : Int) (hk : k < 0 ∨ 5 ≤ k) (w : World) :
    Calls Tryd.prog 6 #[.int .i64 k] w fun e w' => e = .returned (.string ⟨#[]⟩) ∧ w = w' := by
  rcases hk with h | h
  · go_enter Tryd.func6, Tryd.ntmps6
    go_wp2
    go_ret
    exact ⟨rfl, rfl⟩
  · have h' : ¬ k < 0 := by omega
    go_enter Tryd.func6, Tryd.ntmps6
    go_wp2
    go_ret
    exact ⟨rfl, rfl⟩
def nameAt (k : Nat) : ByteArray := ⟨((nameB.getD k []).toArray)⟩
theorem text_at (k : Nat) (hk : k < 5) (w : World) (h : NamesAt w) :
    Calls Tryd.prog 6 #[.int .i64 k] w fun e w' => e = .returned (.string (nameAt k)) ∧ w = w' := by
  obtain ⟨h0, h1, h2, h3, h4⟩ := h
  rcases (show k = 0 ∨ k = 1 ∨ k = 2 ∨ k = 3 ∨ k = 4 by omega) with rfl | rfl | rfl | rfl | rfl
  all_goals
    go_enter Tryd.func6, Tryd.ntmps6
    go_wp2
    go_ret
    exact ⟨rfl, rfl⟩
theorem ix0 (w : World) (a b c d e : Value) : (Instr.index 36 (.agg #[a, b, c, d, e]) (.int .i64 0)).run Tryd.prog w = .ok a w := by kernel_rfl
theorem ix1 (w : World) (a b c d e : Value) : (Instr.index 36 (.agg #[a, b, c, d, e]) (.int .i64 1)).run Tryd.prog w = .ok b w := by kernel_rfl
theorem ix2 (w : World) (a b c d e : Value) : (Instr.index 36 (.agg #[a, b, c, d, e]) (.int .i64 2)).run Tryd.prog w = .ok c w := by kernel_rfl
theorem ix3 (w : World) (a b c d e : Value) : (Instr.index 36 (.agg #[a, b, c, d, e]) (.int .i64 3)).run Tryd.prog w = .ok d w := by kernel_rfl
theorem ix4 (w : World) (a b c d e : Value) : (Instr.index 36 (.agg #[a, b, c, d, e]) (.int .i64 4)).run Tryd.prog w = .ok e w := by kernel_rfl
set_option maxHeartbeats 2000000 in
theorem of_0 (s : ByteArray) (w : World) (h : NamesAt w) (g0 : (([117, 112] : List UInt8) == s.toList) = true) :
    Calls Tryd.prog 7 #[.string s] w fun e w' => e = .returned (.tuple #[.int .i64 0, .bool true]) ∧ w = w' := by
  obtain ⟨h0, h1, h2, h3, h4⟩ := h
  have i0 := ix0
  have i1 := ix1
  have i2 := ix2
  have i3 := ix3
  have i4 := ix4
  go_enter Tryd.func7, Tryd.ntmps7
  go_wp2
  refine wp_loop_rounds 6 ?_
  rw [rounds_succ]
  go_wp2
  go_ret2
  exact ⟨rfl, rfl⟩
set_option maxHeartbeats 2000000 in
theorem of_1 (s : ByteArray) (w : World) (h : NamesAt w) (g0 : (([117, 112] : List UInt8) == s.toList) = false) (g1 : (([115, 117, 115, 112, 101, 99, 116] : List UInt8) == s.toList) = true) :
    Calls Tryd.prog 7 #[.string s] w fun e w' => e = .returned (.tuple #[.int .i64 1, .bool true]) ∧ w = w' := by
  obtain ⟨h0, h1, h2, h3, h4⟩ := h
  have i0 := ix0
  have i1 := ix1
  have i2 := ix2
  have i3 := ix3
  have i4 := ix4
  go_enter Tryd.func7, Tryd.ntmps7
  go_wp2
  refine wp_loop_rounds 6 ?_
  rw [rounds_succ]
  go_wp2
  rw [rounds_succ]
  go_wp2
  go_ret2
  exact ⟨rfl, rfl⟩
set_option maxHeartbeats 2000000 in
theorem of_2 (s : ByteArray) (w : World) (h : NamesAt w) (g0 : (([117, 112] : List UInt8) == s.toList) = false) (g1 : (([115, 117, 115, 112, 101, 99, 116] : List UInt8) == s.toList) = false) (g2 : (([100, 111, 119, 110] : List UInt8) == s.toList) = true) :
    Calls Tryd.prog 7 #[.string s] w fun e w' => e = .returned (.tuple #[.int .i64 2, .bool true]) ∧ w = w' := by
  obtain ⟨h0, h1, h2, h3, h4⟩ := h
  have i0 := ix0
  have i1 := ix1
  have i2 := ix2
  have i3 := ix3
  have i4 := ix4
  go_enter Tryd.func7, Tryd.ntmps7
  go_wp2
  refine wp_loop_rounds 6 ?_
  rw [rounds_succ]
  go_wp2
  rw [rounds_succ]
  go_wp2
  rw [rounds_succ]
  go_wp2
  go_ret2
  exact ⟨rfl, rfl⟩
set_option maxHeartbeats 2000000 in
theorem of_3 (s : ByteArray) (w : World) (h : NamesAt w) (g0 : (([117, 112] : List UInt8) == s.toList) = false) (g1 : (([115, 117, 115, 112, 101, 99, 116] : List UInt8) == s.toList) = false) (g2 : (([100, 111, 119, 110] : List UInt8) == s.toList) = false) (g3 : (([100, 114, 97, 105, 110] : List UInt8) == s.toList) = true) :
    Calls Tryd.prog 7 #[.string s] w fun e w' => e = .returned (.tuple #[.int .i64 3, .bool true]) ∧ w = w' := by
  obtain ⟨h0, h1, h2, h3, h4⟩ := h
  have i0 := ix0
  have i1 := ix1
  have i2 := ix2
  have i3 := ix3
  have i4 := ix4
  go_enter Tryd.func7, Tryd.ntmps7
  go_wp2
  refine wp_loop_rounds 6 ?_
  rw [rounds_succ]
  go_wp2
  rw [rounds_succ]
  go_wp2
  rw [rounds_succ]
  go_wp2
  rw [rounds_succ]
  go_wp2
  go_ret2
  exact ⟨rfl, rfl⟩
set_option maxHeartbeats 2000000 in
theorem of_4 (s : ByteArray) (w : World) (h : NamesAt w) (g0 : (([117, 112] : List UInt8) == s.toList) = false) (g1 : (([115, 117, 115, 112, 101, 99, 116] : List UInt8) == s.toList) = false) (g2 : (([100, 111, 119, 110] : List UInt8) == s.toList) = false) (g3 : (([100, 114, 97, 105, 110] : List UInt8) == s.toList) = false) (g4 : (([114, 101, 112, 97, 105, 114] : List UInt8) == s.toList) = true) :
    Calls Tryd.prog 7 #[.string s] w fun e w' => e = .returned (.tuple #[.int .i64 4, .bool true]) ∧ w = w' := by
  obtain ⟨h0, h1, h2, h3, h4⟩ := h
  have i0 := ix0
  have i1 := ix1
  have i2 := ix2
  have i3 := ix3
  have i4 := ix4
  go_enter Tryd.func7, Tryd.ntmps7
  go_wp2
  refine wp_loop_rounds 6 ?_
  rw [rounds_succ]
  go_wp2
  rw [rounds_succ]
  go_wp2
  rw [rounds_succ]
  go_wp2
  rw [rounds_succ]
  go_wp2
  rw [rounds_succ]
  go_wp2
  go_ret2
  exact ⟨rfl, rfl⟩
set_option maxHeartbeats 2000000 in
theorem of_none (s : ByteArray) (w : World) (h : NamesAt w) (g0 : (([117, 112] : List UInt8) == s.toList) = false) (g1 : (([115, 117, 115, 112, 101, 99, 116] : List UInt8) == s.toList) = false) (g2 : (([100, 111, 119, 110] : List UInt8) == s.toList) = false) (g3 : (([100, 114, 97, 105, 110] : List UInt8) == s.toList) = false) (g4 : (([114, 101, 112, 97, 105, 114] : List UInt8) == s.toList) = false) :
    Calls Tryd.prog 7 #[.string s] w fun e w' => e = .returned (.tuple #[.int .i64 0, .bool false]) ∧ w = w' := by
  obtain ⟨h0, h1, h2, h3, h4⟩ := h
  have i0 := ix0
  have i1 := ix1
  have i2 := ix2
  have i3 := ix3
  have i4 := ix4
  go_enter Tryd.func7, Tryd.ntmps7
  go_wp2
  refine wp_loop_rounds 6 ?_
  rw [rounds_succ]
  go_wp2
  rw [rounds_succ]
  go_wp2
  rw [rounds_succ]
  go_wp2
  rw [rounds_succ]
  go_wp2
  rw [rounds_succ]
  go_wp2
  rw [rounds_succ]
  go_wp2
  go_ret2
  exact ⟨rfl, rfl⟩
theorem nl0 : (nameAt 0).toList = [117, 112] := by kernel_rfl
theorem nl1 : (nameAt 1).toList = [115, 117, 115, 112, 101, 99, 116] := by kernel_rfl
theorem nl2 : (nameAt 2).toList = [100, 111, 119, 110] := by kernel_rfl
theorem nl3 : (nameAt 3).toList = [100, 114, 97, 105, 110] := by kernel_rfl
theorem nl4 : (nameAt 4).toList = [114, 101, 112, 97, 105, 114] := by kernel_rfl
/-- what Of tells of a name: where it is one of the names; else nothing -/
def OfSays (s : ByteArray) (k : Int) (ok : Bool) : Prop := ∀ W, NamesAt W → Calls Tryd.prog 7 #[.string s] W fun e w' => e = .returned (.tuple #[.int .i64 k, .bool ok]) ∧ W = w'
theorem of_any (s : ByteArray) : (∃ j : Nat, j < 5 ∧ ((nameAt j).toList == s.toList) = true ∧ OfSays s j true) ∨ OfSays s 0 false := by
  cases g0 : (([117, 112] : List UInt8) == s.toList) with
  | true => exact .inl ⟨0, by decide, by rw [nl0]; exact g0, fun W hN => of_0 s W hN g0⟩
  | false =>
  cases g1 : (([115, 117, 115, 112, 101, 99, 116] : List UInt8) == s.toList) with
  | true => exact .inl ⟨1, by decide, by rw [nl1]; exact g1, fun W hN => of_1 s W hN g0 g1⟩
  | false =>
  cases g2 : (([100, 111, 119, 110] : List UInt8) == s.toList) with
  | true => exact .inl ⟨2, by decide, by rw [nl2]; exact g2, fun W hN => of_2 s W hN g0 g1 g2⟩
  | false =>
  cases g3 : (([100, 114, 97, 105, 110] : List UInt8) == s.toList) with
  | true => exact .inl ⟨3, by decide, by rw [nl3]; exact g3, fun W hN => of_3 s W hN g0 g1 g2 g3⟩
  | false =>
  cases g4 : (([114, 101, 112, 97, 105, 114] : List UInt8) == s.toList) with
  | true => exact .inl ⟨4, by decide, by rw [nl4]; exact g4, fun W hN => of_4 s W hN g0 g1 g2 g3 g4⟩
  | false => exact .inr fun W hN => of_none s W hN g0 g1 g2 g3 g4
end Go.Proofs.YtcmmfpfdjhfdaaaDoor
