/- Contracts of Value, Begin, the reference's Take and Sum. -/
import Derived.Test.YtomhfnaekjmjnaaDoorSum
namespace Go.Proofs.YtomhfnaekjmjnaaDoor
set_option linter.unusedVariables false
open Go.ChangeShapes Go.WideShapes Go.ChangeAt Go.RowKit

theorem ret_int {k : IntKind} {a b : Int} (h : a = b) : Ending.returned (.int k a) = .returned (.int k b) := by rw [h]
theorem takeI_snoc (A B : Int) (l : List Int) (x : Int) : takeI A B (l ++ [x]) = sumSt (takeI A B l) x := by
  unfold takeI
  rw [if_neg (by simp)]
  by_cases h : l = []
  · subst h; simp only [List.nil_append, if_true, sumAll, List.foldl, sumSt]; congr 1 <;> omega
  · rw [if_neg h, sumAll_snoc]
theorem takeI_bd (A B : Int) (A0 : 0 ≤ A) (B0 : 0 ≤ B) (A1 : A ≤ 4294967295) (B1 : B ≤ 4294967295) (l : List Int) : (0 ≤ (takeI A B l).1 ∧ (takeI A B l).1 ≤ 4294967295) ∧ 0 ≤ (takeI A B l).2 ∧ (takeI A B l).2 ≤ 4294967295 := by
  unfold takeI
  split
  · exact ⟨⟨A0, A1⟩, B0, B1⟩
  · have := sumAll_bd (A % 65521, B % 65521) l (by simp only; omega); omega
theorem begin_any (w : World) :
    Calls Tryd.prog 61 #[] w fun e w' => e = .returned (.agg #[.int .u32 1, .int .u32 0]) ∧ Below w.heap.size w w' := by
  go_enter Tryd.func61, Tryd.ntmps61
  go_wp2
  exact bodyPost_ret (v := .agg #[.int .u32 1, .int .u32 0]) (by simp [results, Tryd.results61, go_sem]) rfl ⟨rfl, (by repeat (first | exact Below.refl _ _ | assumption | refine below_drewN ?_ _ | refine Below.drew ?_ | refine below_alloc ?_ _ | refine Below.alloc ?_ (by first | omega | (simp; done) | (simp; omega)) _ | refine Below.setCell ?_ (Below.size (by assumption)) _ | refine Below.setCell ?_ (by first | omega | (simp; done) | (simp; omega)) _ | (refine Below.trans ?_ (Below.mono (by assumption) (by first | omega | (simp; done) | (simp; omega)))) | refine below_next ?_ (by assumption)))⟩
theorem value_any (A B : Int) (A0 : 0 ≤ A) (B0 : 0 ≤ B) (A1 : A ≤ 4294967295) (B1 : B ≤ 4294967295) (w : World) :
    Calls Tryd.prog 63 #[.agg #[.int .u32 A, .int .u32 B]] w fun e w' => e = .returned (.int .u32 ((B * 65536 + A) % 4294967296)) ∧ Below w.heap.size w w' := by
  go_enter Tryd.func63, Tryd.ntmps63
  go_wp2
  go_ret
  exact ⟨ret_int (by omega), (by repeat (first | exact Below.refl _ _ | assumption | refine below_drewN ?_ _ | refine Below.drew ?_ | refine below_alloc ?_ _ | refine Below.alloc ?_ (by first | omega | (simp; done) | (simp; omega)) _ | refine Below.setCell ?_ (Below.size (by assumption)) _ | refine Below.setCell ?_ (by first | omega | (simp; done) | (simp; omega)) _ | (refine Below.trans ?_ (Below.mono (by assumption) (by first | omega | (simp; done) | (simp; omega)))) | refine below_next ?_ (by assumption)))⟩
set_option maxHeartbeats 1000000 in
theorem rsum_any (s : ByteArray) (hs : s.size ≤ 9223372036854775807) (w : World) :
    Calls Tryd.prog 43 #[.string s] w fun e w' => e = .returned (.int .u32 ((sumAll (1, 0) (bytesOf s)).2 * 65536 + (sumAll (1, 0) (bytesOf s)).1)) ∧ w = w' := by
  go_enter Tryd.func43, Tryd.ntmps43
  go_wp2
  go_loop [3, 4, 5] (fun x y i => ∃ k : Nat, k ≤ s.size ∧ i = .int .i64 k ∧ x = .int .i64 (sumAll (1, 0) ((bytesOf s).take k)).1 ∧ y = .int .i64 (sumAll (1, 0) ((bytesOf s).take k)).2) (fun _ _ i => s.size - (intOf i).toNat)
  case atStart => exact ⟨0, Nat.zero_le _, rfl, rfl, rfl⟩
  case round =>
    obtain ⟨k, hk, rfl, rfl, rfl⟩ := hrel
    obtain ⟨⟨p0, p1⟩, q0, q1⟩ := sumAll_bd (1, 0) ((bytesOf s).take k) (by decide)
    by_cases hlt : k < s.size
    · have hend := Lib.hid (show sumAll (1, 0) ((bytesOf s).take (k + 1)) = sumSt (sumAll (1, 0) ((bytesOf s).take k)) (s[k].toNat : Int) by rw [bytesOf_snoc s k hlt, sumAll_snoc])
      have x0 : (0 : Int) ≤ (s[k].toNat : Int) := by omega
      have x1 : (s[k].toNat : Int) ≤ 255 := by have := s[k].toNat_lt; omega
      unfold sumSt at hend
      generalize (sumAll (1, 0) ((bytesOf s).take k)).1 = P at *
      generalize (sumAll (1, 0) ((bytesOf s).take k)).2 = Q at *
      go_wp2
      go_round
      case rel => exact ⟨k + 1, by omega, by go_num, by rw [hend.out], by rw [hend.out]; exact congrArg (Value.int .i64) (by simp only; omega)⟩
      case measure => simp [intOf]; omega
    · have hkz := Lib.hid (show (bytesOf s).take k = bytesOf s by rw [List.take_of_length_le (by rw [bytesOf_length]; omega)])
      go_wp2
      go_ret
      rw [hkz.out] at *
      exact ⟨ret_int (by omega), rfl⟩
theorem take_any (A B : Int) (A0 : 0 ≤ A) (B0 : 0 ≤ B) (A1 : A ≤ 4294967295) (B1 : B ≤ 4294967295) (v : Value) (zs : List Int) (w : World) (h : TxtAt w v zs) :
    Calls Tryd.prog 62 #[.agg #[.int .u32 A, .int .u32 B], v] w fun e w' => e = .returned (.agg #[.int .u32 (takeI A B zs).1, .int .u32 (takeI A B zs).2]) ∧ Below w.heap.size w w' := by
  rcases h with ⟨b, off, cap, rfl, h2, h3⟩ | ⟨rfl, a, cap, rfl, _⟩
  · have e : takeI A B zs = sumAll (A % 65521, B % 65521) zs := by unfold takeI; rw [if_neg (by intro h; simp [h] at h2)]
    rw [e]
    exact take_some A B A0 B0 A1 B1 b off cap zs h2 w h3
  · exact take_none A B a cap w
end Go.Proofs.YtomhfnaekjmjnaaDoor
