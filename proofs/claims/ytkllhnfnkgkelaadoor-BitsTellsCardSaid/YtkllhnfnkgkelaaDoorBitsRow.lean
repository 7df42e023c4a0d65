/- bits.row: the words of nodes that follow one another. Condition: both are nodes (0 to 63). -/
import Derived.Test.YtkllhnfnkgkelaaDoorBitsIter
import Derived.Test.YtkllhnfnkgkelaaDoorBitsToks
import Derived.Test.YtkllhnfnkgkelaaDoorShelfB
import Derived.RangeFuncBox
import Derived.Maps.AppendAt
namespace Go.Proofs.YtkllhnfnkgkelaaDoor
set_option linter.unusedVariables false
open Go.ChangeShapes Go.WideShapes Go.ChangeAt Go.RowKit Go.Shelf
attribute [local go_sem ↓] Go.wp_at_zero Go.wp_at_succ comesTo_value_eq comesTo_skip_eq comesTo_enter_eq

/-- bytes as a text -/
def strB (t : List UInt8) : ByteArray := ⟨t.toArray⟩
def strV (t : List UInt8) : Value := .string (strB t)
theorem strB_data (t : List UInt8) : (strB t).data.toList = t := rfl
theorem strB_app (a b : List UInt8) : strB a ++ strB b = strB (a ++ b) := by
  apply ByteArray.ext
  simp [strB, ByteArray.data_append]
theorem strB_inj {a b : List UInt8} (h : strB a = strB b) : a = b := by rw [← strB_data a, h, strB_data]
theorem itoa_any (n : Int) (h0 : 0 ≤ n) (h1 : n < 64) (w : World) : Calls Tryd.prog 62 #[.int .i64 n] w fun e w' => e = .returned (.string (strB (dec2 n.toNat))) ∧ w = w' := by
  have := Any.strconv_Itoa_small Tryd.laysItoa n.toNat (by omega) w
  rw [dec2_eq (by omega), show ((n.toNat : Nat) : Int) = n by omega] at this
  exact this.mono fun _ _ ⟨h1, h2⟩ => ⟨h1, h2.symm⟩
set_option maxRecDepth 100000 in
theorem row_any (f x : Int) (hf0 : 0 ≤ f) (hf1 : f < 64) (hx0 : 0 ≤ x) (hx1 : x < 64) (w : World) :
    Calls Tryd.prog 50 #[.int .i64 f, .int .i64 x] w fun e w' => e = .returned (.slice (some ⟨w.heap.size, 0, none⟩) (rowT f x).length (rowT f x).length) ∧ w' = w.alloc (.cells ((rowT f x).map strV).toArray 9) := by
  have KF := Lib.hid (fun W => itoa_any f hf0 hf1 W)
  have KX := Lib.hid (fun W => itoa_any x hx0 hx1 W)
  have hcat := strB_app (dec2 f.toNat) [45]
  have hcat2 := strB_app (dec2 f.toNat ++ [45]) (dec2 x.toNat)
  rw [List.append_assoc] at hcat2
  unfold rowT strV
  have hk : strB [45] = { data := #[45] } := rfl
  rw [hk] at hcat
  by_cases h0 : x - f = 0
  · have hb : (x - f == 0) = true := by simpa using h0
    rw [if_pos h0]
    simp only [List.map_cons, List.map_nil, List.length_cons, List.length_nil]
    have H0 := Lib.hid h0
    clear h0 hcat hcat2 hk
    generalize strB (dec2 f.toNat) = A at *
    generalize strB (dec2 x.toNat) = B at *
    go_enter Tryd.func50, Tryd.ntmps50
    go_wp2_with (first | (refine (KF.out _).mono ?_; rintro e w' ⟨rfl, rfl⟩) | (refine (KX.out _).mono ?_; rintro e w' ⟨rfl, rfl⟩))
    go_ret
    exact ⟨rfl, rfl⟩
  · have hb : (x - f == 0) = false := by simpa using h0
    rw [if_neg h0]
    by_cases h1 : x - f = 1
    · have hb1 : (x - f == 1) = true := by simpa using h1
      rw [if_pos h1]
      simp only [List.map_cons, List.map_nil, List.length_cons, List.length_nil]
      have H0 := Lib.hid h0
      have H1 := Lib.hid h1
      clear h0 h1 hcat hcat2 hk
      generalize strB (dec2 f.toNat) = A at *
      generalize strB (dec2 x.toNat) = B at *
      go_enter Tryd.func50, Tryd.ntmps50
      go_wp2_with (first | (refine (KF.out _).mono ?_; rintro e w' ⟨rfl, rfl⟩) | (refine (KX.out _).mono ?_; rintro e w' ⟨rfl, rfl⟩))
      go_ret
      exact ⟨rfl, rfl⟩
    · have hb1 : (x - f == 1) = false := by simpa using h1
      rw [if_neg h1]
      rw [show dec2 f.toNat ++ ([45] ++ dec2 x.toNat) = dec2 f.toNat ++ 45 :: dec2 x.toNat by rfl] at hcat2
      simp only [List.map_cons, List.map_nil, List.length_cons, List.length_nil]
      have H0 := Lib.hid h0
      have H1 := Lib.hid h1
      clear h0 h1 hk
      rw [← hcat] at hcat2
      rw [← hcat2]
      clear hcat hcat2
      have sA : (strB (dec2 f.toNat)).size ≤ 2 := dec2_len f.toNat
      have sB : (strB (dec2 x.toNat)).size ≤ 2 := dec2_len x.toNat
      generalize strB (dec2 f.toNat) = A at *
      generalize strB (dec2 x.toNat) = B at *
      go_enter Tryd.func50, Tryd.ntmps50
      go_wp2_with (first | (refine (KF.out _).mono ?_; rintro e w' ⟨rfl, rfl⟩) | (refine (KX.out _).mono ?_; rintro e w' ⟨rfl, rfl⟩))
      go_ret
      exact ⟨rfl, rfl⟩
end Go.Proofs.YtkllhnfnkgkelaaDoor
