/- Numbers in groups of seven bits, plainly: what is laid, what is read, and that it is the same. No condition. -/
import Derived.Laws.BitsAllLaws
import Derived.WalkKit
import Derived.IntWalk
import Derived.RowKit
import Derived.Laws.Bits64b
import Derived.Laws.Bits64
namespace Go.Proofs.YtdfkfcpkejjlnaaDoor
set_option linter.unusedVariables false
open Go Go.RowKit

/-- a number's sign, folded and unfolded -/
def foldF (v : Int) : Nat := if v < 0 then (-2 * v - 1).toNat else (2 * v).toNat
def unfoldF (u : Nat) : Int := if u % 2 = 1 then -((u / 2 : Nat) : Int) - 1 else ((u / 2 : Nat) : Int)
theorem unfold_fold (v : Int) : unfoldF (foldF v) = v := by unfold unfoldF foldF; split <;> split <;> omega
theorem fold_lt {v : Int} (h : -9223372036854775808 ≤ v ∧ v ≤ 9223372036854775807) : foldF v < 18446744073709551616 := by unfold foldF; split <;> omega
theorem fold_inj {v x : Int} (h : foldF v = foldF x) : v = x := by rw [← unfold_fold v, h, unfold_fold]
theorem unfold_in {u : Nat} (h : u < 18446744073709551616) : -9223372036854775808 ≤ unfoldF u ∧ unfoldF u ≤ 9223372036854775807 := by unfold unfoldF; split <;> omega

theorem xor_zero_i64 (x : Int) (h : 0 ≤ x ∧ x < 9223372036854775808) : bits .xor .i64 x 0 = x := by
  show IntKind.i64.wrap ((BitVec.ofInt 64 x ^^^ BitVec.ofInt 64 0).toNat : Int) = _
  rw [show BitVec.ofInt 64 0 = 0#64 from rfl, BitVec.xor_zero, BitVec.toNat_ofInt]
  simp [IntKind.wrap, IntKind.bits, IntKind.signed]
  omega
theorem xor_ones_i64 (x : Int) (h : 0 ≤ x ∧ x < 9223372036854775808) : bits .xor .i64 x (-1) = -x - 1 := by
  show IntKind.i64.wrap ((BitVec.ofInt 64 x ^^^ BitVec.ofInt 64 (-1)).toNat : Int) = _
  rw [show BitVec.ofInt 64 (-1) = BitVec.allOnes 64 from by decide, BitVec.xor_allOnes, BitVec.toNat_not, BitVec.toNat_ofInt]
  simp [IntKind.wrap, IntKind.bits, IntKind.signed]
  split <;> omega
theorem unfold_bits {u : Nat} (hu : u < 18446744073709551616) : bits .xor .i64 ((u : Int) / 2) (wrap64 (-wrap64 (bits .and .u64 (u : Int) 1))) = unfoldF u := by
  have h1 : bits .and .u64 (u : Int) 1 = ((u % 2 : Nat) : Int) := by
    have := u64_and_nat u 1 hu (by decide)
    rw [nat_mask1] at this
    exact this
  rw [h1]
  unfold unfoldF
  rcases (by omega : u % 2 = 0 ∨ u % 2 = 1) with h | h
  · rw [h, if_neg (by decide), show wrap64 (-wrap64 ((0 : Nat) : Int)) = 0 by decide +kernel, xor_zero_i64 _ (by omega)]
    omega
  · rw [h, if_pos rfl, show wrap64 (-wrap64 ((1 : Nat) : Int)) = -1 by decide +kernel, xor_ones_i64 _ (by omega)]
    omega
theorem xor_ones_u64 (x : Nat) (h : x < 18446744073709551616) : bits .xor .u64 (x : Int) 18446744073709551615 = 18446744073709551615 - (x : Int) := by
  show IntKind.u64.wrap ((BitVec.ofInt 64 (x : Int) ^^^ BitVec.ofInt 64 18446744073709551615).toNat : Int) = _
  rw [show BitVec.ofInt 64 18446744073709551615 = BitVec.allOnes 64 from by decide, BitVec.xor_allOnes, BitVec.toNat_not, BitVec.toNat_ofInt, IntKind.wrap_u64]
  omega
theorem fold_bits {v : Int} (h : -9223372036854775808 ≤ v ∧ v ≤ 9223372036854775807) :
    bits .xor .u64 (IntKind.u64.wrap (IntKind.u64.wrap v * 2)) (IntKind.u64.wrap (v / 9223372036854775808)) = (foldF v : Int) := by
  simp only [IntKind.wrap_u64]
  unfold foldF
  by_cases hv : v < 0
  · rw [if_pos hv, show v / 9223372036854775808 = -1 by omega, show (-1 : Int) % 18446744073709551616 = 18446744073709551615 by decide]
    have e : v % 18446744073709551616 * 2 % 18446744073709551616 = (((2 * v + 18446744073709551616).toNat : Nat) : Int) := by omega
    rw [e, xor_ones_u64 _ (by omega)]
    omega
  · rw [if_neg hv, show v / 9223372036854775808 = 0 by omega, show (0 : Int) % 18446744073709551616 = ((0 : Nat) : Int) by decide]
    have e : v % 18446744073709551616 * 2 % 18446744073709551616 = (((2 * v).toNat : Nat) : Int) := by omega
    rw [e, u64_xor_nat _ _ (by omega) (by decide), Nat.xor_zero]

/-- a number in groups -/
def putU (u : Nat) : List Int := if h : u < 128 then [(u : Int)] else ((u % 128 + 128 : Nat) : Int) :: putU (u / 128)
termination_by u
decreasing_by omega
theorem putU_lt {u : Nat} (h : u < 128) : putU u = [(u : Int)] := by rw [putU, dif_pos h]
theorem putU_ge {u : Nat} (h : ¬ u < 128) : putU u = ((u % 128 + 128 : Nat) : Int) :: putU (u / 128) := by rw [putU, dif_neg h]
def putI (v : Int) : List Int := putU (foldF v)
theorem putU_bytes (u : Nat) : ∀ x ∈ putU u, 0 ≤ x ∧ x ≤ 255 := by
  induction u using putU.induct with
  | case1 u h => rw [putU_lt h]; intro x hx; simp at hx; omega
  | case2 u h ih =>
    rw [putU_ge h]
    intro x hx
    rcases List.mem_cons.1 hx with rfl | hx
    · omega
    · exact ih x hx
theorem putU_len (u : Nat) : 1 ≤ (putU u).length := by
  by_cases h : u < 128
  · rw [putU_lt h]; simp
  · rw [putU_ge h]; simp
theorem putU_le (k : Nat) : ∀ u : Nat, u < 128 ^ (k + 1) → (putU u).length ≤ k + 1 := by
  induction k with
  | zero => intro u h; rw [putU_lt (by simpa using h)]; simp
  | succ k ih =>
    intro u h
    by_cases hu : u < 128
    · rw [putU_lt hu]; simp
    · rw [putU_ge hu]
      have := ih (u / 128) (by rw [Nat.div_lt_iff_lt_mul (by decide), ← Nat.pow_succ]; exact h)
      simp; omega
theorem putI_len {v : Int} (h : -9223372036854775808 ≤ v ∧ v ≤ 9223372036854775807) : (putI v).length ≤ 10 := putU_le 9 _ (Nat.lt_of_lt_of_le (fold_lt h) (by decide))
/-- a text, and numbers -/
def putTx (s : List Int) : List Int := putI s.length ++ s
def putL (l : List Int) : List Int := putI l.length ++ l.flatMap putI

/-- what a reading of a number leaves: the rest, what is wrong, the number -/
def scan : Nat → Nat → List Int → List Int × Int × Int
  | _, _, [] => ([], 10, 0)
  | i, u, x :: xs =>
    if i = 9 ∧ 1 < x then ([], 11, 0)
    else if 128 ≤ x then scan (i + 1) (u + (x - 128).toNat * 2 ^ (7 * i)) xs
    else if 0 < i ∧ x = 0 then ([], 11, 0)
    else (xs, 0, unfoldF (u + x.toNat * 2 ^ (7 * i)))
theorem scan_bad (i u : Nat) (xs : List Int) : (scan i u xs).2.1 = 0 ∨ (scan i u xs).1 = [] ∧ (scan i u xs).2.2 = 0 := by
  induction xs generalizing i u with
  | nil => exact .inr ⟨rfl, rfl⟩
  | cons x xs ih =>
    unfold scan
    split
    · exact .inr ⟨rfl, rfl⟩
    · split
      · exact ih _ _
      · split
        · exact .inr ⟨rfl, rfl⟩
        · exact .inl rfl
theorem scan_put (u : Nat) : ∀ (i a : Nat) (ys : List Int), i ≤ 9 → u * 2 ^ (7 * i) < 18446744073709551616 → (0 < i → 0 < u) → scan i a (putU u ++ ys) = (ys, 0, unfoldF (a + u * 2 ^ (7 * i))) := by
  induction u using putU.induct with
  | case1 u h =>
    intro i a ys hi hu h0
    rw [putU_lt h]
    show scan i a ((u : Int) :: ys) = _
    unfold scan
    rw [if_neg, if_neg (by omega), if_neg (by omega)]
    · simp
    · rintro ⟨rfl, h1⟩
      have : 2 * 2 ^ (7 * 9) ≤ u * 2 ^ (7 * 9) := Nat.mul_le_mul_right _ (by omega)
      simp at this hu
      omega
  | case2 u h ih =>
    intro i a ys hi hu h0
    rw [putU_ge h]
    show scan i a (((u % 128 + 128 : Nat) : Int) :: (putU (u / 128) ++ ys)) = _
    have h9 : i ≠ 9 := by
      rintro rfl
      have : 2 * 2 ^ (7 * 9) ≤ u * 2 ^ (7 * 9) := Nat.mul_le_mul_right _ (by omega)
      simp at this hu
      omega
    have hp : 2 ^ (7 * (i + 1)) = 128 * 2 ^ (7 * i) := by rw [show 7 * (i + 1) = 7 + 7 * i by omega, Nat.pow_add]
    have hd : u / 128 * (128 * 2 ^ (7 * i)) + u % 128 * 2 ^ (7 * i) = u * 2 ^ (7 * i) := by
      have h1 : u / 128 * (128 * 2 ^ (7 * i)) = (128 * (u / 128)) * 2 ^ (7 * i) := by rw [← Nat.mul_assoc, Nat.mul_comm (u / 128) 128]
      rw [h1, ← Nat.add_mul, Nat.div_add_mod]
    unfold scan
    rw [if_neg (by omega), if_pos (by omega), ih (i + 1) _ ys (by omega) (by rw [hp]; omega) (fun _ => by omega), hp]
    rw [show (((u % 128 + 128 : Nat) : Int) - 128).toNat = u % 128 by omega, show a + u % 128 * 2 ^ (7 * i) + u / 128 * (128 * 2 ^ (7 * i)) = a + u * 2 ^ (7 * i) by omega]
theorem scan_putI {v : Int} (h : -9223372036854775808 ≤ v ∧ v ≤ 9223372036854775807) (ys : List Int) : scan 0 0 (putI v ++ ys) = (ys, 0, v) := by
  have := scan_put (foldF v) 0 0 ys (by decide) (by simpa using fold_lt h) (fun h => by omega)
  rw [show putI v = putU (foldF v) from rfl, this]
  simp [unfold_fold]
/-- cut off -/
theorem scan_cut (u : Nat) : ∀ (i a k : Nat), i ≤ 9 → u * 2 ^ (7 * i) < 18446744073709551616 → k < (putU u).length → scan i a ((putU u).take k) = ([], 10, 0) := by
  induction u using putU.induct with
  | case1 u h =>
    intro i a k hi hu hk
    rw [putU_lt h] at hk ⊢
    simp at hk
    subst hk
    rfl
  | case2 u h ih =>
    intro i a k hi hu hk
    rw [putU_ge h] at hk ⊢
    cases k with
    | zero => rfl
    | succ k =>
      have h9 : i ≠ 9 := by
        rintro rfl
        have : 2 * 2 ^ (7 * 9) ≤ u * 2 ^ (7 * 9) := Nat.mul_le_mul_right _ (by omega)
        simp at this hu
        omega
      have hp : 2 ^ (7 * (i + 1)) = 128 * 2 ^ (7 * i) := by rw [show 7 * (i + 1) = 7 + 7 * i by omega, Nat.pow_add]
      have hd : u / 128 * (128 * 2 ^ (7 * i)) + u % 128 * 2 ^ (7 * i) = u * 2 ^ (7 * i) := by
        have h1 : u / 128 * (128 * 2 ^ (7 * i)) = (128 * (u / 128)) * 2 ^ (7 * i) := by rw [← Nat.mul_assoc, Nat.mul_comm (u / 128) 128]
        rw [h1, ← Nat.add_mul, Nat.div_add_mod]
      rw [List.take_succ_cons]
      unfold scan
      rw [if_neg (by omega), if_pos (by omega), ih (i + 1) _ k (by omega) (by rw [hp]; omega) (by simpa using hk)]
/-- what is read is one of 64 bits -/
theorem scan_in (xs : List Int) : ∀ (i u : Nat), (∀ x ∈ xs, 0 ≤ x ∧ x ≤ 255) → i ≤ 9 → u < 2 ^ (7 * i) → -9223372036854775808 ≤ (scan i u xs).2.2 ∧ (scan i u xs).2.2 ≤ 9223372036854775807 := by
  induction xs with
  | nil => intro i u _ _ _; simp [scan]
  | cons x xs ih =>
    intro i u hb hi hu
    have hx := hb x List.mem_cons_self
    have hp : 2 ^ (7 * (i + 1)) = 128 * 2 ^ (7 * i) := by rw [show 7 * (i + 1) = 7 + 7 * i by omega, Nat.pow_add]
    unfold scan
    split
    · exact ⟨by decide, by decide⟩
    · rename_i h9
      split
      · rename_i h128
        have hm : (x - 128).toNat * 2 ^ (7 * i) ≤ 127 * 2 ^ (7 * i) := Nat.mul_le_mul_right _ (by omega)
        exact ih (i + 1) _ (fun y hy => hb y (List.mem_cons_of_mem _ hy)) (by omega) (by omega)
      · split
        · exact ⟨by decide, by decide⟩
        · refine unfold_in ?_
          rcases (by omega : i = 9 ∨ i < 9) with rfl | h
          · have hm : x.toNat * 2 ^ (7 * 9) ≤ 1 * 2 ^ (7 * 9) := Nat.mul_le_mul_right _ (by omega)
            simp at hm hu
            omega
          · have hm : x.toNat * 2 ^ (7 * i) ≤ 127 * 2 ^ (7 * i) := Nat.mul_le_mul_right _ (by omega)
            have hq : 2 ^ (7 * i) ≤ 2 ^ 56 := Nat.pow_le_pow_right (by decide) (by omega)
            simp at hq
            omega
theorem scan_suffix (xs : List Int) : ∀ (i u : Nat), (scan i u xs).1 <:+ xs := by
  induction xs with
  | nil => intro i u; exact List.suffix_refl _
  | cons x xs ih =>
    intro i u
    unfold scan
    split
    · exact List.nil_suffix
    · split
      · exact (ih _ _).trans (List.suffix_cons _ _)
      · split
        · exact List.nil_suffix
        · exact List.suffix_cons _ _
theorem putU_inj (u : Nat) : ∀ v, putU u = putU v → u = v := by
  induction u using putU.induct with
  | case1 u h =>
    intro v hv
    by_cases h' : v < 128
    · rw [putU_lt h, putU_lt h'] at hv; simp at hv; omega
    · rw [putU_lt h, putU_ge h'] at hv
      have := (List.cons.inj hv).1
      omega
  | case2 u h ih =>
    intro v hv
    by_cases h' : v < 128
    · rw [putU_ge h, putU_lt h'] at hv
      have := (List.cons.inj hv).1
      omega
    · rw [putU_ge h, putU_ge h'] at hv
      have h1 := (List.cons.inj hv).1
      have h2 := ih _ (List.cons.inj hv).2
      omega
theorem putI_inj {v x : Int} (h : putI v = putI x) : v = x := fold_inj (putU_inj _ _ h)
end Go.Proofs.YtdfkfcpkejjlnaaDoor
