/- Plain facts on masks of int64 numbers. No condition but the mask's form. -/
import Derived.Test.YtfakejfpicjedaaRows
import Derived.WalkKit
import Derived.Laws.Bits64b
namespace Go.Proofs.Ytfakejfpicjedaa
set_option linter.unusedVariables false
open Go.RowKit

theorem mask_i64 (x : Int) (k M : Nat) (hM : M = 2 ^ k) (h1 : 1 ≤ M) (hk : M ≤ 4611686018427387904) (hd : (M : Int) ∣ 18446744073709551616) : bits .and .i64 x ((M - 1 : Nat) : Int) = x % (M : Int) := by
  show IntKind.i64.wrap ((BitVec.ofInt 64 x &&& BitVec.ofInt 64 ((M - 1 : Nat) : Int)).toNat : Int) = _
  have h2 : (BitVec.ofInt 64 ((M - 1 : Nat) : Int)).toNat = M - 1 := by
    rw [BitVec.ofInt_natCast, BitVec.toNat_ofNat]; exact Nat.mod_eq_of_lt (by omega)
  have h3 : (BitVec.ofInt 64 x).toNat = (x % 18446744073709551616).toNat := by simp [BitVec.toNat_ofInt]
  rw [BitVec.toNat_and, h2, h3, hM, Nat.and_two_pow_sub_one_eq_mod, ← hM]
  have h4 : 0 ≤ x % 18446744073709551616 := Int.emod_nonneg _ (by omega)
  have h5 : (((x % 18446744073709551616).toNat % M : Nat) : Int) = x % (M : Int) := by
    rw [Int.natCast_emod, Int.toNat_of_nonneg h4]
    exact Int.emod_emod_of_dvd x hd
  rw [h5]
  have h6 := Int.emod_nonneg x (show (M : Int) ≠ 0 by omega)
  have h7 := Int.emod_lt_of_pos x (show (0 : Int) < M by omega)
  generalize x % (M : Int) = y at *
  simp [IntKind.wrap, IntKind.bits, IntKind.signed]
  omega
theorem mask_65535 (x : Int) : bits .and .i64 x 65535 = x % 65536 := mask_i64 x 16 65536 rfl (by decide) (by decide) (by decide)
theorem mask_7 (x : Int) : bits .and .i64 x 7 = x % 8 := mask_i64 x 3 8 rfl (by decide) (by decide) (by decide)
theorem mask_63 (x : Int) : bits .and .i64 x 63 = x % 64 := mask_i64 x 6 64 rfl (by decide) (by decide) (by decide)
theorem mask_255 (x : Int) : bits .and .i64 x 255 = x % 256 := mask_i64 x 8 256 rfl (by decide) (by decide) (by decide)
theorem mask_16777215 (x : Int) : bits .and .i64 x 16777215 = x % 16777216 := mask_i64 x 24 16777216 rfl (by decide) (by decide) (by decide)
theorem mask_4095 (x : Int) : bits .and .i64 x 4095 = x % 4096 := mask_i64 x 12 4096 rfl (by decide) (by decide) (by decide)
theorem mask_1023 (x : Int) : bits .and .i64 x 1023 = x % 1024 := mask_i64 x 10 1024 rfl (by decide) (by decide) (by decide)
end Go.Proofs.Ytfakejfpicjedaa
