/- Bytes that came in, or were made: as a row of numbers; as a string. No condition but what is said of each. -/
import Derived.Test.YtfakejfpicjedaaRows
import Derived.WalkKit
import Derived.ProofKit
import Derived.OpenShut
import Derived.Below
import Derived.Deep.RegionHeld
import Derived.Laws.BytesArg
namespace Go.Proofs.Ytfakejfpicjedaa
set_option linter.unusedVariables false
open Go.ChangeShapes Go.WideShapes Go.ChangeAt Go.RowKit

theorem bcell {W w1 : World} (hb : Below W.heap.size W w1) : (∀ b o, b < W.heap.size → w1.cell? ⟨b, o, none⟩ = W.cell? ⟨b, o, none⟩) ∧ (∀ b o, b < W.heap.size → w1.frozen? ⟨b, o, none⟩ = W.frozen? ⟨b, o, none⟩) :=
  ⟨fun b o h => hb.cell (p := ⟨b, o, none⟩) h, fun b o h => hb.frozen (p := ⟨b, o, none⟩) h⟩
theorem below_alloc {W0 W : World} (h : Below W0.heap.size W0 W) (o : Obj) : Below W0.heap.size W0 (W.alloc o) := h.alloc h.size o
theorem below_next {W0 W w2 : World} (h : Below W0.heap.size W0 W) (hb : Below W.heap.size W w2) : Below W0.heap.size W0 w2 := h.trans (hb.mono h.size)
/-- a row of bytes in memory -/
structure BytesRow (w : World) (b off : Nat) (zs : List Int) : Prop where
  cell : ∀ k, k < zs.length → w.cell? ⟨b, off + k, none⟩ = some (.int .u8 (zs.getD k 0))
  lo : ∀ k, k < zs.length → 0 ≤ zs.getD k 0
  hi : ∀ k, k < zs.length → zs.getD k 0 ≤ 255
  len : zs.length ≤ 9223372036854775807
theorem BytesRow.below {w w' : World} {b off : Nat} {zs : List Int} (h : BytesRow w b off zs) (hb : Below w.heap.size w w') : BytesRow w' b off zs :=
  ⟨fun k hk => (hb.cell (World.block_lt_of_cell? w _ (h.cell k hk))).trans (h.cell k hk), h.lo, h.hi, h.len⟩
/-- a text's bytes, as numbers -/
def bytesOf (s : ByteArray) : List Int := s.data.toList.map fun x => (x.toNat : Int)
theorem bytesOf_length (s : ByteArray) : (bytesOf s).length = s.size := by simp [bytesOf]
theorem bytesOf_snoc (s : ByteArray) (k : Nat) (h : k < s.size) : (bytesOf s).take (k + 1) = (bytesOf s).take k ++ [(s[k].toNat : Int)] := by
  rw [List.take_succ_eq_append_getElem (by rw [bytesOf_length]; exact h)]
  congr 2
  simp [bytesOf]
  rfl
/-- a text that lies in memory, or none -/
def TxtAt (w : World) (v : Value) (zs : List Int) : Prop :=
  (∃ b off cap, v = .slice (some ⟨b, off, none⟩) zs.length cap ∧ 0 < zs.length ∧ BytesRow w b off zs) ∨ (zs = [] ∧ ∃ a cap, v = .slice a 0 cap ∧ (a = none → cap = 0))
theorem TxtAt.below {w w' : World} {v : Value} {zs : List Int} (h : TxtAt w v zs) (hb : Below w.heap.size w w') : TxtAt w' v zs := by
  rcases h with ⟨b, off, cap, h1, h2, h3⟩ | h
  · exact .inl ⟨b, off, cap, h1, h2, h3.below hb⟩
  · exact .inr h
theorem bytesOf_str (xs : List Int) (h0 : ∀ k, k < xs.length → 0 ≤ xs.getD k 0) (h1 : ∀ k, k < xs.length → xs.getD k 0 ≤ 255) : bytesOf (strOfNums xs) = xs := by
  unfold bytesOf strOfNums
  apply List.ext_getElem
  · simp
  · intro k hk1 hk2
    have a := h0 k hk2
    have b := h1 k hk2
    simp [List.getD, List.getElem?_eq_getElem hk2] at a b
    simp
    omega
theorem size_str (xs : List Int) : (strOfNums xs).size = xs.length := by unfold strOfNums; simp [ByteArray.size]
theorem bytesOf_u8 : Try.prog.bytesOf 5 = 1 := by kernel_rfl
end Go.Proofs.Ytfakejfpicjedaa
