/- Bytes that came in, or were made: as a row of numbers; as a string. No condition but what is said of each. -/
import Derived.Test.YtdfkfcpkejjlnaaDoorRows
import Derived.WalkKit
import Derived.ProofKit
import Derived.OpenShut
import Derived.Below
import Derived.Deep.RegionHeld
import Derived.Laws.BytesArg
namespace Go.Proofs.YtdfkfcpkejjlnaaDoor
set_option linter.unusedVariables false
open Go.ChangeShapes Go.WideShapes Go.ChangeAt Go.RowKit

theorem bcell {W w1 : World} (hb : Below W.heap.size W w1) : (∀ b o, b < W.heap.size → w1.cell? ⟨b, o, none⟩ = W.cell? ⟨b, o, none⟩) ∧ (∀ b o, b < W.heap.size → w1.frozen? ⟨b, o, none⟩ = W.frozen? ⟨b, o, none⟩) :=
  ⟨fun b o h => hb.cell (p := ⟨b, o, none⟩) h, fun b o h => hb.frozen (p := ⟨b, o, none⟩) h⟩
theorem below_alloc {W0 W : World} (h : Below W0.heap.size W0 W) (o : Obj) : Below W0.heap.size W0 (W.alloc o) := h.alloc h.size o
theorem below_next {W0 W w2 : World} (h : Below W0.heap.size W0 W) (hb : Below W.heap.size W w2) : Below W0.heap.size W0 w2 := h.trans (hb.mono h.size)
/-- a row of bytes in memory -/
structure BytesRow (w : World) (b off : Nat) (zs : List Int) : Prop where
  cell : ∀ k, k < zs.length → w.cell? ⟨b, off + k, none⟩ = some (.int .u8 (zs.getD k 0))
  lo : ∀ k, k < zs.length → 0 ≤ zs.getD k 0
  hi : ∀ k, k < zs.length → zs.getD k 0 ≤ 255
  len : zs.length ≤ 9223372036854775807
theorem BytesRow.below {w w' : World} {b off : Nat} {zs : List Int} (h : BytesRow w b off zs) (hb : Below w.heap.size w w') : BytesRow w' b off zs :=
  ⟨fun k hk => (hb.cell (World.block_lt_of_cell? w _ (h.cell k hk))).trans (h.cell k hk), h.lo, h.hi, h.len⟩
/-- a text's bytes, as numbers -/
def bytesOf (s : ByteArray) : List Int := s.data.toList.map fun x => (x.toNat : Int)
theorem bytesOf_length (s : ByteArray) : (bytesOf s).length = s.size := by simp [bytesOf]
theorem bytesOf_snoc (s : ByteArray) (k : Nat) (h : k < s.size) : (bytesOf s).take (k + 1) = (bytesOf s).take k ++ [(s[k].toNat : Int)] := by
  rw [List.take_succ_eq_append_getElem (by rw [bytesOf_length]; exact h)]
  congr 2
  simp [bytesOf]
  rfl
/-- a text that lies in memory, or none -/
def TxtAt (w : World) (v : Value) (zs : List Int) : Prop :=
  (∃ b off cap, v = .slice (some ⟨b, off, none⟩) zs.length cap ∧ 0 < zs.length ∧ BytesRow w b off zs) ∨ (zs = [] ∧ ∃ a cap, v = .slice a 0 cap ∧ (a = none → cap = 0))
theorem TxtAt.below {w w' : World} {v : Value} {zs : List Int} (h : TxtAt w v zs) (hb : Below w.heap.size w w') : TxtAt w' v zs := by
  rcases h with ⟨b, off, cap, h1, h2, h3⟩ | h
  · exact .inl ⟨b, off, cap, h1, h2, h3.below hb⟩
  · exact .inr h
theorem bytesOf_str (xs : List Int) (h0 : ∀ k, k < xs.length → 0 ≤ xs.getD k 0) (h1 : ∀ k, k < xs.length → xs.getD k 0 ≤ 255) : bytesOf (strOfNums xs) = xs := by
  unfold bytesOf strOfNums
  apply List.ext_getElem
  · simp
  · intro k hk1 hk2
    have a := h0 k hk2
    have b := h1 k hk2
    simp [List.getD, List.getElem?_eq_getElem hk2] at a b
    simp
    omega
theorem size_str (xs : List Int) : (strOfNums xs).size = xs.length := by unfold strOfNums; simp [ByteArray.size]
/-- bytes as a text -/
theorem txt_convert {w : World} {v : Value} {zs : List Int} (h : TxtAt w v zs) : ∃ s : ByteArray, bytesOf s = zs ∧ s.size = zs.length ∧ ∀ w', Below w.heap.size w w' → (convert 40 9 v).run Tryd.prog w' = .ok (.string s) w' := by
  rcases h with ⟨b, off, cap, rfl, h2, h3⟩ | ⟨rfl, a, cap, rfl, _⟩
  · refine ⟨strOfNums zs, bytesOf_str zs h3.lo h3.hi, size_str zs, fun w' hb => ?_⟩
    exact run_convert_bytes_arg w' 40 5 Tryd.underlying40 Tryd.underlying5 b off zs.length cap zs rfl (h3.below hb).cell 9 Tryd.underlying9
  · refine ⟨ByteArray.empty, rfl, rfl, fun w' hb => ?_⟩
    rw [run_convert_bytes_string w' 40 9 5 a 0 cap Tryd.underlying40 Tryd.underlying5 Tryd.underlying9]
    cases a with
    | none => rfl
    | some x => rw [run_bytesToString w' x 0 cap [] (by rfl)]; rfl


theorem bytesOf_u8 : Tryd.prog.bytesOf 5 = 1 := by kernel_rfl
/-- a slice of bytes that came in: its elements, as a text -/
theorem txt_open {H : Type} {enc : TypeId × Value → H} {W : World} {a : Option Addr} {len cap : Nat} {d : DataW H} {p : List MemPlace}
    (h : DataW.Trod enc Tryd.prog W 0 (fun _ => true) true 40 (.slice a len cap) d p) :
    ∃ zs : List Int, (TxtAt W (.slice a len cap) zs ∧ zs.length = len ∧ len ≤ cap ∧ (0 < len → ∃ b off, a = some ⟨b, off, none⟩)) ∧ (len = 0 ∨ ∃ el sp, d = .slice el sp ∧ el.length = len) := by
  obtain ⟨fuel, hf⟩ := h
  rcases open_ints Tryd.underlying40 Tryd.underlying5 (by kernel_rfl) hf with ⟨hcs, _⟩ | ⟨x, l, c, zs, hcs, _, hl, hm, hz, hd, hcell, hwz⟩
  · simp [Value.cells] at hcs
    obtain ⟨rfl, rfl, rfl⟩ := hcs
    exact ⟨[], ⟨.inr ⟨rfl, none, 0, rfl, fun _ => rfl⟩, rfl, Nat.le_refl _, fun h => absurd h (by decide)⟩, .inl rfl⟩
  · simp [Value.cells] at hcs
    obtain ⟨rfl, rfl, rfl⟩ := hcs
    have hz' : zs.length = cap := by simpa using hz
    have htl : (zs.take len).length = len := by simp; omega
    by_cases h0 : len = 0
    · subst h0
      exact ⟨[], ⟨.inr ⟨rfl, some x, cap, rfl, fun h => by cases h⟩, rfl, hl, fun h => absurd h (by decide)⟩, .inl rfl⟩
    · obtain ⟨b, off, spot⟩ := x
      have hc := hcell 0 (by omega)
      have hspot : spot = none := by simpa [Addr.add] using World.cell?_spot hc
      subst hspot
      refine ⟨zs.take len, ⟨.inl ⟨b, off, cap, by rw [htl], by omega, ?_⟩, htl, hl, fun _ => ⟨b, off, rfl⟩⟩, .inr ⟨_, _, (Prod.mk.inj hd).1, by simp [lits]; omega⟩⟩
      have hg : ∀ k, k < len → (zs.take len).getD k 0 = zs.getD k 0 := fun k hk => by simp [List.getD, List.getElem?_take, hk]
      have hb : ∀ k, k < len → 0 ≤ zs.getD k 0 ∧ zs.getD k 0 ≤ 255 := fun k hk => by
        have hmem : zs.getD k 0 ∈ zs := by
          have hk' : k < zs.length := by omega
          rw [show zs.getD k 0 = zs[k] by simp [List.getD, hk']]
          exact List.getElem_mem _
        have := hwz _ hmem
        simpa [Lit.wf, IntKind.min, IntKind.max, IntKind.signed, IntKind.bits] using this
      exact {
        cell := fun k hk => by
          rw [htl] at hk
          rw [hg k hk]
          have hplain : (⟨b, off, none⟩ : Addr).add k = ⟨b, off + k, none⟩ := by unfold Addr.add; split <;> simp_all
          rw [← hplain]
          exact hcell k (by omega)
        lo := fun k hk => by rw [htl] at hk; rw [hg k hk]; exact (hb k hk).1
        hi := fun k hk => by rw [htl] at hk; rw [hg k hk]; exact (hb k hk).2
        len := by rw [htl]; unfold maxLen at hm; omega }
end Go.Proofs.YtdfkfcpkejjlnaaDoor
