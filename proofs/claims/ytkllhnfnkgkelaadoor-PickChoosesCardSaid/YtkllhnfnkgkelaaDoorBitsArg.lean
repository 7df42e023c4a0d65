/- Sets of nodes that came in, as a row. No condition. -/
import Derived.Test.YtkllhnfnkgkelaaDoorBits
namespace Go.Proofs.YtkllhnfnkgkelaaDoor
set_option linter.unusedVariables false
open Go.ChangeShapes Go.WideShapes Go.ChangeAt Go.RowKit

/-! sets that came in -/
structure SetsAt (W : World) (a : Option Addr) (len cap : Nat) (zs : List NSet) : Prop where
  same : zs.length = len
  big : len ≤ 9223372036854775807
  cell : 0 < len → ∃ b off, a = some ⟨b, off, none⟩ ∧ ∀ k, k < len → W.cell? ⟨b, off + k, none⟩ = some (.int .u64 (nv (zs.getD k 0#64)))
theorem nv_all : ∀ (l : List Int), (∀ n ∈ l, 0 ≤ n ∧ n ≤ 18446744073709551615) → ∃ zs : List NSet, zs.map nv = l
  | [], _ => ⟨[], rfl⟩
  | n :: l, h => by
    obtain ⟨zs, hz⟩ := nv_all l fun m hm => h m (List.mem_cons_of_mem _ hm)
    obtain ⟨s, hs⟩ := nv_of n (h n List.mem_cons_self).1 (h n List.mem_cons_self).2
    exact ⟨s :: zs, by rw [List.map_cons, hs, hz]⟩
theorem sets_open {H : Type} {enc : TypeId × Value → H} {W : World} {a : Option Addr} {len cap : Nat} {d : DataW H} {p : List MemPlace}
    (h : DataW.Trod enc Tryd.prog W 0 (fun _ => true) true 47 (.slice a len cap) d p) : ∃ zs : List NSet, SetsAt W a len cap zs := by
  obtain ⟨fuel, hf⟩ := h
  rcases open_ints Tryd.underlying47 Tryd.underlying23 (by kernel_rfl) hf with ⟨hcs, _⟩ | ⟨x, l, c, zs, hcs, _, hl, hm, hz, hd, hcell, hwz⟩
  · simp [Value.cells] at hcs
    obtain ⟨rfl, rfl, rfl⟩ := hcs
    exact ⟨[], rfl, by omega, fun h => absurd h (by decide)⟩
  · simp [Value.cells] at hcs
    obtain ⟨rfl, rfl, rfl⟩ := hcs
    have hz' : zs.length = cap := by simpa using hz
    obtain ⟨ss, hss⟩ := nv_all (zs.take len) fun n hn => by
      have := hwz n (List.mem_of_mem_take hn)
      simpa [Lit.wf, IntKind.min, IntKind.max, IntKind.signed, IntKind.bits] using this
    have hsl : ss.length = len := by
      have := congrArg List.length hss
      simp at this
      omega
    refine ⟨ss, hsl, by unfold maxLen at hm; omega, fun h0 => ?_⟩
    obtain ⟨b, off, spot⟩ := x
    have hc := hcell 0 (by omega)
    have hspot : spot = none := by simpa [Addr.add] using World.cell?_spot hc
    subst hspot
    refine ⟨b, off, rfl, fun k hk => ?_⟩
    have hplain : (⟨b, off, none⟩ : Addr).add k = ⟨b, off + k, none⟩ := by unfold Addr.add; split <;> simp_all
    rw [← hplain, hcell k (by omega)]
    have e1 : (ss.map nv)[k]? = (zs.take len)[k]? := by rw [hss]
    rw [List.getElem?_map, List.getElem?_take_of_lt hk] at e1
    have hkz : k < zs.length := by omega
    have hks : k < ss.length := by omega
    simp only [List.getElem?_eq_getElem hkz, List.getElem?_eq_getElem hks, Option.map_some, Option.some.injEq] at e1
    simp [List.getD, List.getElem?_eq_getElem hkz, List.getElem?_eq_getElem hks, e1]
theorem SetsAt.below {W W' : World} {a : Option Addr} {len cap : Nat} {zs : List NSet} (h : SetsAt W a len cap zs) (hb : Below W.heap.size W W') : SetsAt W' a len cap zs :=
  ⟨h.same, h.big, fun h0 => by
    obtain ⟨b, off, ha, hc⟩ := h.cell h0
    exact ⟨b, off, ha, fun k hk => (hb.cell (p := ⟨b, off + k, none⟩) (World.block_lt_of_cell? W _ (hc k hk))).trans (hc k hk)⟩⟩
/-- so many of the first -/
theorem SetsAt.take {W : World} {a : Option Addr} {len cap : Nat} {zs : List NSet} (h : SetsAt W a len cap zs) {n c : Nat} (hn : n ≤ len) : SetsAt W a n c (zs.take n) :=
  ⟨by rw [List.length_take, h.same]; omega, by have := h.big; omega, fun h0 => by
    obtain ⟨b, off, ha, hc⟩ := h.cell (by omega)
    refine ⟨b, off, ha, fun k hk => (hc k (by omega)).trans ?_⟩
    congr 3
    simp [List.getD, List.getElem?_take_of_lt hk]⟩
end Go.Proofs.YtkllhnfnkgkelaaDoor
