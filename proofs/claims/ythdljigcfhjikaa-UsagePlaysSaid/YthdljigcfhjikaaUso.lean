/- Levels (layer 10): a row of acts that comes in as an argument. No condition. -/
import Derived.Test.YthdljigcfhjikaaUsl
namespace Go.Proofs.Ythdljigcfhjikaa
set_option linter.unusedVariables false
open Go.ChangeShapes Go.WideShapes Go.RowKit Go.Deep

/-- an act: what it is, the span, how much -/
structure ActU where
  kind : Int
  fr : Int
  to_ : Int
  n : Int
structure ActU.Cells (w : World) (b o : Nat) (a : ActU) : Prop where
  c0 : w.cell? ⟨b, o, none⟩ = some (.int .i64 a.kind)
  c1 : w.cell? ⟨b, o + 1, none⟩ = some (.int .i64 a.fr)
  c2 : w.cell? ⟨b, o + 2, none⟩ = some (.int .i64 a.to_)
  c3 : w.cell? ⟨b, o + 3, none⟩ = some (.int .i64 a.n)
  n64 : -9223372036854775808 ≤ a.n ∧ a.n ≤ 9223372036854775807
  f64 : -9223372036854775808 ≤ a.fr ∧ a.fr ≤ 9223372036854775807
  t64 : -9223372036854775808 ≤ a.to_ ∧ a.to_ ≤ 9223372036854775807
def ActsU (w : World) (ad : Option Addr) (len : Nat) (A : Nat → ActU) : Prop := len ≤ 9223372036854775807 ∧ (0 < len → ∃ b off, ad = some ⟨b, off, none⟩ ∧ ∀ k, k < len → ActU.Cells w b (off + k * 4) (A k))
instance : Inhabited ActU := ⟨⟨0, 0, 0, 0⟩⟩
set_option maxRecDepth 10000 in
theorem actsU_open {H : Type} {enc : TypeId × Value → H} {W : World} {a : Option Addr} {len cap : Nat} {d : DataW H} {p : List MemPlace}
    (h : DataW.Trod enc Try.prog W 0 (fun _ => true) true 22 (.slice a len cap) d p) : ∃ A : Nat → ActU, ActsU W a len A ∧ len ≤ cap := by
  obtain ⟨fuel, hf⟩ := h
  rcases Go.Deep.open_slice Try.underlying22 hf with ⟨hcs, _⟩ | ⟨x, l, c, m, n, D, Pl, hcs, _, hl, hm, hmm, hd, hcell⟩
  · simp [Value.cells] at hcs
    obtain ⟨rfl, rfl, rfl⟩ := hcs
    exact ⟨fun _ => ⟨0, 0, 0, 0⟩, ⟨by omega, fun h => absurd h (by omega)⟩, Nat.le_refl _⟩
  · simp [Value.cells] at hcs
    obtain ⟨rfl, rfl, rfl⟩ := hcs
    have hlm : len ≤ m := by rw [hmm]; split <;> omega
    rw [cellsAct10] at hcell
    by_cases h0 : len = 0
    · exact ⟨fun _ => ⟨0, 0, 0, 0⟩, ⟨by omega, fun h => absurd h (by omega)⟩, hl⟩
    obtain ⟨b, off, spot⟩ := x
    have hspot : spot = none := by
      obtain ⟨cs', h1, _⟩ := hcell 0 (by omega)
      obtain ⟨_, hlen, hc⟩ := World.cells?_some h1
      have := hc 0 (by omega)
      have hs : cs'[0]? = some cs'[0] := List.getElem?_eq_getElem (by omega)
      rw [hs] at this
      simpa [Addr.add] using World.cell?_spot this
    subst hspot
    have hplain : ∀ k, (⟨b, off, none⟩ : Addr).add k = ⟨b, off + k, none⟩ := fun k => by unfold Addr.add; split <;> simp_all
    have hplain2 : ∀ k j, ((⟨b, off, none⟩ : Addr).add k).add j = ⟨b, off + k + j, none⟩ := fun k j => by rw [Go.Deep.add_add, hplain, Nat.add_assoc]
    have each : ∀ i, i < len → ∃ q : ActU, ActU.Cells W b (off + i * 4) q := by
      intro i hi
      obtain ⟨cs', h1, h2⟩ := hcell i (by omega)
      obtain ⟨_, hlen, hc⟩ := World.cells?_some h1
      match cs', hlen with
      | [v0, v1, v2, v3], _ =>
        obtain ⟨n0, y0, g0⟩ := trod_field sAct h2 fAct (i := 0) rfl
        obtain ⟨n1, y1, g1⟩ := trod_field sAct h2 fAct (i := 1) rfl
        obtain ⟨n2, y2, g2⟩ := trod_field sAct h2 fAct (i := 2) rfl
        obtain ⟨n3, y3, g3⟩ := trod_field sSpan g1 fSpan (i := 0) rfl
        obtain ⟨n4, y4, g4⟩ := trod_field sSpan g1 fSpan (i := 1) rfl
        obtain ⟨a0, e0, _, _⟩ := DataW.trod_int Try.underlying3 g0
        obtain ⟨a2, e2, _, w2⟩ := DataW.trod_int Try.underlying3 g2
        obtain ⟨a3, e3, _, w3⟩ := DataW.trod_int Try.underlying23 g3
        obtain ⟨a4, e4, _, w4⟩ := DataW.trod_int Try.underlying23 g4
        have f0 : v0 = .int .i64 a0 := by simpa using e0
        have f2 : v3 = .int .i64 a2 := by simpa using e2
        have f3 : v1 = .int .i64 a3 := by simpa using e3
        have f4 : v2 = .int .i64 a4 := by simpa using e4
        subst f0 f2 f3 f4
        have b2 : -9223372036854775808 ≤ a2 ∧ a2 ≤ 9223372036854775807 := by simpa [Lit.wf, IntKind.min, IntKind.max, IntKind.signed, IntKind.bits] using w2
        have b3 : -9223372036854775808 ≤ a3 ∧ a3 ≤ 9223372036854775807 := by simpa [Lit.wf, IntKind.min, IntKind.max, IntKind.signed, IntKind.bits] using w3
        have b4 : -9223372036854775808 ≤ a4 ∧ a4 ≤ 9223372036854775807 := by simpa [Lit.wf, IntKind.min, IntKind.max, IntKind.signed, IntKind.bits] using w4
        have c : ∀ j, j < 4 → W.cell? ⟨b, off + i * 4 + j, none⟩ = [Value.int .i64 a0, .int .i64 a3, .int .i64 a4, .int .i64 a2][j]? := fun j hj => by rw [← hplain2]; exact hc j hj
        exact ⟨⟨a0, a3, a4, a2⟩, { c0 := c 0 (by decide), c1 := c 1 (by decide), c2 := c 2 (by decide), c3 := c 3 (by decide), n64 := b2, f64 := b3, t64 := b4 }⟩
    obtain ⟨A, hA⟩ := Go.Deep.choose_lt (α := ActU) (p := fun i q => ActU.Cells W b (off + i * 4) q) each
    exact ⟨A, ⟨by unfold maxLen at hm; omega, fun _ => ⟨b, off, rfl, hA⟩⟩, hl⟩
end Go.Proofs.Ythdljigcfhjikaa
