/- Records that come in as a law's arguments: one, some, and some with what becomes of the disk. No condition. -/
import Derived.Test.YtomhfnaekjmjnaaDoorJnA
import Derived.Lib.SmallJoins
namespace Go.Proofs.YtomhfnaekjmjnaaDoor
set_option linter.unusedVariables false
open Go.ChangeShapes Go.WideShapes Go.ChangeAt Go.RowKit

/-- a text in a cell -/
def TxtC (w : World) (a : Addr) (bs : List Int) : Prop := ∃ ad c, w.cell? a = some (.slice ad bs.length c) ∧ TxtAt w (.slice ad bs.length c) bs ∧ bs.length ≤ c ∧ (0 < bs.length → ∃ g o, ad = some ⟨g, o, none⟩)
structure RecC (w : World) (b o : Nat) (r : JRec) : Prop where
  c0 : w.cell? ⟨b, o, none⟩ = some (.int .i64 r.1)
  c1 : TxtC w ⟨b, o + 1, none⟩ r.2
  g_in : -9223372036854775808 ≤ r.1 ∧ r.1 ≤ 9223372036854775807
def RecsAt (w : World) (ad : Option Addr) (len : Nat) (A : Nat → JRec) : Prop := len ≤ 9223372036854775807 ∧ (0 < len → ∃ b off, ad = some ⟨b, off, none⟩ ∧ ∀ k, k < len → RecC w b (off + k * 2) (A k))
/-- a record, how the disk is armed, how many bytes stay -/
structure AddV where
  r : JRec
  arm : Int
  kp : Int
  deriving Inhabited
structure AddC (w : World) (b o : Nat) (a : AddV) : Prop where
  c0 : RecC w b o a.r
  c2 : w.cell? ⟨b, o + 2, none⟩ = some (.int .i64 a.arm)
  c3 : w.cell? ⟨b, o + 3, none⟩ = some (.int .i64 a.kp)
  arm_in : -9223372036854775808 ≤ a.arm ∧ a.arm ≤ 9223372036854775807
def AddsAt (w : World) (ad : Option Addr) (len : Nat) (A : Nat → AddV) : Prop := len ≤ 9223372036854775807 ∧ (0 < len → ∃ b off, ad = some ⟨b, off, none⟩ ∧ ∀ k, k < len → AddC w b (off + k * 4) (A k))
theorem cells_rec : Tryd.prog.cellsOf 24 = 2 := by kernel_rfl
theorem cells_one : Tryd.prog.cellsOf 3 = 1 ∧ Tryd.prog.cellsOf 2 = 1 ∧ Tryd.prog.cellsOf 22 = 1 := ⟨by kernel_rfl, by kernel_rfl, by kernel_rfl⟩
theorem i64_in {n : Int} (h : (Lit.int .i64 n).wf = true) : -9223372036854775808 ≤ n ∧ n ≤ 9223372036854775807 := by simpa [Lit.wf, IntKind.min, IntKind.max, IntKind.signed, IntKind.bits] using h
/-- a text told by its cell -/
theorem txtc_open {H : Type} {enc : TypeId × Value → H} {W : World} {v : Value} {k : Nat} {y : DataW H × List MemPlace} (g3 : DataW.trod enc Tryd.prog W 0 (fun _ => true) true k 22 [v] = some y) :
    ∃ bs ad c, v = .slice ad bs.length c ∧ TxtAt W (.slice ad bs.length c) bs ∧ bs.length ≤ c ∧ (0 < bs.length → ∃ g o, ad = some ⟨g, o, none⟩) := by
  obtain ⟨ad, ln, cp, rfl⟩ : ∃ ad ln cp, v = .slice ad ln cp := by
    rcases Go.Deep.open_slice Tryd.underlying22 g3 with ⟨hcs, _⟩ | ⟨x, l, c, m, n, D, Pl, hcs, _⟩
    · simp at hcs; exact ⟨_, _, _, hcs⟩
    · simp at hcs; exact ⟨_, _, _, hcs⟩
  obtain ⟨zs, ⟨ht, hzl, hlc, hpos⟩, _⟩ := txt_open (enc := enc) (W := W) (a := ad) (len := ln) (cap := cp) ⟨k, by simpa [Value.cells] using g3⟩
  subst hzl
  exact ⟨zs, ad, cp, rfl, ht, hlc, hpos⟩
set_option maxRecDepth 100000 in
/-- a record by value -/
theorem rec_open {H : Type} {enc : TypeId × Value → H} {W : World} {r : Reach} {b0 : Nat} {v : Value} {d : DataW H} {p : List MemPlace} (hv : Value.okWide Tryd.prog W r b0 24 v) (h : DataW.Trod enc Tryd.prog W 0 (fun _ => true) true 24 v d p) :
    ∃ (g : Int) (bs : List Int) (ad : Option Addr) (c : Nat), v = .agg #[.int .i64 g, .slice ad bs.length c] ∧ (-9223372036854775808 ≤ g ∧ g ≤ 9223372036854775807) ∧ TxtAt W (.slice ad bs.length c) bs ∧ bs.length ≤ c := by
  obtain ⟨v0, v1, y0, y1, n, rfl, _, _, h0, h1⟩ := Go.Joins.open_agg2 Tryd.underlying24 (by kernel_rfl) cells_rec hv h
  obtain ⟨z0, e0, _, w0⟩ := DataW.trod_int Tryd.underlying2 h0
  simp at e0
  subst e0
  obtain ⟨bs, ad, c, rfl, ht, hlc, _⟩ := txtc_open h1
  exact ⟨z0, bs, ad, c, rfl, i64_in w0, ht, hlc⟩
theorem recc_of {H : Type} {enc : TypeId × Value → H} {W : World} {b o k : Nat} {v0 v1 : Value} {y0 y1 : DataW H × List MemPlace} (c0 : W.cell? ⟨b, o, none⟩ = some v0) (c1 : W.cell? ⟨b, o + 1, none⟩ = some v1)
    (g0 : DataW.trod enc Tryd.prog W 0 (fun _ => true) true k 2 [v0] = some y0) (g1 : DataW.trod enc Tryd.prog W 0 (fun _ => true) true k 22 [v1] = some y1) : ∃ r, RecC W b o r := by
  obtain ⟨z0, e0, _, w0⟩ := DataW.trod_int Tryd.underlying2 g0
  simp at e0
  subst e0
  obtain ⟨bs, ad, c, rfl, h⟩ := txtc_open g1
  exact ⟨(z0, bs), ⟨c0, ⟨ad, c, c1, h⟩, i64_in w0⟩⟩
set_option maxRecDepth 100000 in
theorem recs_open {H : Type} {enc : TypeId × Value → H} {W : World} {a : Option Addr} {len cap : Nat} {d : DataW H} {p : List MemPlace}
    (h : DataW.Trod enc Tryd.prog W 0 (fun _ => true) true 33 (.slice a len cap) d p) : ∃ A : Nat → JRec, RecsAt W a len A := by
  obtain ⟨fuel, hf⟩ := h
  rcases Go.Deep.open_slice Tryd.underlying33 hf with ⟨hcs, _⟩ | ⟨x, l, c, m, n, D, Pl, hcs, _, hl, hm, hmm, hd, hcell⟩
  · simp [Value.cells] at hcs
    obtain ⟨rfl, rfl, rfl⟩ := hcs
    exact ⟨fun _ => (0, []), by omega, fun h => absurd h (by omega)⟩
  · simp [Value.cells] at hcs
    obtain ⟨rfl, rfl, rfl⟩ := hcs
    have hlm : len ≤ m := by rw [hmm]; split <;> omega
    rw [cells_rec] at hcell
    by_cases h0 : len = 0
    · exact ⟨fun _ => (0, []), by omega, fun h => absurd h (by omega)⟩
    obtain ⟨b, off, spot⟩ := x
    have hspot : spot = none := by
      obtain ⟨cs', h1, _⟩ := hcell 0 (by omega)
      obtain ⟨_, hlen, hc⟩ := World.cells?_some h1
      have := hc 0 (by omega)
      have hs : cs'[0]? = some cs'[0] := List.getElem?_eq_getElem (by omega)
      rw [hs] at this
      simpa [Addr.add] using World.cell?_spot this
    subst hspot
    have hplain : ∀ k, (⟨b, off, none⟩ : Addr).add k = ⟨b, off + k, none⟩ := fun k => by unfold Addr.add; split <;> simp_all
    have hplain2 : ∀ k j, ((⟨b, off, none⟩ : Addr).add k).add j = ⟨b, off + k + j, none⟩ := fun k j => by rw [Go.Deep.add_add, hplain, Nat.add_assoc]
    have each : ∀ i, i < len → ∃ q : JRec, RecC W b (off + i * 2) q := by
      intro i hi
      obtain ⟨cs', h1, h2⟩ := hcell i (by omega)
      obtain ⟨_, hlen, hc⟩ := World.cells?_some h1
      obtain ⟨xs, k, hk, _, _, hxl, hff⟩ := DataW.trod_struct Tryd.underlying24 h2
      match xs, hxl, cs', hlen with
      | [y0, y1], _, [v0, v1], _ =>
        have g0 := hff 0 _ rfl
        have g1 := hff 1 _ rfl
        simp [cells_one] at g0 g1
        have c : ∀ j, j < 2 → W.cell? ⟨b, off + i * 2 + j, none⟩ = [v0, v1][j]? := fun j hj => by rw [← hplain2]; exact hc j hj
        exact recc_of (c 0 (by decide)) (c 1 (by decide)) g0 g1
    obtain ⟨A, hA⟩ := Go.Deep.choose_lt (α := JRec) (p := fun i q => RecC W b (off + i * 2) q) each
    exact ⟨A, by unfold maxLen at hm; omega, fun _ => ⟨b, off, rfl, hA⟩⟩
theorem cells_add : Tryd.prog.cellsOf 48 = 4 := by kernel_rfl
set_option maxRecDepth 100000 in
theorem adds_open {H : Type} {enc : TypeId × Value → H} {W : World} {a : Option Addr} {len cap : Nat} {d : DataW H} {p : List MemPlace}
    (h : DataW.Trod enc Tryd.prog W 0 (fun _ => true) true 41 (.slice a len cap) d p) : ∃ A : Nat → AddV, AddsAt W a len A := by
  obtain ⟨fuel, hf⟩ := h
  rcases Go.Deep.open_slice Tryd.underlying41 hf with ⟨hcs, _⟩ | ⟨x, l, c, m, n, D, Pl, hcs, _, hl, hm, hmm, hd, hcell⟩
  · simp [Value.cells] at hcs
    obtain ⟨rfl, rfl, rfl⟩ := hcs
    exact ⟨fun _ => ⟨(0, []), 0, 0⟩, by omega, fun h => absurd h (by omega)⟩
  · simp [Value.cells] at hcs
    obtain ⟨rfl, rfl, rfl⟩ := hcs
    have hlm : len ≤ m := by rw [hmm]; split <;> omega
    rw [cells_add] at hcell
    by_cases h0 : len = 0
    · exact ⟨fun _ => ⟨(0, []), 0, 0⟩, by omega, fun h => absurd h (by omega)⟩
    obtain ⟨b, off, spot⟩ := x
    have hspot : spot = none := by
      obtain ⟨cs', h1, _⟩ := hcell 0 (by omega)
      obtain ⟨_, hlen, hc⟩ := World.cells?_some h1
      have := hc 0 (by omega)
      have hs : cs'[0]? = some cs'[0] := List.getElem?_eq_getElem (by omega)
      rw [hs] at this
      simpa [Addr.add] using World.cell?_spot this
    subst hspot
    have hplain : ∀ k, (⟨b, off, none⟩ : Addr).add k = ⟨b, off + k, none⟩ := fun k => by unfold Addr.add; split <;> simp_all
    have hplain2 : ∀ k j, ((⟨b, off, none⟩ : Addr).add k).add j = ⟨b, off + k + j, none⟩ := fun k j => by rw [Go.Deep.add_add, hplain, Nat.add_assoc]
    have each : ∀ i, i < len → ∃ q : AddV, AddC W b (off + i * 4) q := by
      intro i hi
      obtain ⟨cs', h1, h2⟩ := hcell i (by omega)
      obtain ⟨_, hlen, hc⟩ := World.cells?_some h1
      obtain ⟨xs, k, hk, _, _, hxl, hff⟩ := DataW.trod_struct Tryd.underlying48 h2
      match xs, hxl, cs', hlen with
      | [y0, y1, y2], _, [v0, v1, v2, v3], _ =>
        have g0 := hff 0 _ rfl
        have g1 := hff 1 _ rfl
        have g2 := hff 2 _ rfl
        simp [cells_one, cells_rec] at g0 g1 g2
        obtain ⟨zs, k2, hk2, _, _, hzl, hff2⟩ := DataW.trod_struct Tryd.underlying24 g0
        match zs, hzl with
        | [x0, x1], _ =>
          have q0 := hff2 0 _ rfl
          have q1 := hff2 1 _ rfl
          simp [cells_one] at q0 q1
          have c : ∀ j, j < 4 → W.cell? ⟨b, off + i * 4 + j, none⟩ = [v0, v1, v2, v3][j]? := fun j hj => by rw [← hplain2]; exact hc j hj
          obtain ⟨z2, e2, _, w2⟩ := DataW.trod_int Tryd.underlying3 g1
          obtain ⟨z3, e3, _, w3⟩ := DataW.trod_int Tryd.underlying3 g2
          simp at e2 e3
          subst e2 e3
          obtain ⟨r, hr⟩ := recc_of (c 0 (by decide)) (c 1 (by decide)) q0 q1
          exact ⟨⟨r, z2, z3⟩, ⟨hr, c 2 (by decide), c 3 (by decide), i64_in w2⟩⟩
    obtain ⟨A, hA⟩ := Go.Deep.choose_lt (α := AddV) (p := fun i q => AddC W b (off + i * 4) q) each
    exact ⟨A, by unfold maxLen at hm; omega, fun _ => ⟨b, off, rfl, hA⟩⟩
end Go.Proofs.YtomhfnaekjmjnaaDoor
