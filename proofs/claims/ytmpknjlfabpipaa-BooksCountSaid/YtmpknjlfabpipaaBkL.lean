/- Acts of the law that come in as arguments; arrays of five ints compared (layer 14). No condition. -/
import Derived.Test.YtmpknjlfabpipaaBkI
import Derived.Test.YtmpknjlfabpipaaBkK
import Derived.Test.YtmpknjlfabpipaaMask
import Derived.Deep.Slices
import Derived.WideShapes
import Derived.ChangeArms
import Derived.ChangeKeysEq
namespace Go.Proofs.Ytmpknjlfabpipaa
set_option linter.unusedVariables false
open Go.ChangeShapes Go.WideShapes Go.RowKit Go.Deep

namespace B14
def i64R (x : Int) : Prop := -9223372036854775808 ≤ x ∧ x ≤ 9223372036854775807
theorem fields_at {P : Program} {fs : Array Field} {l : List (Nat × Nat × TypeId)} (h : fs.toList.map (fun f => (f.offset, P.cellsOf f.type, f.type)) = l) {i o c : Nat} {t : TypeId} (hi : l[i]? = some (o, c, t)) : ∃ f, fs[i]? = some f ∧ f.offset = o ∧ P.cellsOf f.type = c ∧ f.type = t := by
  rw [← h, List.getElem?_map] at hi
  cases hf : fs.toList[i]? with
  | none => rw [hf] at hi; cases hi
  | some f =>
    rw [hf] at hi
    injection hi with hi
    injection hi with h1 h2
    injection h2 with h2 h3
    exact ⟨f, by simpa using hf, h1, h2, h3⟩
theorem trod_field {H : Type} {enc : TypeId × Value → H} {P : Program} {w : World} {base : Nat} {spare : Nat → Bool} {held : Bool} {fuel : Nat} {t : TypeId} {cs : List Value} {x : DataW H × List MemPlace} {fs : Array Field} (hs : P.underlying t = some (.struct fs)) (h : DataW.trod enc P w base spare held fuel t cs = some x)
    {l : List (Nat × Nat × TypeId)} (hl : fs.toList.map (fun f => (f.offset, P.cellsOf f.type, f.type)) = l) {i o c : Nat} {u : TypeId} (hi : l[i]? = some (o, c, u)) : ∃ n y, DataW.trod enc P w base spare held n u ((cs.drop o).take c) = some y := by
  obtain ⟨xs, n, _, _, _, hlen, hfs⟩ := DataW.trod_struct hs h
  obtain ⟨f, hf, rfl, rfl, rfl⟩ := fields_at hl hi
  have hlt : i < xs.length := by rw [hlen]; exact (Array.getElem?_eq_some_iff.1 hf).1
  exact ⟨n, xs[i], (hfs i f hf).trans (List.getElem?_eq_getElem hlt)⟩
theorem sAct : Try.prog.underlying 24 = some (.struct (Try.prog.fieldsOf 24)) := by kernel_rfl
theorem fAct : (Try.prog.fieldsOf 24).toList.map (fun f => (f.offset, Try.prog.cellsOf f.type, f.type)) = [(0, 1, 3), (1, 1, 3), (2, 1, 3), (3, 1, 22), (4, 1, 22)] := by kernel_rfl
theorem cellsAct : Try.prog.cellsOf 24 = 5 := by kernel_rfl
set_option maxRecDepth 10000 in
theorem five {H : Type} {enc : TypeId × Value → H} {W : World} {base : Nat} {spare : Nat → Bool} {held : Bool} {fuel : Nat} {l : List Value} {x : DataW H × List MemPlace} (hsz : l.length = 5)
    (hf : DataW.trod enc Try.prog W base spare held fuel 24 l = some x) : ∃ k u t n y : Int, i64R u ∧ i64R t ∧ i64R n ∧ i64R y ∧ l = [.int .i64 k, .int .i64 u, .int .i64 t, .int .i64 n, .int .i64 y] := by
  match l, hsz with
  | [c0, c1, c2, c3, c4], _ =>
    obtain ⟨n0, y0, h0⟩ := trod_field sAct hf fAct (i := 0) rfl
    obtain ⟨n1, y1, h1⟩ := trod_field sAct hf fAct (i := 1) rfl
    obtain ⟨n2, y2, h2⟩ := trod_field sAct hf fAct (i := 2) rfl
    obtain ⟨n3, y3, h3⟩ := trod_field sAct hf fAct (i := 3) rfl
    obtain ⟨n4, y4, h4⟩ := trod_field sAct hf fAct (i := 4) rfl
    obtain ⟨a0, e0, _, _⟩ := DataW.trod_int Try.underlying3 h0
    obtain ⟨a1, e1, _, w1⟩ := DataW.trod_int Try.underlying3 h1
    obtain ⟨a2, e2, _, w2⟩ := DataW.trod_int Try.underlying3 h2
    obtain ⟨a3, e3, _, w3⟩ := DataW.trod_int Try.underlying22 h3
    obtain ⟨a4, e4, _, w4⟩ := DataW.trod_int Try.underlying22 h4
    have f0 : c0 = .int .i64 a0 := by simpa using e0
    have f1 : c1 = .int .i64 a1 := by simpa using e1
    have f2 : c2 = .int .i64 a2 := by simpa using e2
    have f3 : c3 = .int .i64 a3 := by simpa using e3
    have f4 : c4 = .int .i64 a4 := by simpa using e4
    subst f0 f1 f2 f3 f4
    refine ⟨_, _, _, _, _, ?_, ?_, ?_, ?_, rfl⟩
    · unfold i64R; simpa [Lit.wf, IntKind.min, IntKind.max, IntKind.signed, IntKind.bits] using w1
    · unfold i64R; simpa [Lit.wf, IntKind.min, IntKind.max, IntKind.signed, IntKind.bits] using w2
    · unfold i64R; simpa [Lit.wf, IntKind.min, IntKind.max, IntKind.signed, IntKind.bits] using w3
    · unfold i64R; simpa [Lit.wf, IntKind.min, IntKind.max, IntKind.signed, IntKind.bits] using w4
set_option maxRecDepth 10000 in
theorem act_open {H : Type} {enc : TypeId × Value → H} {W : World} {base b0 : Nat} {spare : Nat → Bool} {held : Bool} {r : Reach} {v : Value} {d : DataW H} {p : List MemPlace}
    (hv : Value.okWide Try.prog W r b0 24 v) (h : DataW.Trod enc Try.prog W base spare held 24 v d p) :
    ∃ k u t n y : Int, v = .agg #[.int .i64 k, .int .i64 u, .int .i64 t, .int .i64 n, .int .i64 y] := by
  obtain ⟨cs, rfl, hsz⟩ := okWide_struct sAct hv
  rw [cellsAct] at hsz
  obtain ⟨fuel, hf⟩ := h
  have hcs : (Value.agg cs).cells.toList = cs.toList := rfl
  rw [hcs] at hf
  obtain ⟨l, rfl⟩ : ∃ l : List Value, cs = l.toArray := ⟨cs.toList, by simp⟩
  obtain ⟨k, u, t, n, y, _, _, _, _, e⟩ := five (by simpa using hsz) hf
  have e2 : l = [.int .i64 k, .int .i64 u, .int .i64 t, .int .i64 n, .int .i64 y] := e
  exact ⟨k, u, t, n, y, congrArg (fun l => Value.agg l.toArray) e2⟩
/-- an act: its kind, the user, what, when, how much -/
structure ActB where
  kind : Int
  u : Int
  t : Int
  n : Int
  y : Int
structure ActB.Cells (w : World) (b o : Nat) (a : ActB) : Prop where
  c0 : w.cell? ⟨b, o, none⟩ = some (.int .i64 a.kind)
  c1 : w.cell? ⟨b, o + 1, none⟩ = some (.int .i64 a.u)
  c2 : w.cell? ⟨b, o + 2, none⟩ = some (.int .i64 a.t)
  c3 : w.cell? ⟨b, o + 3, none⟩ = some (.int .i64 a.n)
  c4 : w.cell? ⟨b, o + 4, none⟩ = some (.int .i64 a.y)
  u64 : i64R a.u
  t64 : i64R a.t
  n64 : i64R a.n
  y64 : i64R a.y
def ActsB (w : World) (ad : Option Addr) (len : Nat) (A : Nat → ActB) : Prop := len ≤ 9223372036854775807 ∧ (0 < len → ∃ b off, ad = some ⟨b, off, none⟩ ∧ ∀ k, k < len → ActB.Cells w b (off + k * 5) (A k))
instance : Inhabited ActB := ⟨⟨0, 0, 0, 0, 0⟩⟩
set_option maxRecDepth 10000 in
theorem acts_open {H : Type} {enc : TypeId × Value → H} {W : World} {a : Option Addr} {len cap : Nat} {d : DataW H} {p : List MemPlace}
    (h : DataW.Trod enc Try.prog W 0 (fun _ => true) true 48 (.slice a len cap) d p) : ∃ A : Nat → ActB, ActsB W a len A ∧ len ≤ cap := by
  obtain ⟨fuel, hf⟩ := h
  rcases Go.Deep.open_slice Try.underlying48 hf with ⟨hcs, _⟩ | ⟨x, l, c, m, n, D, Pl, hcs, _, hl, hm, hmm, hd, hcell⟩
  · simp [Value.cells] at hcs
    obtain ⟨rfl, rfl, rfl⟩ := hcs
    exact ⟨fun _ => ⟨0, 0, 0, 0, 0⟩, ⟨by omega, fun h => absurd h (by omega)⟩, Nat.le_refl _⟩
  · simp [Value.cells] at hcs
    obtain ⟨rfl, rfl, rfl⟩ := hcs
    have hlm : len ≤ m := by rw [hmm]; split <;> omega
    rw [cellsAct] at hcell
    by_cases h0 : len = 0
    · exact ⟨fun _ => ⟨0, 0, 0, 0, 0⟩, ⟨by omega, fun h => absurd h (by omega)⟩, hl⟩
    obtain ⟨b, off, spot⟩ := x
    have hspot : spot = none := by
      obtain ⟨cs', h1, _⟩ := hcell 0 (by omega)
      obtain ⟨_, hlen, hc⟩ := World.cells?_some h1
      have := hc 0 (by omega)
      have hs : cs'[0]? = some cs'[0] := List.getElem?_eq_getElem (by omega)
      rw [hs] at this
      simpa [Addr.add] using World.cell?_spot this
    subst hspot
    have hplain : ∀ k, (⟨b, off, none⟩ : Addr).add k = ⟨b, off + k, none⟩ := fun k => by unfold Addr.add; split <;> simp_all
    have hplain2 : ∀ k j, ((⟨b, off, none⟩ : Addr).add k).add j = ⟨b, off + k + j, none⟩ := fun k j => by rw [Go.Deep.add_add, hplain, Nat.add_assoc]
    have each : ∀ i, i < len → ∃ q : ActB, ActB.Cells W b (off + i * 5) q := by
      intro i hi
      obtain ⟨cs', h1, h2⟩ := hcell i (by omega)
      obtain ⟨_, hlen, hc⟩ := World.cells?_some h1
      obtain ⟨k, u, t, n, y, b1, b2, b3, b4, rfl⟩ := five hlen h2
      have c : ∀ j, j < 5 → W.cell? ⟨b, off + i * 5 + j, none⟩ = [Value.int .i64 k, .int .i64 u, .int .i64 t, .int .i64 n, .int .i64 y][j]? := fun j hj => by rw [← hplain2]; exact hc j hj
      exact ⟨⟨k, u, t, n, y⟩, { c0 := c 0 (by decide), c1 := c 1 (by decide), c2 := c 2 (by decide), c3 := c 3 (by decide), c4 := c 4 (by decide), u64 := b1, t64 := b2, n64 := b3, y64 := b4 }⟩
    obtain ⟨A, hA⟩ := Go.Deep.choose_lt (α := ActB) (p := fun i q => ActB.Cells W b (off + i * 5) q) each
    exact ⟨A, ⟨by unfold maxLen at hm; omega, fun _ => ⟨b, off, rfl, hA⟩⟩, hl⟩
end B14
theorem mask_15 (x : Int) : bits .and .i64 x 15 = x % 16 := mask_i64 x 4 16 rfl (by decide) (by decide) (by decide)
theorem part_int {l : List Int} {j : Nat} (hj : j < l.length) (w : World) : (part 3 (l.map (Value.int .i64)).toArray (j * 1)).run Try.prog w = .ok (.int .i64 (l.getD j 0)) w := by
  simp [part, isAgg, run_underlying Try.underlying3, List.getD, List.getElem?_eq_getElem hj]
theorem eqItems_same (l : List Int) (w : World) : ∀ is : List Nat, (∀ i ∈ is, i < l.length) → (Op.eqItems 9999 3 1 (l.map (Value.int .i64)).toArray (l.map (Value.int .i64)).toArray is).run Try.prog w = .ok true w
  | [], _ => by simp [Op.eqItems]
  | i :: is, h => by
    have ih := eqItems_same l w is fun j hj => h j (List.mem_cons_of_mem _ hj)
    have hp := part_int (h i List.mem_cons_self) w
    simp only [Op.eqItems, Sem.run_bind, hp, Result.andThen_ok, run_equalIn_int w 9998 _ _ _ _ _ Try.underlying3]
    simpa using ih
theorem eqin5 (a b c d e : Int) (w : World) : (Op.equalIn 10000 29 (.agg #[.int .i64 a, .int .i64 b, .int .i64 c, .int .i64 d, .int .i64 e]) (.agg #[.int .i64 a, .int .i64 b, .int .i64 c, .int .i64 d, .int .i64 e])).run Try.prog w = .ok true w := by
  have hc : Try.prog.cellsOf 3 = 1 := by kernel_rfl
  obtain ⟨i, hi⟩ : ∃ i, Try.prog.info? 3 = some i := Option.isSome_iff_exists.1 (by kernel_rfl)
  refine (run_equalIn_array w 9999 _ _ Try.underlying29 hi).trans ?_
  rw [hc]
  exact eqItems_same [a, b, c, d, e] w (List.range 5) (fun i hi => by have := List.mem_range.1 hi; simpa using this)
end Go.Proofs.Ytmpknjlfabpipaa
