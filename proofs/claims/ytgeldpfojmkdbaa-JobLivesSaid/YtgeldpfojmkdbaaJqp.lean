/- A job that comes in as an argument, and a row of acts (layer 15). No condition. -/
import Derived.Test.YtgeldpfojmkdbaaJg
import Derived.Lib.SmallJoins
import Derived.Deep.Slices
import Derived.WideShapes
namespace Go.Proofs.Ytgeldpfojmkdbaa
set_option linter.unusedVariables false
open Go.ChangeShapes Go.WideShapes Go.RowKit Go.Deep
structure ActV where
  kind : Int
  now : Int
  nodes : NSet
  n : Int
structure ActV.Ok (a : ActV) : Prop where
  now : -9223372036854775808 ≤ a.now ∧ a.now ≤ 9223372036854775807
  n : -9223372036854775808 ≤ a.n ∧ a.n ≤ 9223372036854775807
def actC (a : ActV) : List Value := [.int .i64 a.kind, .int .i64 a.now, .int .u64 (nv a.nodes), .int .i64 a.n]
/-- a struct whose fields are one cell each, field by field -/
theorem open_flat {H : Type} {enc : TypeId × Value → H} {P : Program} {w : World} {base b0 : Nat} {spare : Nat → Bool} {held : Bool} {r : Reach} {t : TypeId} {fs : Array Field} {v : Value} {d : DataW H} {p : List MemPlace} (hs : P.underlying t = some (.struct fs)) (hone : oneCellFields P fs = true)
    (hv : Value.okWide P w r b0 t v) (h : DataW.Trod enc P w base spare held t v d p) :
    ∃ cs : Array Value, v = .agg cs ∧ cs.size = P.cellsOf t ∧ ∀ (i : Nat) (f : Field), fs[i]? = some f → i < cs.size → ∃ (n : Nat) (c : Value) (y : DataW H × List MemPlace), cs[i]? = some c ∧ DataW.trod enc P w base spare held n f.type [c] = some y := by
  obtain ⟨cs, rfl, hsz⟩ := okWide_struct hs hv
  obtain ⟨fuel, hf⟩ := h
  obtain ⟨xs, n, _, _, hl, hlen, hfs⟩ := DataW.trod_struct hs hf
  refine ⟨cs, rfl, hsz, fun i f hi hlt => ?_⟩
  obtain ⟨o, k⟩ := hone_of hone i f hi
  have hif : i < fs.size := (Array.getElem?_eq_some_iff.1 hi).1
  have hx := hfs i f hi
  rw [o, k, List.getElem?_eq_getElem (by omega)] at hx
  refine ⟨n, cs[i], xs[i], Array.getElem?_eq_getElem hlt, ?_⟩
  rw [← hx]
  congr 1
  have : (Value.agg cs).cells.toList = cs.toList := rfl
  rw [this, List.drop_eq_getElem_cons (by simpa using hlt), List.take_succ_cons, List.take_zero]
  simp
theorem fldsJ : ∃ fs : Array Field, Try.prog.underlying 26 = some (.struct fs) ∧ oneCellFields Try.prog fs = true ∧ fs.toList.map (fun f => Try.prog.underlying f.type) = [some (TypeDesc.int .i64), some (TypeDesc.int .i64), some (TypeDesc.int .i64), some (TypeDesc.int .i64), some (TypeDesc.int .i64), some (TypeDesc.int .i64), some (TypeDesc.int .i64), some .bool, some (TypeDesc.int .i64), some (TypeDesc.int .i64), some (TypeDesc.int .i64), some (TypeDesc.int .i64), some (TypeDesc.int .i64), some (TypeDesc.int .u64), some (TypeDesc.int .u64), some (TypeDesc.int .i64), some (TypeDesc.int .i64)] ∧ fs.size = 17 :=
  ⟨Try.prog.fieldsOf 26, by kernel_rfl, by kernel_rfl, by kernel_rfl, by kernel_rfl⟩
theorem cellsJ : Try.prog.cellsOf 26 = 17 := by kernel_rfl
set_option maxRecDepth 10000 in
theorem job_open {H : Type} {enc : TypeId × Value → H} {W : World} {base b0 : Nat} {spare : Nat → Bool} {held : Bool} {r : Reach} {v : Value} {d : DataW H} {p : List MemPlace}
    (hv : Value.okWide Try.prog W r b0 26 v) (h : DataW.Trod enc Try.prog W base spare held 26 v d p) : ∃ j : JobV, j.Ok ∧ v = .agg (jobC j).toArray := by
  obtain ⟨fs, hS, hone, htyp, hfz⟩ := fldsJ
  obtain ⟨cs, rfl, hsz, hall⟩ := open_flat (P := Try.prog) (t := 26) (fs := fs) (w := W) (v := v) (d := d) (p := p) (r := r) (b0 := b0) hS hone hv h
  rw [cellsJ] at hsz
  have hty : ∀ i : Nat, i < 17 → ∃ f, fs[i]? = some f ∧ some (Try.prog.underlying f.type) = ([some (TypeDesc.int .i64), some (TypeDesc.int .i64), some (TypeDesc.int .i64), some (TypeDesc.int .i64), some (TypeDesc.int .i64), some (TypeDesc.int .i64), some (TypeDesc.int .i64), some .bool, some (TypeDesc.int .i64), some (TypeDesc.int .i64), some (TypeDesc.int .i64), some (TypeDesc.int .i64), some (TypeDesc.int .i64), some (TypeDesc.int .u64), some (TypeDesc.int .u64), some (TypeDesc.int .i64), some (TypeDesc.int .i64)] : List (Option TypeDesc))[i]? := by
    intro i hi
    refine ⟨fs[i]'(by rw [hfz]; exact hi), Array.getElem?_eq_getElem _, ?_⟩
    rw [← htyp]
    simp [hfz, hi]
  have hint : ∀ i : Nat, i < 17 → ([some (TypeDesc.int .i64), some (TypeDesc.int .i64), some (TypeDesc.int .i64), some (TypeDesc.int .i64), some (TypeDesc.int .i64), some (TypeDesc.int .i64), some (TypeDesc.int .i64), some .bool, some (TypeDesc.int .i64), some (TypeDesc.int .i64), some (TypeDesc.int .i64), some (TypeDesc.int .i64), some (TypeDesc.int .i64), some (TypeDesc.int .u64), some (TypeDesc.int .u64), some (TypeDesc.int .i64), some (TypeDesc.int .i64)] : List (Option TypeDesc))[i]? = some (some (TypeDesc.int .i64)) → ∃ n : Int, cs[i]? = some (.int .i64 n) ∧ -9223372036854775808 ≤ n ∧ n ≤ 9223372036854775807 := by
    intro i hi he
    obtain ⟨f, hf, ht⟩ := hty i hi
    obtain ⟨n, c, y, hc, hy⟩ := hall i f hf (by omega)
    rw [he] at ht
    obtain ⟨a, ha, _, hw⟩ := DataW.trod_int (Option.some.inj ht) hy
    obtain rfl : c = .int .i64 a := by simpa using ha
    exact ⟨a, hc, by simpa [Lit.wf, IntKind.min, IntKind.max, IntKind.signed, IntKind.bits] using hw⟩
  have hset : ∀ i : Nat, i < 17 → ([some (TypeDesc.int .i64), some (TypeDesc.int .i64), some (TypeDesc.int .i64), some (TypeDesc.int .i64), some (TypeDesc.int .i64), some (TypeDesc.int .i64), some (TypeDesc.int .i64), some .bool, some (TypeDesc.int .i64), some (TypeDesc.int .i64), some (TypeDesc.int .i64), some (TypeDesc.int .i64), some (TypeDesc.int .i64), some (TypeDesc.int .u64), some (TypeDesc.int .u64), some (TypeDesc.int .i64), some (TypeDesc.int .i64)] : List (Option TypeDesc))[i]? = some (some (TypeDesc.int .u64)) → ∃ n : NSet, cs[i]? = some (.int .u64 (nv n)) := by
    intro i hi he
    obtain ⟨f, hf, ht⟩ := hty i hi
    obtain ⟨n, c, y, hc, hy⟩ := hall i f hf (by omega)
    rw [he] at ht
    obtain ⟨a, ha, _, hw⟩ := DataW.trod_int (Option.some.inj ht) hy
    obtain rfl : c = .int .u64 a := by simpa using ha
    have hb : 0 ≤ a ∧ a ≤ 18446744073709551615 := by simpa [Lit.wf, IntKind.min, IntKind.max, IntKind.signed, IntKind.bits] using hw
    obtain ⟨x, hx⟩ := nv_of a hb.1 hb.2
    exact ⟨x, by rw [hx]; exact hc⟩
  have hbool : ∃ b : Bool, cs[7]? = some (.bool b) := by
    obtain ⟨f, hf, ht⟩ := hty 7 (by omega)
    obtain ⟨n, c, y, hc, hy⟩ := hall 7 f hf (by omega)
    obtain ⟨b, hb, _⟩ := DataW.trod_bool (Option.some.inj ht) hy
    obtain rfl : c = .bool b := by simpa using hb
    exact ⟨b, hc⟩
  obtain ⟨b, h7⟩ := hbool
  obtain ⟨x0, h0, l0⟩ := hint 0 (by decide) rfl
  obtain ⟨x1, h1, l1⟩ := hint 1 (by decide) rfl
  obtain ⟨x2, h2, l2⟩ := hint 2 (by decide) rfl
  obtain ⟨x3, h3, l3⟩ := hint 3 (by decide) rfl
  obtain ⟨x4, h4, l4⟩ := hint 4 (by decide) rfl
  obtain ⟨x5, h5, l5⟩ := hint 5 (by decide) rfl
  obtain ⟨x6, h6, l6⟩ := hint 6 (by decide) rfl
  obtain ⟨x8, h8, l8⟩ := hint 8 (by decide) rfl
  obtain ⟨x9, h9, l9⟩ := hint 9 (by decide) rfl
  obtain ⟨x10, h10, l10⟩ := hint 10 (by decide) rfl
  obtain ⟨x11, h11, l11⟩ := hint 11 (by decide) rfl
  obtain ⟨x12, h12, l12⟩ := hint 12 (by decide) rfl
  obtain ⟨x15, h15, l15⟩ := hint 15 (by decide) rfl
  obtain ⟨x16, h16, l16⟩ := hint 16 (by decide) rfl
  obtain ⟨x13, h13⟩ := hset 13 (by decide) rfl
  obtain ⟨x14, h14⟩ := hset 14 (by decide) rfl
  refine ⟨⟨x0, x1, x2, x3, x4, x5, x6, b, x8, x9, x10, x11, x12, x13, x14, x15, x16⟩, ⟨?_⟩, ?_⟩
  · unfold JobV.ints
    simp only [List.mem_cons, List.not_mem_nil, or_false, forall_eq_or_imp, forall_eq]
    exact ⟨l0, l1, l2, l3, l4, l5, l6, l8, l9, l10, l11, l12, l15, l16⟩
  · congr 1
    apply Array.ext_getElem?
    intro i
    by_cases hi : i < 17
    · rcases (show i = 0 ∨ i = 1 ∨ i = 2 ∨ i = 3 ∨ i = 4 ∨ i = 5 ∨ i = 6 ∨ i = 7 ∨ i = 8 ∨ i = 9 ∨ i = 10 ∨ i = 11 ∨ i = 12 ∨ i = 13 ∨ i = 14 ∨ i = 15 ∨ i = 16 by omega) with rfl | rfl | rfl | rfl | rfl | rfl | rfl | rfl | rfl | rfl | rfl | rfl | rfl | rfl | rfl | rfl | rfl
      · exact h0
      · exact h1
      · exact h2
      · exact h3
      · exact h4
      · exact h5
      · exact h6
      · exact h7
      · exact h8
      · exact h9
      · exact h10
      · exact h11
      · exact h12
      · exact h13
      · exact h14
      · exact h15
      · exact h16
    · rw [Array.getElem?_eq_none (by omega), Array.getElem?_eq_none (by simp [jobC]; omega)]
/-- an act where it lies -/
structure ActCells (w : World) (b o : Nat) (a : ActV) : Prop where
  c0 : w.cell? ⟨b, o, none⟩ = some (.int .i64 a.kind)
  c1 : w.cell? ⟨b, o + 1, none⟩ = some (.int .i64 a.now)
  c2 : w.cell? ⟨b, o + 2, none⟩ = some (.int .u64 (nv a.nodes))
  c3 : w.cell? ⟨b, o + 3, none⟩ = some (.int .i64 a.n)
  ok : a.Ok
def ActsAt (w : World) (ad : Option Addr) (len : Nat) (A : Nat → ActV) : Prop := len ≤ 9223372036854775807 ∧ (0 < len → ∃ b off, ad = some ⟨b, off, none⟩ ∧ ∀ k, k < len → ActCells w b (off + k * 4) (A k))
theorem cells_act : Try.prog.cellsOf 32 = 4 := by kernel_rfl
instance : Inhabited ActV := ⟨⟨0, 0, 0#64, 0⟩⟩
set_option maxRecDepth 10000 in
theorem acts_open {H : Type} {enc : TypeId × Value → H} {W : World} {a : Option Addr} {len cap : Nat} {d : DataW H} {p : List MemPlace}
    (h : DataW.Trod enc Try.prog W 0 (fun _ => true) true 27 (.slice a len cap) d p) : ∃ A : Nat → ActV, ActsAt W a len A ∧ len ≤ cap := by
  obtain ⟨fuel, hf⟩ := h
  rcases Go.Deep.open_slice Try.underlying27 hf with ⟨hcs, _⟩ | ⟨x, l, c, m, n, D, Pl, hcs, _, hl, hm, hmm, hd, hcell⟩
  · simp [Value.cells] at hcs
    obtain ⟨rfl, rfl, rfl⟩ := hcs
    exact ⟨fun _ => ⟨0, 0, 0#64, 0⟩, ⟨by omega, fun h => absurd h (by omega)⟩, Nat.le_refl _⟩
  · simp [Value.cells] at hcs
    obtain ⟨rfl, rfl, rfl⟩ := hcs
    have hlm : len ≤ m := by rw [hmm]; split <;> omega
    rw [cells_act] at hcell
    by_cases h0 : len = 0
    · exact ⟨fun _ => ⟨0, 0, 0#64, 0⟩, ⟨by omega, fun h => absurd h (by omega)⟩, hl⟩
    obtain ⟨b, off, spot⟩ := x
    have hspot : spot = none := by
      obtain ⟨cs', h1, _⟩ := hcell 0 (by omega)
      obtain ⟨_, hlen, hc⟩ := World.cells?_some h1
      have := hc 0 (by omega)
      have hs : cs'[0]? = some cs'[0] := List.getElem?_eq_getElem (by omega)
      rw [hs] at this
      simpa [Addr.add] using World.cell?_spot this
    subst hspot
    have hplain : ∀ k, (⟨b, off, none⟩ : Addr).add k = ⟨b, off + k, none⟩ := fun k => by unfold Addr.add; split <;> simp_all
    have hplain2 : ∀ k j, ((⟨b, off, none⟩ : Addr).add k).add j = ⟨b, off + k + j, none⟩ := fun k j => by rw [Go.Deep.add_add, hplain, Nat.add_assoc]
    have each : ∀ i, i < len → ∃ q : ActV, ActCells W b (off + i * 4) q := by
      intro i hi
      obtain ⟨cs', h1, h2⟩ := hcell i (by omega)
      obtain ⟨_, hlen, hc⟩ := World.cells?_some h1
      obtain ⟨xs, k, hk, _, _, hxl, hff⟩ := DataW.trod_struct Try.underlying32 h2
      match xs, hxl, cs', hlen with
      | [y0, y1, y2, y3], _, [v0, v1, v2, v3], _ =>
        have g0 := hff 0 _ rfl
        have g1 := hff 1 _ rfl
        have g2 := hff 2 _ rfl
        have g3 := hff 3 _ rfl
        have q1 : Try.prog.cellsOf 3 = 1 := by kernel_rfl
        have q2 : Try.prog.cellsOf 22 = 1 := by kernel_rfl
        have q3 : Try.prog.cellsOf 24 = 1 := by kernel_rfl
        simp [q1, q2, q3] at g0 g1 g2 g3
        obtain ⟨z0, e0, _⟩ := DataW.trod_int Try.underlying3 g0
        obtain ⟨z1, e1, _, w1⟩ := DataW.trod_int Try.underlying22 g1
        obtain ⟨z2, e2, _, w2⟩ := DataW.trod_int Try.underlying24 g2
        obtain ⟨z3, e3, _, w3⟩ := DataW.trod_int Try.underlying3 g3
        simp at e0 e1 e2 e3
        subst e0 e1 e2 e3
        have b1 : -9223372036854775808 ≤ z1 ∧ z1 ≤ 9223372036854775807 := by simpa [Lit.wf, IntKind.min, IntKind.max, IntKind.signed, IntKind.bits] using w1
        have b2 : 0 ≤ z2 ∧ z2 ≤ 18446744073709551615 := by simpa [Lit.wf, IntKind.min, IntKind.max, IntKind.signed, IntKind.bits] using w2
        have b3 : -9223372036854775808 ≤ z3 ∧ z3 ≤ 9223372036854775807 := by simpa [Lit.wf, IntKind.min, IntKind.max, IntKind.signed, IntKind.bits] using w3
        obtain ⟨x2, rfl⟩ := nv_of z2 b2.1 b2.2
        have c : ∀ j, j < 4 → W.cell? ⟨b, off + i * 4 + j, none⟩ = [Value.int .i64 z0, .int .i64 z1, .int .u64 (nv x2), .int .i64 z3][j]? := fun j hj => by rw [← hplain2]; exact hc j hj
        exact ⟨⟨z0, z1, x2, z3⟩, { c0 := c 0 (by decide), c1 := c 1 (by decide), c2 := c 2 (by decide), c3 := c 3 (by decide), ok := ⟨b1, b3⟩ }⟩
    obtain ⟨A, hA⟩ := Go.Deep.choose_lt (α := ActV) (p := fun i q => ActCells W b (off + i * 4) q) each
    exact ⟨A, ⟨by unfold maxLen at hm; omega, fun _ => ⟨b, off, rfl, hA⟩⟩, hl⟩
end Go.Proofs.Ytgeldpfojmkdbaa
