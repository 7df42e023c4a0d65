/- Laws that belong together: Levels (layer 10): an act that comes in as an argument. No condition.; Levels (layer 10): a row of acts that comes in as an argument. No condition.; Levels (layer 10): Play of no acts; UsageBack walked (under way).; Levels (layer 10), plainly: what adding to a span's levels leaves (for UsageBack). No condition but that the steps are right and the levels small.; Levels (layer 10), plainly: areas of small levels (for UsageAreas). No condition but that the steps are right and the levels small.; Levels (layer 10), the document's: what was done to levels in memory; At, Add, Set, Forget. Condition: at most 2^32 changes.; Levels (layer 10): those that steps lead to have the document's level at each time, plainly. Conditions: the steps are right.; Levels (layer 10), the document's: Add, Set. Condition: at most 2^32 changes.; Levels (layer 10), the document's, plainly: the times at which levels may turn, the steps that they tell. No condition but that the steps are right.; Room (layer 11), plainly: the spans of all times from one on from which a width is free for so many times. No condition but that the steps are right.; Room (layer 11): Fits, Widest, levels. Conditions: the lengths' bounds.; Room (layer 11): an Ask that comes in as an argument. No condition. -/
import Derived.Test.YthdljigcfhjikaaMag
import Derived.Deep.Slices
import Derived.WideShapes
import Derived.ChangeArms
import Derived.Test.YthdljigcfhjikaaMAppTwo
namespace Go.Proofs.Ythdljigcfhjikaa
set_option linter.unusedVariables false
open Go.ChangeShapes Go.WideShapes Go.RowKit Go.Deep

theorem fields_at {P : Program} {fs : Array Field} {l : List (Nat × Nat × TypeId)} (h : fs.toList.map (fun f => (f.offset, P.cellsOf f.type, f.type)) = l) {i o c : Nat} {t : TypeId} (hi : l[i]? = some (o, c, t)) : ∃ f, fs[i]? = some f ∧ f.offset = o ∧ P.cellsOf f.type = c ∧ f.type = t := by
  rw [← h, List.getElem?_map] at hi
  cases hf : fs.toList[i]? with
  | none => rw [hf] at hi; cases hi
  | some f =>
    rw [hf] at hi
    injection hi with hi
    injection hi with h1 h2
    injection h2 with h2 h3
    exact ⟨f, by simpa using hf, h1, h2, h3⟩
/-- the part of a struct that a field is, as the reading of the struct tells it -/
theorem trod_field {H : Type} {enc : TypeId × Value → H} {P : Program} {w : World} {base : Nat} {spare : Nat → Bool} {held : Bool} {fuel : Nat} {t : TypeId} {cs : List Value} {x : DataW H × List MemPlace} {fs : Array Field} (hs : P.underlying t = some (.struct fs)) (h : DataW.trod enc P w base spare held fuel t cs = some x)
    {l : List (Nat × Nat × TypeId)} (hl : fs.toList.map (fun f => (f.offset, P.cellsOf f.type, f.type)) = l) {i o c : Nat} {u : TypeId} (hi : l[i]? = some (o, c, u)) : ∃ n y, DataW.trod enc P w base spare held n u ((cs.drop o).take c) = some y := by
  obtain ⟨xs, n, _, _, _, hlen, hfs⟩ := DataW.trod_struct hs h
  obtain ⟨f, hf, rfl, rfl, rfl⟩ := fields_at hl hi
  have hlt : i < xs.length := by rw [hlen]; exact (Array.getElem?_eq_some_iff.1 hf).1
  exact ⟨n, xs[i], (hfs i f hf).trans (List.getElem?_eq_getElem hlt)⟩
theorem sAct : Try.prog.underlying 49 = some (.struct (Try.prog.fieldsOf 49)) := by kernel_rfl
theorem fAct : (Try.prog.fieldsOf 49).toList.map (fun f => (f.offset, Try.prog.cellsOf f.type, f.type)) = [(0, 1, 3), (1, 2, 25), (3, 1, 3)] := by kernel_rfl
theorem sSpan : Try.prog.underlying 25 = some (.struct (Try.prog.fieldsOf 25)) := by kernel_rfl
theorem fSpan : (Try.prog.fieldsOf 25).toList.map (fun f => (f.offset, Try.prog.cellsOf f.type, f.type)) = [(0, 1, 23), (1, 1, 23)] := by kernel_rfl
theorem cellsAct10 : Try.prog.cellsOf 49 = 4 := by kernel_rfl
set_option maxRecDepth 10000 in
theorem act10_open {H : Type} {enc : TypeId × Value → H} {W : World} {base b0 : Nat} {spare : Nat → Bool} {held : Bool} {r : Reach} {v : Value} {d : DataW H} {p : List MemPlace}
    (hv : Value.okWide Try.prog W r b0 49 v) (h : DataW.Trod enc Try.prog W base spare held 49 v d p) :
    ∃ k f t n : Int, v = .agg #[.int .i64 k, .int .i64 f, .int .i64 t, .int .i64 n] := by
  obtain ⟨cs, rfl, hsz⟩ := okWide_struct sAct hv
  rw [cellsAct10] at hsz
  obtain ⟨fuel, hf⟩ := h
  have hcs : (Value.agg cs).cells.toList = cs.toList := rfl
  rw [hcs] at hf
  obtain ⟨l, rfl⟩ : ∃ l : List Value, cs = l.toArray := ⟨cs.toList, by simp⟩
  match l, hsz with
  | [c0, c1, c2, c3], _ =>
    obtain ⟨n0, y0, h0⟩ := trod_field sAct hf fAct (i := 0) rfl
    obtain ⟨n1, y1, h1⟩ := trod_field sAct hf fAct (i := 1) rfl
    obtain ⟨n2, y2, h2⟩ := trod_field sAct hf fAct (i := 2) rfl
    obtain ⟨n3, y3, h3⟩ := trod_field sSpan h1 fSpan (i := 0) rfl
    obtain ⟨n4, y4, h4⟩ := trod_field sSpan h1 fSpan (i := 1) rfl
    obtain ⟨a0, e0, _, _⟩ := DataW.trod_int Try.underlying3 h0
    obtain ⟨a2, e2, _, _⟩ := DataW.trod_int Try.underlying3 h2
    obtain ⟨a3, e3, _, _⟩ := DataW.trod_int Try.underlying23 h3
    obtain ⟨a4, e4, _, _⟩ := DataW.trod_int Try.underlying23 h4
    have f0 : c0 = .int .i64 a0 := by simpa using e0
    have f2 : c3 = .int .i64 a2 := by simpa using e2
    have f3 : c1 = .int .i64 a3 := by simpa using e3
    have f4 : c2 = .int .i64 a4 := by simpa using e4
    subst f0 f2 f3 f4
    exact ⟨_, _, _, _, rfl⟩
end Go.Proofs.Ythdljigcfhjikaa
namespace Go.Proofs.Ythdljigcfhjikaa
set_option linter.unusedVariables false
open Go.ChangeShapes Go.WideShapes Go.RowKit Go.Deep

/-- an act: what it is, the span, how much -/
structure ActU where
  kind : Int
  fr : Int
  to_ : Int
  n : Int
structure ActU.Cells (w : World) (b o : Nat) (a : ActU) : Prop where
  c0 : w.cell? ⟨b, o, none⟩ = some (.int .i64 a.kind)
  c1 : w.cell? ⟨b, o + 1, none⟩ = some (.int .i64 a.fr)
  c2 : w.cell? ⟨b, o + 2, none⟩ = some (.int .i64 a.to_)
  c3 : w.cell? ⟨b, o + 3, none⟩ = some (.int .i64 a.n)
  n64 : -9223372036854775808 ≤ a.n ∧ a.n ≤ 9223372036854775807
  f64 : -9223372036854775808 ≤ a.fr ∧ a.fr ≤ 9223372036854775807
  t64 : -9223372036854775808 ≤ a.to_ ∧ a.to_ ≤ 9223372036854775807
def ActsU (w : World) (ad : Option Addr) (len : Nat) (A : Nat → ActU) : Prop := len ≤ 9223372036854775807 ∧ (0 < len → ∃ b off, ad = some ⟨b, off, none⟩ ∧ ∀ k, k < len → ActU.Cells w b (off + k * 4) (A k))
instance : Inhabited ActU := ⟨⟨0, 0, 0, 0⟩⟩
set_option maxRecDepth 10000 in
theorem actsU_open {H : Type} {enc : TypeId × Value → H} {W : World} {a : Option Addr} {len cap : Nat} {d : DataW H} {p : List MemPlace}
    (h : DataW.Trod enc Try.prog W 0 (fun _ => true) true 22 (.slice a len cap) d p) : ∃ A : Nat → ActU, ActsU W a len A ∧ len ≤ cap := by
  obtain ⟨fuel, hf⟩ := h
  rcases Go.Deep.open_slice Try.underlying22 hf with ⟨hcs, _⟩ | ⟨x, l, c, m, n, D, Pl, hcs, _, hl, hm, hmm, hd, hcell⟩
  · simp [Value.cells] at hcs
    obtain ⟨rfl, rfl, rfl⟩ := hcs
    exact ⟨fun _ => ⟨0, 0, 0, 0⟩, ⟨by omega, fun h => absurd h (by omega)⟩, Nat.le_refl _⟩
  · simp [Value.cells] at hcs
    obtain ⟨rfl, rfl, rfl⟩ := hcs
    have hlm : len ≤ m := by rw [hmm]; split <;> omega
    rw [cellsAct10] at hcell
    by_cases h0 : len = 0
    · exact ⟨fun _ => ⟨0, 0, 0, 0⟩, ⟨by omega, fun h => absurd h (by omega)⟩, hl⟩
    obtain ⟨b, off, spot⟩ := x
    have hspot : spot = none := by
      obtain ⟨cs', h1, _⟩ := hcell 0 (by omega)
      obtain ⟨_, hlen, hc⟩ := World.cells?_some h1
      have := hc 0 (by omega)
      have hs : cs'[0]? = some cs'[0] := List.getElem?_eq_getElem (by omega)
      rw [hs] at this
      simpa [Addr.add] using World.cell?_spot this
    subst hspot
    have hplain : ∀ k, (⟨b, off, none⟩ : Addr).add k = ⟨b, off + k, none⟩ := fun k => by unfold Addr.add; split <;> simp_all
    have hplain2 : ∀ k j, ((⟨b, off, none⟩ : Addr).add k).add j = ⟨b, off + k + j, none⟩ := fun k j => by rw [Go.Deep.add_add, hplain, Nat.add_assoc]
    have each : ∀ i, i < len → ∃ q : ActU, ActU.Cells W b (off + i * 4) q := by
      intro i hi
      obtain ⟨cs', h1, h2⟩ := hcell i (by omega)
      obtain ⟨_, hlen, hc⟩ := World.cells?_some h1
      match cs', hlen with
      | [v0, v1, v2, v3], _ =>
        obtain ⟨n0, y0, g0⟩ := trod_field sAct h2 fAct (i := 0) rfl
        obtain ⟨n1, y1, g1⟩ := trod_field sAct h2 fAct (i := 1) rfl
        obtain ⟨n2, y2, g2⟩ := trod_field sAct h2 fAct (i := 2) rfl
        obtain ⟨n3, y3, g3⟩ := trod_field sSpan g1 fSpan (i := 0) rfl
        obtain ⟨n4, y4, g4⟩ := trod_field sSpan g1 fSpan (i := 1) rfl
        obtain ⟨a0, e0, _, _⟩ := DataW.trod_int Try.underlying3 g0
        obtain ⟨a2, e2, _, w2⟩ := DataW.trod_int Try.underlying3 g2
        obtain ⟨a3, e3, _, w3⟩ := DataW.trod_int Try.underlying23 g3
        obtain ⟨a4, e4, _, w4⟩ := DataW.trod_int Try.underlying23 g4
        have f0 : v0 = .int .i64 a0 := by simpa using e0
        have f2 : v3 = .int .i64 a2 := by simpa using e2
        have f3 : v1 = .int .i64 a3 := by simpa using e3
        have f4 : v2 = .int .i64 a4 := by simpa using e4
        subst f0 f2 f3 f4
        have b2 : -9223372036854775808 ≤ a2 ∧ a2 ≤ 9223372036854775807 := by simpa [Lit.wf, IntKind.min, IntKind.max, IntKind.signed, IntKind.bits] using w2
        have b3 : -9223372036854775808 ≤ a3 ∧ a3 ≤ 9223372036854775807 := by simpa [Lit.wf, IntKind.min, IntKind.max, IntKind.signed, IntKind.bits] using w3
        have b4 : -9223372036854775808 ≤ a4 ∧ a4 ≤ 9223372036854775807 := by simpa [Lit.wf, IntKind.min, IntKind.max, IntKind.signed, IntKind.bits] using w4
        have c : ∀ j, j < 4 → W.cell? ⟨b, off + i * 4 + j, none⟩ = [Value.int .i64 a0, .int .i64 a3, .int .i64 a4, .int .i64 a2][j]? := fun j hj => by rw [← hplain2]; exact hc j hj
        exact ⟨⟨a0, a3, a4, a2⟩, { c0 := c 0 (by decide), c1 := c 1 (by decide), c2 := c 2 (by decide), c3 := c 3 (by decide), n64 := b2, f64 := b3, t64 := b4 }⟩
    obtain ⟨A, hA⟩ := Go.Deep.choose_lt (α := ActU) (p := fun i q => ActU.Cells W b (off + i * 4) q) each
    exact ⟨A, ⟨by unfold maxLen at hm; omega, fun _ => ⟨b, off, rfl, hA⟩⟩, hl⟩
end Go.Proofs.Ythdljigcfhjikaa
namespace Go.Proofs.Ythdljigcfhjikaa
set_option linter.unusedVariables false
open Go.ChangeShapes Go.WideShapes Go.ChangeAt Go.RowKit
attribute [local go_sem ↓] Go.wp_at_zero Go.wp_at_succ comesTo_value_eq comesTo_skip_eq comesTo_enter_eq

theorem flat_low (n : Int) (w : World) : Calls Try.prog 32 #[.int .i64 n] w fun e w' => ∃ S, e = .returned (.pointer (some ⟨S, 0, none⟩)) ∧ w.heap.size ≤ S ∧ S < w'.heap.size ∧ (∀ W', (∀ k, w.heap.size ≤ k → k < w'.heap.size → W'.heap[k]? = w'.heap[k]?) → w'.heap.size ≤ W'.heap.size → USt W' S [(0, boundU n)]) ∧ Below w.heap.size w w' := by
  have KB := Lib.hid (bound_any n w)
  generalize boundU n = b at *
  go_enter Try.func32, Try.ntmps32
  go_wp2_with (go_at_call 67; ((with_reducible refine KB.out.mono ?_)); rintro e w' ⟨rfl, rfl⟩)
  have hb1 := below_alloc (Below.refl _ w) (.cells #[.int .i64 0, .int .i64 b] 60)
  have hb2 := below_alloc (Below.refl _ (w.alloc (.cells #[.int .i64 0, .int .i64 b] 60))) (.cells #[.slice (some ⟨w.heap.size, 0, none⟩) 1 1] 63)
  have n1 := (hb2.block w.heap.size (by simp)).trans (World.alloc_heap_new w (.cells #[.int .i64 0, .int .i64 b] 60))
  have n2 := World.alloc_heap_new (w.alloc (.cells #[.int .i64 0, .int .i64 b] 60)) (.cells #[.slice (some ⟨w.heap.size, 0, none⟩) 1 1] 63)
  have hs1 : (w.alloc (.cells #[.int .i64 0, .int .i64 b] 60)).heap.size = w.heap.size + 1 := by simp
  rw [hs1] at n2
  go_ret
  have l1 := (Array.getElem?_eq_some_iff.1 n1).1
  have l2 := (Array.getElem?_eq_some_iff.1 n2).1
  refine ⟨w.heap.size + 1, rfl, by omega, l2, fun W' hW hsz => ⟨⟨w.heap.size, 1, by omega, (hW _ (by omega) l2).trans n2, by simp, Nat.lt_of_lt_of_le l1 hsz, fun k hk => ?_⟩, by simp, by simp⟩, below_next hb1 hb2⟩
  obtain rfl : k = 0 := by simpa using hk
  exact ⟨cell_of_block (o := 0) ((hW _ (Nat.le_refl _) l1).trans n1) rfl, cell_of_block (o := 1) ((hW _ (Nat.le_refl _) l1).trans n1) rfl⟩
set_option maxRecDepth 100000 in
set_option maxHeartbeats 2000000 in
theorem play_nil (w : World) : Calls Try.prog 12 #[.int .i64 0, .slice none 0 0, .int .i64 0] w fun e w' => ∃ S, e = .returned (.tuple #[.pointer (some ⟨S, 0, none⟩), .agg #[.int .i64 0, .slice none 0 0]]) ∧ w.heap.size ≤ S ∧ USt w' S [(0, 0)] ∧ Below w.heap.size w w' := by
  have hmx : Try.prog.follows .mixedOrders = true := by kernel_rfl
  have KF := Lib.hid (fun W => (show Calls Try.prog 32 #[.int .i64 0] W fun e w' => ∃ S, e = .returned (.pointer (some ⟨S, 0, none⟩)) ∧ W.heap.size ≤ S ∧ S < w'.heap.size ∧ (∀ W', (∀ k, W.heap.size ≤ k → k < w'.heap.size → W'.heap[k]? = w'.heap[k]?) → w'.heap.size ≤ W'.heap.size → USt W' S [(0, 0)]) ∧ Below W.heap.size W w' from flat_low 0 W))
  have hb0 := below_alloc (Below.refl _ w) (.cells #[.int .i64 0, .slice none 0 0] 29)
  have n0 := World.alloc_heap_new w (.cells #[.int .i64 0, .slice none 0 0] 29)
  go_enter Try.func12, Try.ntmps12
  go_upto_region 1 with fail
  generalize w.alloc (.cells #[.int .i64 0, .slice none 0 0] 29) = W0 at *
  go_wp2_with fail
  refine (KF.out _).mono ?_
  rintro e W1 ⟨S, rfl, hS, hSl, hu, hb1⟩
  have n1 := (hb1.block _ (Array.getElem?_eq_some_iff.1 n0).1).trans n0
  have hs1 := (Array.getElem?_eq_some_iff.1 n1).1
  have hb2 := below_alloc (Below.refl _ W1) (.cells #[.int .i64 0, .slice none 0 0] 29)
  have n2 := World.alloc_heap_new W1 (.cells #[.int .i64 0, .slice none 0 0] 29)
  have n1' := (hb2.block _ hs1).trans n1
  have hw0 := (Array.getElem?_eq_some_iff.1 n0).1
  have HU := Lib.hid (show ∀ W', (∀ k, W0.heap.size ≤ k → k < W1.heap.size → W'.heap[k]? = (W1.alloc (.cells #[.int .i64 0, .slice none 0 0] 29)).heap[k]?) → W1.heap.size ≤ W'.heap.size → USt W' S [(0, 0)] from fun W' h1 h2 => hu W' (fun k k1 k2 => (h1 k k1 k2).trans (hb2.block k k2)) h2)
  have hs2 : W1.heap.size < (W1.alloc (.cells #[.int .i64 0, .slice none 0 0] 29)).heap.size := by simp
  have HB := Lib.hid (below_next (below_next hb0 hb1) hb2)
  have hS0 := hb0.size
  clear hu hb0 hb1 hb2 n0 n1
  go_upto_region 3 with fail
  generalize W1.alloc (.cells #[.int .i64 0, .slice none 0 0] 29) = W2 at *
  go_wp2_with fail
  go_loopw [10] (fun i wr => i = .int .i64 0 ∧ wr = W2) (fun _ _ => 0)
  case atStart => exact ⟨rfl, rfl⟩
  case round =>
    obtain ⟨rfl, rfl⟩ := hrel
    go_upto_region 18 with fail
    have c0 := cell_of_block (o := 0) n2 rfl
    have c1 := cell_of_block (o := 1) n2 rfl
    have d0 := cell_of_block (o := 0) n1' rfl
    have d1 := cell_of_block (o := 1) n1' rfl
    have f0 := free_of_block 0 n1'
    have f1 := free_of_block 1 n1'
    have hw := ((wrote_refl n1').set 0 (.int .i64 0)).set 1 (.slice none 0 0)
    have hbw := (hw.below HB.out (Nat.le_refl _)).drew
    have HX := Lib.hid (show USt ((wr.setCell ⟨w.heap.size, 0, none⟩ (.int .i64 0)).setCell ⟨w.heap.size, 1, none⟩ (.slice none 0 0)).drew S [(0, 0)] ∧ Below w.heap.size w ((wr.setCell ⟨w.heap.size, 0, none⟩ (.int .i64 0)).setCell ⟨w.heap.size, 1, none⟩ (.slice none 0 0)).drew from ⟨HU.out _ (fun k k1 k2 => hw.rest k (by omega)) (by show _ ≤ ((wr.setCell ⟨w.heap.size, 0, none⟩ (.int .i64 0)).setCell ⟨w.heap.size, 1, none⟩ (.slice none 0 0)).heap.size; rw [hw.size]; exact Nat.le_of_lt hs2), hbw⟩)
    have HC := Lib.hid (show ((wr.setCell ⟨w.heap.size, 0, none⟩ (.int .i64 0)).setCell ⟨w.heap.size, 1, none⟩ (.slice none 0 0)).drew.heap[w.heap.size]? = _ from hw.there)
    clear hw hbw
    go_region
    generalize ((wr.setCell ⟨w.heap.size, 0, none⟩ (.int .i64 0)).setCell ⟨w.heap.size, 1, none⟩ (.slice none 0 0)).drew = V at *
    have e0 := cell_of_block (o := 0) HC.out rfl
    have e1 := cell_of_block (o := 1) HC.out rfl
    clear c0 c1 d0 d1 f0 f1
    go_wp2_with fail
    exact bodyPost_ret (v := .tuple #[.pointer (some ⟨S, 0, none⟩), .agg #[.int .i64 0, .slice none 0 0]]) (by simp [results, Try.results12, go_sem]; try go_simp) rfl ⟨S, rfl, by omega, HX.out.1, HX.out.2⟩
end Go.Proofs.Ythdljigcfhjikaa
namespace Go.Proofs.Ythdljigcfhjikaa
set_option linter.unusedVariables false
open Go.ChangeShapes Go.WideShapes Go.ChangeAt Go.RowKit
theorem tmod_small (n : Int) : -999 ≤ n.tmod 1000 ∧ n.tmod 1000 ≤ 999 := by
  by_cases h : 0 ≤ n
  · have h1 := Int.tmod_lt_of_pos n (show (0 : Int) < 1000 by decide)
    have h2 := Int.tmod_nonneg 1000 h
    omega
  · have h1 := Int.tmod_lt_of_pos (-n) (show (0 : Int) < 1000 by decide)
    have h2 := Int.tmod_nonneg 1000 (show 0 ≤ -n by omega)
    rw [Int.neg_tmod] at h1 h2
    omega
theorem add_small {a n : Int} (ha : -900000 ≤ a ∧ a ≤ 900000) (hn : -99999 ≤ n ∧ n ≤ 99999) : addF (byU n) a = a + n := by
  have h1 : byU n = n := by unfold byU; rw [if_neg (by omega), if_neg (by omega)]
  have h2 : IntKind.i64.wrap (a + n) = a + n := by rw [IntKind.wrap_i64]; omega
  unfold addF
  rw [h1, h2]
  unfold boundU
  repeat (first | rfl | omega | split)
/-- B is L, but in the span by n more -/
def MoreU (L B : List (Int × Int)) (f t n : Int) : Prop := ∀ x, 0 ≤ x → x < 1099511627776 → lvl 0 B x = if clampI f < clampI t ∧ f ≤ x ∧ x < t then lvl 0 L x + n else lvl 0 L x
theorem clamp_facts (n : Int) : (n < 0 ∧ clampI n = 0) ∨ (0 ≤ n ∧ n ≤ 1099511627776 ∧ clampI n = n) ∨ (1099511627776 < n ∧ clampI n = 1099511627776) := by
  unfold clampI
  by_cases h : n < 0
  · exact .inl ⟨h, if_pos h⟩
  · by_cases h' : 1099511627776 < n
    · exact .inr (.inr ⟨h', by rw [if_neg h, if_pos h']⟩)
    · exact .inr (.inl ⟨by omega, by omega, by rw [if_neg h, if_neg h']⟩)
theorem more_ahead {L B : List (Int × Int)} (hL : RightU L) (hB : RightU B) {f t n : Int} (h : MoreU L B f t n) (he : clampI f < clampI t) (hf : 0 < f) : atU B (subI f 1) = atU L (subI f 1) := by
  rw [at_spec hB, at_spec hL]
  have e1 : clampI 1 = 1 := by decide +kernel
  have hs : subI f 1 = f - 1 := by
    unfold subI
    rw [e1, if_neg (by decide)]
    rcases clamp_facts f with ⟨a, b⟩ | ⟨a, c, b⟩ | ⟨a, b⟩ <;> rcases clamp_facts t with ⟨d, g⟩ | ⟨d, k, g⟩ | ⟨d, g⟩ <;> (try omega)
    all_goals (rw [if_neg (by omega), b]; rcases clamp_facts (f - 1) with ⟨a', b'⟩ | ⟨a', c', b'⟩ | ⟨a', b'⟩ <;> omega)
  rw [hs]
  have hx : 0 ≤ min (clampI (f - 1)) 1099511627775 ∧ min (clampI (f - 1)) 1099511627775 < 1099511627776 := by have := clampI_bounds (f - 1); omega
  rw [h _ hx.1 hx.2, if_neg]
  rcases clamp_facts (f - 1) with ⟨a, b⟩ | ⟨a, c, b⟩ | ⟨a, b⟩ <;> rcases clamp_facts t with ⟨d, g⟩ | ⟨d, k, g⟩ | ⟨d, g⟩ <;> rcases clamp_facts f with ⟨a', b'⟩ | ⟨a', c', b'⟩ | ⟨a', b'⟩ <;> omega
theorem more_behind {L B : List (Int × Int)} (hL : RightU L) (hB : RightU B) {f t n : Int} (h : MoreU L B f t n) (he : clampI f < clampI t) (ht : clampI t < 1099511627776) : atU B (clampI t) = atU L (clampI t) := by
  rw [at_spec hB, at_spec hL, clampI_clampI]
  have hx : 0 ≤ min (clampI t) 1099511627775 ∧ min (clampI t) 1099511627775 < 1099511627776 := by have := clampI_bounds t; omega
  rw [h _ hx.1 hx.2, if_neg]
  rcases clamp_facts t with ⟨d, g⟩ | ⟨d, k, g⟩ | ⟨d, g⟩ <;> rcases clamp_facts f with ⟨a', b'⟩ | ⟨a', c', b'⟩ | ⟨a', b'⟩ <;> omega
theorem more_in {L B : List (Int × Int)} (hL : RightU L) (hB : RightU B) {f t n : Int} (h : MoreU L B f t n) (he : clampI f < clampI t) : atU B f = atU L f + n := by
  rw [at_spec hB, at_spec hL]
  have hx : 0 ≤ min (clampI f) 1099511627775 ∧ min (clampI f) 1099511627775 < 1099511627776 := by have := clampI_bounds f; omega
  rw [h _ hx.1 hx.2, if_pos]
  rcases clamp_facts t with ⟨d, g⟩ | ⟨d, k, g⟩ | ⟨d, g⟩ <;> rcases clamp_facts f with ⟨a', b'⟩ | ⟨a', c', b'⟩ | ⟨a', b'⟩ <;> omega
theorem more_same {L B : List (Int × Int)} (hL : RightU L) (hB : RightU B) {f t n : Int} (h : MoreU L B f t n) : B = L ↔ (n = 0 ∨ ¬ clampI f < clampI t) := by
  constructor
  · intro e
    by_cases he : clampI f < clampI t
    · left
      have := more_in hL hB h he
      rw [e] at this
      omega
    · exact .inr he
  · intro e
    refine right_same_steps hB hL fun x h0 h1 => ?_
    rw [h x h0 h1]
    split
    · rename_i hc
      rcases e with e | e
      · omega
      · exact absurd hc.1 e
    · rfl
theorem more_back {L B : List (Int × Int)} (hL : RightU L) (hB : RightU B) {f t n : Int} (h : MoreU L B f t n) (hs : ∀ x, 0 ≤ x → x < 1099511627776 → -100000 ≤ lvl 0 L x ∧ lvl 0 L x ≤ 100000) (hn : -99999 ≤ n ∧ n ≤ 99999) : changeU (addF (byU (-n))) B (f, t) = L := by
  have hc := change_right hB (addF_in (byU (-n))) f t
  refine right_same_steps hc.1 hL fun x h0 h1 => ?_
  have hx := hs x h0 h1
  rw [hc.2 x h0 h1, h x h0 h1]
  by_cases hi : clampI f < clampI t ∧ f ≤ x ∧ x < t
  · rw [if_pos hi, if_pos hi, add_small (by omega) (by omega)]
    omega
  · rw [if_neg hi, if_neg hi]
theorem at_small {L : List (Int × Int)} (hL : RightU L) {b : Int} (hs : ∀ x, 0 ≤ x → x < 1099511627776 → -b ≤ lvl 0 L x ∧ lvl 0 L x ≤ b) (t : Int) : -b ≤ atU L t ∧ atU L t ≤ b := by
  rw [at_spec hL]
  exact hs _ (by have := clampI_bounds t; omega) (by have := clampI_bounds t; omega)
theorem USt.other {w w' : World} {S M : Nat} {L K : List (Int × Int)} (h : USt w S L) (k : USt w M K) (hn : M ≠ S) (hf : Fr (fun b => b = S) w w') : USt w' M K := by
  obtain ⟨g, c, hg, hS, hc, hs, hr⟩ := k.at_
  obtain ⟨g0, c0, _, hS0, _⟩ := h.at_
  have h0 := cell_of_block (o := 0) hS0 rfl
  have hgS : g ≠ S := by
    rintro rfl
    have := (hr 0 k.pos).1
    rw [show 0 * 2 = 0 by omega, h0] at this
    cases this
  exact ⟨⟨g, c, hg, (hf.block M (Array.getElem?_eq_some_iff.1 hS).1 hn).trans hS, hc, Nat.lt_of_lt_of_le hs hf.size, hr.mono (hf.block g hs hgS)⟩, k.pos, k.len⟩
theorem pow_small {q : Nat} (h : q ≤ 16) : 3 ^ q ≤ 43046721 := Nat.le_trans (Nat.pow_le_pow_right (by decide) h) (by decide)
end Go.Proofs.Ythdljigcfhjikaa
namespace Go.Proofs.Ythdljigcfhjikaa
set_option linter.unusedVariables false
open Go.RowKit
/-- small levels, none below 0 -/
def SmallU (L : List (Int × Int)) (b : Int) : Prop := ∀ x, 0 ≤ x → x < 1099511627776 → 0 ≤ lvl 0 L x ∧ lvl 0 L x ≤ b
theorem area_small {L : List (Int × Int)} (hL : RightU L) (hs : SmallU L 1000) {F T : Int} (h0 : 0 ≤ F ∧ F ≤ 65536) (h1 : 0 ≤ T ∧ T ≤ 65536) : areaU L (F, T) = areaS (lvl 0 L) F T ∧ 0 ≤ areaS (lvl 0 L) F T ∧ areaS (lvl 0 L) F T ≤ 65536000 := by
  rw [area_eq hL, clampI_of h0.1 (by omega), clampI_of h1.1 (by omega)]
  have e : areaS (posL L) F T = areaS (lvl 0 L) F T := by
    unfold areaS
    refine sumS_congr fun x hx hx' => ?_
    have := hs x (by omega) (by omega)
    unfold posL maxU
    rw [if_neg (by omega)]
  have hb := sumS_bd (g := lvl 0 L) (f := F) (B := 1000) (n := (T - F).toNat) fun x hx hx' => hs x (by omega) (by omega)
  have hb' : 0 ≤ areaS (lvl 0 L) F T ∧ areaS (lvl 0 L) F T ≤ 65536000 := by unfold areaS; omega
  rw [e]
  unfold minU
  rw [if_pos (by omega)]
  exact ⟨rfl, hb'⟩
theorem areas_part {L : List (Int × Int)} (hL : RightU L) (hs : SmallU L 1000) {F T c : Int} (h0 : 0 ≤ F ∧ F ≤ 65535) (h1 : 0 ≤ T ∧ T ≤ 65535) (hc : (F ≤ c ∧ c ≤ T) ∨ (T ≤ F ∧ c = F)) : areaU L (F, T) = areaU L (F, c) + areaU L (c, T) := by
  rw [(area_small hL hs (by omega) (by omega)).1, (area_small hL hs (F := F) (T := c) (by omega) (by omega)).1, (area_small hL hs (F := c) (T := T) (by omega) (by omega)).1]
  rcases hc with ⟨a, b⟩ | ⟨a, rfl⟩
  · exact areaS_split _ a b
  · rw [areaS_none _ (Int.le_refl c), Int.zero_add]
theorem areas_more {L B : List (Int × Int)} (hL : RightU L) (hB : RightU B) (hs : SmallU L 100) {F T : Int} (h0 : 0 ≤ F ∧ F ≤ 65535) (h1 : 0 ≤ T ∧ T ≤ 65535) (h : MoreU L B F T 1) : areaU B (F, T) = areaU L (F, T) + lenI (F, T) := by
  have hsB : SmallU B 1000 := fun x a b => by have := hs x a b; rw [h x a b]; split <;> omega
  rw [(area_small hL (fun x a b => by have := hs x a b; omega) (by omega) (by omega)).1, (area_small hB hsB (by omega) (by omega)).1]
  unfold lenI
  simp only
  have e1 := clampI_of h0.1 (by omega)
  have e2 := clampI_of h1.1 (by omega)
  rw [e1, e2]
  by_cases hle : T ≤ F
  · rw [if_pos hle, areaS_none _ hle, areaS_none _ hle]; rfl
  · rw [if_neg hle]
    have es : subI T F = T - F := by
      unfold subI
      rw [e1, e2, if_neg (by omega), if_neg (by omega), clampI_of (by omega) (by omega)]
    rw [es]
    unfold areaS
    rw [sumS_more (g := lvl 0 L) (d := 1) fun x hx hx' => by rw [h x (by omega) (by omega), e1, e2, if_pos (by omega)]]
    omega
/-- what Forget leaves: ahead of the time its level, behind it the same -/
theorem forget_lvl {L : List (Int × Int)} (hL : RightU L) {c : Int} (h0 : 0 ≤ c) (h1 : c < 1099511627776) (x : Int) (hx : 0 ≤ x) (hx' : x < 1099511627776) : lvl 0 (forgetU L c) x = if x < c then lvl 0 L c else lvl 0 L x := by
  have ec := clampI_of h0 (by omega)
  have e0 : clampI 0 = 0 := by decide +kernel
  have ea : atU L c = lvl 0 L c := by rw [at_spec hL, ec, show min c 1099511627775 = c by omega]
  have hb : boundU (lvl 0 L c) = lvl 0 L c := by
    refine boundU_id ?_
    have : ∀ (l : List (Int × Int)) (d : Int), (-1000000 ≤ d ∧ d ≤ 1000000) → (∀ p ∈ l, -1000000 ≤ p.2 ∧ p.2 ≤ 1000000) → -1000000 ≤ lvl d l c ∧ lvl d l c ≤ 1000000 := by
      intro l
      induction l with
      | nil => intro d hd _; exact hd
      | cons p r ih =>
        intro d hd hp
        unfold lvl
        split
        · exact hd
        · exact ih _ (hp p List.mem_cons_self) fun q hq => hp q (List.mem_cons_of_mem _ hq)
    exact this L 0 (by omega) hL.bd
  unfold forgetU
  rw [ec, if_neg (by omega), ea, (change_right hL (fun _ => boundU_in _) 0 c).2 x hx hx', ec, e0, hb]
  by_cases hxc : x < c
  · rw [if_pos ⟨by omega, hx, hxc⟩, if_pos hxc]
  · rw [if_neg (by omega), if_neg hxc]
theorem forget_at {L : List (Int × Int)} (hL : RightU L) {c : Int} (h0 : 0 ≤ c) (h1 : c ≤ 65535) : atU (forgetU L c) 0 = atU L c ∧ atU (forgetU L c) c = atU L c ∧ atU (forgetU L c) (c + 9) = atU L (c + 9) ∧ chooseU maxU (forgetU L c) (0, c + 1) = atU L c := by
  have hR := forget_right hL c
  have e0 : clampI 0 = 0 := by decide +kernel
  have ec := clampI_of h0 (by omega)
  have e9 := clampI_of (show 0 ≤ c + 9 by omega) (by omega)
  have e1 := clampI_of (show 0 ≤ c + 1 by omega) (by omega)
  have hc : ∀ x, 0 ≤ x → x ≤ c → lvl 0 (forgetU L c) x = lvl 0 L c := fun x a b => by
    rw [forget_lvl hL h0 (by omega) x a (by omega)]
    split
    · rfl
    · rw [show x = c by omega]
  have ha : atU L c = lvl 0 L c := by rw [at_spec hL, ec, show min c 1099511627775 = c by omega]
  refine ⟨?_, ?_, ?_, ?_⟩
  · rw [at_spec hR, e0, ha]; exact hc _ (by omega) (by omega)
  · rw [at_spec hR, ec, ha, show min c 1099511627775 = c by omega]; exact hc _ h0 (by omega)
  · rw [at_spec hR, at_spec hL, e9, show min (c + 9) 1099511627775 = c + 9 by omega, forget_lvl hL h0 (by omega) _ (by omega) (by omega), if_neg (by omega)]
  · obtain ⟨⟨x, x0, x1, x2, x3, x4⟩, _⟩ := most_spec hR (f := 0) (t := c + 1) (by rw [e0, e1]; omega)
    rw [← x4, ha]
    exact hc x x0 (by rw [e1] at x3; omega)
end Go.Proofs.Ythdljigcfhjikaa
namespace Go.Proofs.Ythdljigcfhjikaa
set_option linter.unusedVariables false
open Go.ChangeShapes Go.WideShapes Go.ChangeAt Go.RowKit
attribute [local go_sem ↓] Go.wp_at_zero Go.wp_at_succ comesTo_value_eq comesTo_skip_eq comesTo_enter_eq

structure ChgC where
  f : Int
  t : Int
  set : Bool
  n : Int
def chgD : ChgC := ⟨0, 0, false, 0⟩
def chgV (c : ChgC) : List Value := [.int .i64 c.f, .int .i64 c.t, .bool c.set, .int .i64 c.n]
def flatC : List ChgC → List Value
  | [] => []
  | c :: r => .int .i64 c.f :: .int .i64 c.t :: .bool c.set :: .int .i64 c.n :: flatC r
theorem flatC_length : ∀ l, (flatC l).length = l.length * 4
  | [] => rfl
  | p :: r => by simp [flatC, flatC_length r]; omega
theorem flatC_append : ∀ a b, flatC (a ++ b) = flatC a ++ flatC b
  | [], b => rfl
  | p :: r, b => by simp [flatC, flatC_append r b]
theorem flatC_get : ∀ (l : List ChgC) (k : Nat), k < l.length → (flatC l)[k * 4]? = some (.int .i64 (l.getD k chgD).f) ∧ (flatC l)[k * 4 + 1]? = some (.int .i64 (l.getD k chgD).t) ∧ (flatC l)[k * 4 + 2]? = some (.bool (l.getD k chgD).set) ∧ (flatC l)[k * 4 + 3]? = some (.int .i64 (l.getD k chgD).n)
  | [], k, h => by simp at h
  | p :: r, 0, _ => by simp [flatC]
  | p :: r, k + 1, h => by
    have := flatC_get r k (by simpa using h)
    rw [show (k + 1) * 4 = k * 4 + 1 + 1 + 1 + 1 by omega]
    simpa [flatC] using this
theorem flatC_one (l : List ChgC) : ∀ u ∈ flatC l, u.oneCell' = true := by
  induction l with
  | nil => intro u hu; simp [flatC] at hu
  | cons p r ih =>
    intro u hu
    simp only [flatC, List.mem_cons] at hu
    rcases hu with rfl | rfl | rfl | rfl | hu
    · rfl
    · rfl
    · rfl
    · rfl
    · exact ih u hu
/-- a row of changes that may be read -/
def RowC (w : World) (v : Value) (C : List ChgC) : Prop := ∃ ad c, v = .slice ad C.length c ∧ (ad = none → C.length = 0) ∧ ∀ a, ad = some a → ∃ g, a = ⟨g, 0, none⟩ ∧ (0 < C.length → g < w.heap.size ∧ ∀ j u, (flatC C)[j]? = some u → w.cell? ⟨g, j, none⟩ = some u)
theorem RowC.mono {w w' : World} {v : Value} {C : List ChgC} (h : RowC w v C) (hs : w.heap.size ≤ w'.heap.size) (hk : ∀ g, g < w.heap.size → (∀ j u, (flatC C)[j]? = some u → w.cell? ⟨g, j, none⟩ = some u) → 0 < C.length → w'.heap[g]? = w.heap[g]?) : RowC w' v C := by
  obtain ⟨ad, c, rfl, h0, h1⟩ := h
  refine ⟨ad, c, rfl, h0, fun a ha => ?_⟩
  obtain ⟨g, rfl, hg⟩ := h1 a ha
  refine ⟨g, rfl, fun hp => ?_⟩
  obtain ⟨g1, g2⟩ := hg hp
  refine ⟨Nat.lt_of_lt_of_le g1 hs, fun j u hj => ?_⟩
  have := g2 j u hj
  unfold World.cell? at this ⊢
  simp only [hk g g1 g2 hp]
  exact this
theorem RowC.below {w w' : World} {v : Value} {C : List ChgC} (h : RowC w v C) (hb : Below w.heap.size w w') : RowC w' v C := h.mono hb.size fun g hg _ _ => hb.block g hg
theorem RowC.nil (w : World) : RowC w (.slice none 0 0) [] := ⟨none, 0, rfl, fun _ => rfl, fun a h => by cases h⟩
theorem RowC.rd {w : World} {v : Value} {C : List ChgC} (h : RowC w v C) : Ap.RdG w 4 v C.length (flatC C) := by
  obtain ⟨ad, c, rfl, h0, h1⟩ := h
  refine ⟨⟨ad, c, rfl, h0, fun a ha j u hj => ?_, fun a ha hm => ?_⟩, flatC_length C, flatC_one C⟩
  · obtain ⟨g, rfl, hg⟩ := h1 a ha
    have hm : 0 < C.length := by
      rcases Nat.eq_zero_or_pos C.length with e | e
      · rw [List.eq_nil_of_length_eq_zero e] at hj; simp [flatC] at hj
      · exact e
    have hadd : (⟨g, 0, none⟩ : Addr).add j = ⟨g, j, none⟩ := by unfold Addr.add; split <;> simp_all
    rw [hadd]
    exact (hg hm).2 j u hj
  · obtain ⟨g, rfl, hg⟩ := h1 a ha
    exact (hg hm).1
theorem RowC.own {w : World} {B : Nat} {v : Value} {C : List ChgC} (h : w.ownsRow B 100 4 v C.length (flatC C)) : RowC w v C := by
  have hl := flatC_length C
  rcases h.2 with ⟨rfl, h0⟩ | ⟨g, cap, cur, rfl, hB, hg, hc, _⟩
  · exact ⟨none, 0, by rw [h0], fun _ => h0, fun a ha => by cases ha⟩
  · refine ⟨_, cap, rfl, (fun h => by cases h), fun a ha => ⟨g, (Option.some.inj ha).symm, fun hp => ⟨(Array.getElem?_eq_some_iff.1 hg).1, fun j u hj => ?_⟩⟩⟩
    have hlt : j < (flatC C).length := (List.getElem?_eq_some_iff.1 hj).1
    exact (h.cellAt j (by omega)).trans hj
theorem RowC.at {w : World} {v : Value} {C : List ChgC} (h : RowC w v C) {k : Nat} (hk : k < C.length) : ∃ g c, v = .slice (some ⟨g, 0, none⟩) C.length c ∧ g < w.heap.size ∧ w.cell? ⟨g, k * 4, none⟩ = some (.int .i64 (C.getD k chgD).f) ∧ w.cell? ⟨g, k * 4 + 1, none⟩ = some (.int .i64 (C.getD k chgD).t) ∧ w.cell? ⟨g, k * 4 + 2, none⟩ = some (.bool (C.getD k chgD).set) ∧ w.cell? ⟨g, k * 4 + 3, none⟩ = some (.int .i64 (C.getD k chgD).n) := by
  obtain ⟨ad, c, rfl, h0, h1⟩ := h
  cases ad with
  | none => have := h0 rfl; omega
  | some a =>
    obtain ⟨g, rfl, hg⟩ := h1 a rfl
    obtain ⟨g1, g2⟩ := hg (by omega)
    have hf := flatC_get C k hk
    exact ⟨g, c, rfl, g1, g2 _ _ hf.1, g2 _ _ hf.2.1, g2 _ _ hf.2.2.1, g2 _ _ hf.2.2.2⟩
theorem RowC.form {w : World} {v : Value} {C : List ChgC} (h : RowC w v C) : ∃ ad c, v = .slice ad C.length c := by
  obtain ⟨ad, c, e, _⟩ := h
  exact ⟨ad, c, e⟩
/-- one change more, at a time -/
def ratStep (x : Int) (v : Int) (c : ChgC) : Int := if holdsI (c.f, c.t) x then (if c.set then boundU c.n else addF (byU c.n) v) else v
/-- the document's level at a time -/
def ratU (first : Int) (C : List ChgC) (t : Int) : Int := C.foldl (ratStep (if clampI t = 1099511627776 then 1099511627775 else clampI t)) (boundU first)
theorem w64_eq (n : Int) : IntKind.i64.wrap n = wrap64 n := by rw [IntKind.wrap_i64]; unfold wrap64; rfl
theorem rclampU_any (n : Int) (w : World) : Calls Try.prog 56 #[.int .i64 n] w fun e w' => e = .returned (.int .i64 (boundU n)) ∧ w = w' := by
  by_cases h1 : n < -1000000
  · have E : boundU n = -1000000 := by unfold boundU; rw [if_pos h1]
    have h2 : n ≤ 1000000 := by omega
    rw [E]
    go_enter Try.func56, Try.ntmps56
    go_wp2
    all_goals go_ret
    all_goals first | exact ⟨rfl, rfl⟩ | (refine ⟨ret_int ?_, rfl⟩; omega)
  · by_cases h2 : 1000000 < n
    · have E : boundU n = 1000000 := by unfold boundU; rw [if_neg h1, if_pos h2]
      rw [E]
      go_enter Try.func56, Try.ntmps56
      go_wp2
      all_goals go_ret
      all_goals first | exact ⟨rfl, rfl⟩ | (refine ⟨ret_int ?_, rfl⟩; omega)
    · have E : boundU n = n := boundU_id (by omega)
      rw [E]
      go_enter Try.func56, Try.ntmps56
      go_wp2
      all_goals go_ret
      all_goals first | exact ⟨rfl, rfl⟩ | (refine ⟨ret_int ?_, rfl⟩; omega)
theorem rclamp2_any (n : Int) (w : World) : Calls Try.prog 58 #[.int .i64 n] w fun e w' => e = .returned (.int .i64 (byU n)) ∧ w = w' := by
  by_cases h1 : n < -2000000
  · have E : byU n = -2000000 := by unfold byU; rw [if_pos h1]
    rw [E]
    go_enter Try.func58, Try.ntmps58
    go_wp2
    all_goals go_ret
    all_goals first | exact ⟨rfl, rfl⟩ | (refine ⟨ret_int ?_, rfl⟩; omega)
  · by_cases h2 : 2000000 < n
    · have E : byU n = 2000000 := by unfold byU; rw [if_neg h1, if_pos h2]
      rw [E]
      go_enter Try.func58, Try.ntmps58
      go_wp2
      all_goals go_ret
      all_goals first | exact ⟨rfl, rfl⟩ | (refine ⟨ret_int ?_, rfl⟩; omega)
    · have E : byU n = n := by unfold byU; rw [if_neg h1, if_neg h2]
      rw [E]
      go_enter Try.func58, Try.ntmps58
      go_wp2
      all_goals go_ret
      all_goals first | exact ⟨rfl, rfl⟩ | (refine ⟨ret_int ?_, rfl⟩; omega)
theorem fold_take {α : Type} (st : Int → α → Int) (z : Int) (C : List α) (d : α) {k : Nat} (hk : k < C.length) : (C.take (k + 1)).foldl st z = st ((C.take k).foldl st z) (C.getD k d) := by
  rw [List.take_add_one, List.foldl_append, List.getElem?_eq_getElem hk, List.getD_eq_getElem?_getD, List.getElem?_eq_getElem hk]
  rfl
set_option maxRecDepth 100000 in
set_option maxHeartbeats 4000000 in
theorem rat_any {w : World} {v : Value} {C : List ChgC} (h : RowC w v C) (hlen : C.length ≤ 4294967296) (first t : Int) :
    Calls Try.prog 17 #[.agg #[.int .i64 first, v], .int .i64 t] w fun e w' => e = .returned (.int .i64 (ratU first C t)) ∧ Below w.heap.size w w' := by
  obtain ⟨x, hx⟩ : ∃ x, x = (if clampI t = 1099511627776 then 1099511627775 else clampI t) := ⟨_, rfl⟩
  obtain ⟨res, hres⟩ : ∃ r, r = ratU first C t := ⟨_, rfl⟩
  rw [← hres]
  have HR := Lib.hid (show res = C.foldl (ratStep x) (boundU first) by rw [hres, hx]; rfl)
  have HX := Lib.hid hx
  clear hres hx
  obtain ⟨ad, cp, hv⟩ := h.form
  have hb0 := below_alloc (Below.refl _ w) (.cells #[.int .i64 first, v] 29)
  have n0 := World.alloc_heap_new w (.cells #[.int .i64 first, v] 29)
  have H := Lib.hid (fun W (hb : Below w.heap.size w W) => h.below hb)
  have KH := Lib.hid (fun f t x W => rholds_any f t x W)
  clear h
  subst hv
  go_enter Try.func17, Try.ntmps17
  go_upto_region 1 with fail
  generalize w.alloc (.cells #[.int .i64 first, .slice ad C.length cp] 29) = W at *
  have c0 := cell_of_block (o := 0) n0 rfl
  have c1 := cell_of_block (o := 1) n0 rfl
  go_wp2_with fail
  refine (rclamp_any t _).mono ?_
  rintro e w' ⟨rfl, rfl⟩
  go_upto_if 10 with fail
  go_cut [1] (fun s wx => s = .int .i64 x ∧ wx = W)
  case first =>
    by_cases hq : clampI t = 1099511627776
    case pos =>
      have hq1 : (clampI t == 1099511627776) = true := beq_iff_eq.2 hq
      have E := HX.out
      rw [if_pos hq] at E
      subst E
      go_wp2_with fail
      go_meet
      exact ⟨rfl, rfl⟩
    case neg =>
      have hq1 : (clampI t == 1099511627776) = false := beq_eq_false_iff_ne.2 hq
      have E := HX.out
      rw [if_neg hq] at E
      subst E
      go_wp2_with fail
      go_meet
      exact ⟨rfl, rfl⟩
  case rest =>
  obtain ⟨rfl, rfl⟩ := hcut
  clear HX
  go_wp2_with fail
  refine (rclampU_any first _).mono ?_
  rintro e w' ⟨rfl, rfl⟩
  have HN := Lib.hid n0
  have HB := Lib.hid hb0
  clear c0 c1 n0 hb0
  go_wp2_with fail
  go_loopw [5, 6] (fun z i wr => ∃ k : Nat, k ≤ C.length ∧ i = .int .i64 k ∧ z = .int .i64 ((C.take k).foldl (ratStep x) (boundU first)) ∧ Below w.heap.size w wr ∧ wr.heap[w.heap.size]? = some (.cells #[.int .i64 first, .slice ad C.length cp] 29 (0, 0))) (fun _ i _ => C.length - (intOf i).toNat)
  case atStart => exact ⟨0, by omega, rfl, rfl, HB.out, HN.out⟩
  case round =>
    obtain ⟨k, hk, rfl, rfl, hb, hn⟩ := hrel
    have c0 := cell_of_block (o := 0) hn rfl
    have c1 := cell_of_block (o := 1) hn rfl
    have hlt1 := (Array.getElem?_eq_some_iff.1 hn).1
    have HBr := Lib.hid hb
    have HNr := Lib.hid hn
    clear hb hn
    by_cases hlt : k < C.length
    case pos =>
      have hd : decide (k < C.length) = true := decide_eq_true hlt
      obtain ⟨g, cc, e0, hg, q0, q1, q2, q3⟩ := (H.out wr HBr.out).at hlt
      have e1 : ad = some ⟨g, 0, none⟩ := by injection e0
      subst e1
      have HS := Lib.hid (fold_take (ratStep x) (boundU first) C chgD hlt)
      generalize (C.take k).foldl (ratStep x) (boundU first) = z at *
      have hw1 : IntKind.i64.wrap ((k : Int) + 1) = ((k + 1 : Nat) : Int) := by rw [IntKind.wrap_i64]; omega
      have hix : (k : Int) < (C.length : Int) := by omega
      generalize C.getD k chgD = c at *
      obtain ⟨cf, ct, cs, cn⟩ := c
      simp only at q0 q1 q2 q3
      go_wp2_with fail
      refine (KH.out cf ct x _).mono ?_
      rintro e w2 ⟨rfl, hb2⟩
      have HB2 := Lib.hid (below_next HBr.out hb2)
      have n2 := (hb2.block _ hlt1).trans HNr.out
      have HN2 := Lib.hid n2
      have c0 := cell_of_block (o := 0) n2 rfl
      have c1 := cell_of_block (o := 1) n2 rfl
      have q2 := (hb2.cell (p := ⟨g, k * 4 + 2, none⟩) hg).trans q2
      have q3 := (hb2.cell (p := ⟨g, k * 4 + 3, none⟩) hg).trans q3
      clear hb2 n2 q0 q1
      cases hh : holdsI (cf, ct) x with
      | false =>
        have HV := Lib.hid (show ratStep x z ⟨cf, ct, cs, cn⟩ = z by unfold ratStep; simp only; rw [hh]; rfl)
        go_wp2_with fail
        exact ⟨⟨k + 1, by omega, rfl, by rw [HS.out, HV.out], HB2.out, HN2.out⟩, by show C.length - (((k + 1 : Nat) : Int)).toNat < C.length - ((k : Int)).toNat; omega⟩
      | true =>
        cases cs with
        | true =>
          have HV := Lib.hid (show ratStep x z ⟨cf, ct, true, cn⟩ = boundU cn by unfold ratStep; simp only; rw [hh]; rfl)
          go_wp2_with fail
          refine (rclampU_any cn _).mono ?_
          rintro e w' ⟨rfl, rfl⟩
          go_wp2_with fail
          exact ⟨⟨k + 1, by omega, rfl, by rw [HS.out, HV.out], HB2.out, HN2.out⟩, by show C.length - (((k + 1 : Nat) : Int)).toNat < C.length - ((k : Int)).toNat; omega⟩
        | false =>
          have HV := Lib.hid (show ratStep x z ⟨cf, ct, false, cn⟩ = boundU (wrap64 (z + byU cn)) by unfold ratStep addF; simp only; rw [hh, w64_eq]; simp)
          go_wp2_with fail
          refine (rclamp2_any cn _).mono ?_
          rintro e w' ⟨rfl, rfl⟩
          go_wp2_with fail
          refine (rclampU_any _ _).mono ?_
          rintro e w' ⟨rfl, rfl⟩
          go_wp2_with fail
          exact ⟨⟨k + 1, by omega, rfl, by rw [HS.out, HV.out], HB2.out, HN2.out⟩, by show C.length - (((k + 1 : Nat) : Int)).toNat < C.length - ((k : Int)).toNat; omega⟩
    case neg =>
      have hd : decide (k < C.length) = false := decide_eq_false hlt
      obtain rfl : k = C.length := by omega
      have HE := Lib.hid (show (C.take C.length).foldl (ratStep x) (boundU first) = res by rw [HR.out, List.take_length])
      rw [HE.out]
      go_wp2_with fail
      go_ret
      exact ⟨rfl, HBr.out⟩
theorem info_chg : (Try.prog.info? 100).map (fun i => (i.zero, i.size, i.bytes)) = some (some (.agg #[.int .i64 0, .int .i64 0, .bool false, .int .i64 0]), 4, 32) := by kernel_rfl
theorem eltC : Ap.Elt Try.prog 27 100 4 32 :=
  ⟨Try.underlying27, by obtain ⟨i, h1, h2, h3, h4⟩ := info_parts3 info_chg; exact ⟨i, _, h1, h2, h3, h4, rfl⟩, by decide⟩
theorem RowC.keep {w w' : World} {v x y : Value} {C : List ChgC} {B : Nat} {T : TypeId} (h : RowC w v C) (hB : w.heap[B]? = some (.cells #[x, y] T (0, 0))) (hy : (∃ a n c, y = .slice a n c) ∨ ∃ a n c, x = .slice a n c) (hs : w.heap.size ≤ w'.heap.size) (hk : ∀ g, g < w.heap.size → g ≠ B → w'.heap[g]? = w.heap[g]?) : RowC w' v C := by
  refine h.mono hs fun g hg hc hp => hk g hg ?_
  rintro rfl
  have hf := flatC_get C 0 hp
  have h0 := hc _ _ hf.1
  have h1 := hc _ _ hf.2.1
  have e0 := cell_of_block (o := 0) hB rfl
  have e1 := cell_of_block (o := 1) hB rfl
  rw [show 0 * 4 = 0 by omega] at h0
  rw [show 0 * 4 + 1 = 1 by omega] at h1
  rcases hy with ⟨a, n, c, rfl⟩ | ⟨a, n, c, rfl⟩
  · rw [h1] at e1; cases e1
  · rw [h0] at e0; cases e0
theorem RowC.keep1 {w w' : World} {v x : Value} {C : List ChgC} {B : Nat} {T : TypeId} (h : RowC w v C) (hB : w.heap[B]? = some (.cells #[x] T (0, 0))) (hy : ∃ a n c, x = .slice a n c) (hs : w.heap.size ≤ w'.heap.size) (hk : ∀ g, g < w.heap.size → g ≠ B → w'.heap[g]? = w.heap[g]?) : RowC w' v C := by
  refine h.mono hs fun g hg hc hp => hk g hg ?_
  rintro rfl
  have hf := flatC_get C 0 hp
  have h0 := hc _ _ hf.1
  have e0 := cell_of_block (o := 0) hB rfl
  rw [show 0 * 4 = 0 by omega] at h0
  obtain ⟨a, n, c, rfl⟩ := hy
  rw [h0] at e0; cases e0
end Go.Proofs.Ythdljigcfhjikaa
namespace Go.Proofs.Ythdljigcfhjikaa
set_option linter.unusedVariables false
open Go.ChangeShapes Go.WideShapes Go.ChangeAt Go.RowKit
/-- the document's levels -/
def LikeU (first : Int) (L : List (Int × Int)) (C : List ChgC) : Prop := ∀ x, 0 ≤ x → x < 1099511627776 → lvl 0 L x = C.foldl (ratStep x) (boundU first)
theorem holdsI_iff {f t x : Int} (h0 : 0 ≤ x) (h1 : x < 1099511627776) : holdsI (f, t) x = true ↔ (clampI f < clampI t ∧ f ≤ x ∧ x < t) := by
  unfold holdsI
  simp only
  rw [clampI_of h0 (by omega), Bool.and_eq_true, decide_eq_true_eq, decide_eq_true_eq]
  rcases clamp_facts f with ⟨a, b⟩ | ⟨a, c, b⟩ | ⟨a, b⟩ <;> rcases clamp_facts t with ⟨a', b'⟩ | ⟨a', c', b'⟩ | ⟨a', b'⟩ <;> rw [b, b'] <;> omega
theorem ratStep_iff (x v : Int) (c : ChgC) (h0 : 0 ≤ x) (h1 : x < 1099511627776) : ratStep x v c = if clampI c.f < clampI c.t ∧ c.f ≤ x ∧ x < c.t then (if c.set then boundU c.n else addF (byU c.n) v) else v := by
  unfold ratStep
  by_cases h : clampI c.f < clampI c.t ∧ c.f ≤ x ∧ x < c.t
  · rw [if_pos h, (holdsI_iff h0 h1).2 h]; rfl
  · rw [if_neg h]
    have : holdsI (c.f, c.t) x = false := by
      rw [Bool.eq_false_iff]
      exact fun hh => h ((holdsI_iff h0 h1).1 hh)
    rw [this]; rfl
theorem like_flat (first : Int) : LikeU first [(0, boundU first)] [] := fun x h0 _ => by
  simp only [lvl, List.foldl_nil]
  rw [if_neg (by omega)]
theorem like_add {first : Int} {L : List (Int × Int)} {C : List ChgC} (h : LikeU first L C) (hr : RightU L) (f t n : Int) : LikeU first (changeU (addF (byU n)) L (f, t)) (C ++ [⟨f, t, false, n⟩]) := fun x h0 h1 => by
  rw [(change_right hr (addF_in (byU n)) f t).2 x h0 h1, List.foldl_append, List.foldl_cons, List.foldl_nil, ratStep_iff _ _ _ h0 h1, h x h0 h1]
  simp
theorem like_set {first : Int} {L : List (Int × Int)} {C : List ChgC} (h : LikeU first L C) (hr : RightU L) (f t n : Int) : LikeU first (changeU (fun _ => boundU n) L (f, t)) (C ++ [⟨f, t, true, n⟩]) := fun x h0 h1 => by
  rw [(change_right hr (fun _ => boundU_in n) f t).2 x h0 h1, List.foldl_append, List.foldl_cons, List.foldl_nil, ratStep_iff _ _ _ h0 h1, h x h0 h1]
  simp
/-- what the document's Forget makes of the changes -/
def rforgetU (first : Int) (C : List ChgC) (t : Int) : List ChgC := if t ≥ 1099511627776 then C else C ++ [⟨0, t, true, ratU first C t⟩]
theorem like_at {first : Int} {L : List (Int × Int)} {C : List ChgC} (h : LikeU first L C) (hr : RightU L) (t : Int) : atU L t = ratU first C t := by
  have hb := clampI_bounds t
  rw [at_spec hr, h _ (by omega) (by omega)]
  unfold ratU
  by_cases e : clampI t = 1099511627776
  · rw [if_pos e, e]; rfl
  · rw [if_neg e, show min (clampI t) 1099511627775 = clampI t by omega]
theorem like_forget {first : Int} {L : List (Int × Int)} {C : List ChgC} (h : LikeU first L C) (hr : RightU L) (t : Int) : LikeU first (forgetU L t) (rforgetU first C t) := by
  have hb := clampI_bounds t
  have ht : t ≥ 1099511627776 ↔ clampI t = 1099511627776 := by rcases clamp_facts t with ⟨a', b'⟩ | ⟨a', c', b'⟩ | ⟨a', b'⟩ <;> rw [b'] <;> omega
  unfold forgetU rforgetU
  by_cases e : clampI t = 1099511627776
  · rw [if_pos e, if_pos (ht.2 e)]; exact h
  · rw [if_neg e, if_neg (fun hh => e (ht.1 hh))]
    intro x h0 h1
    have e0 : clampI 0 = 0 := by decide +kernel
    have ha : atU L (clampI t) = ratU first C t := by
      rw [like_at h hr]
      unfold ratU
      rw [clampI_clampI]
    rw [(change_right hr (fun _ => boundU_in _) 0 (clampI t)).2 x h0 h1, List.foldl_append, List.foldl_cons, List.foldl_nil, ratStep_iff _ _ _ h0 h1, h x h0 h1, ha, clampI_clampI, e0]
    simp only [e0]
    by_cases hx : 0 < clampI t ∧ 0 ≤ x ∧ x < clampI t
    · rw [if_pos hx, if_pos ⟨hx.1, hx.2.1, by rcases clamp_facts t with ⟨a', b'⟩ | ⟨a', c', b'⟩ | ⟨a', b'⟩ <;> omega⟩]; simp
    · rw [if_neg hx, if_neg (fun hh => hx ⟨hh.1, hh.2.1, by rcases clamp_facts t with ⟨a', b'⟩ | ⟨a', c', b'⟩ | ⟨a', b'⟩ <;> omega⟩)]
theorem rforgetU_len (first : Int) (C : List ChgC) (t : Int) : (rforgetU first C t).length ≤ C.length + 1 := by
  unfold rforgetU
  split
  · omega
  · simp
end Go.Proofs.Ythdljigcfhjikaa
namespace Go.Proofs.Ythdljigcfhjikaa
set_option linter.unusedVariables false
open Go.ChangeShapes Go.WideShapes Go.ChangeAt Go.RowKit
attribute [local go_sem ↓] Go.wp_at_zero Go.wp_at_succ comesTo_value_eq comesTo_skip_eq comesTo_enter_eq

set_option maxRecDepth 100000 in
set_option maxHeartbeats 8000000 in
theorem rchg_add {w : World} {v : Value} {C : List ChgC} (h : RowC w v C) (hlen : C.length ≤ 4294967296) (first f t n : Int) :
    Calls Try.prog 48 #[.agg #[.int .i64 first, v], .agg #[.int .i64 f, .int .i64 t], .int .i64 n] w fun e w' => ∃ v', e = .returned (.agg #[.int .i64 first, v']) ∧ RowC w' v' (C ++ [⟨f, t, false, n⟩]) ∧ Below w.heap.size w w' := by
  have hmx : Try.prog.follows .mixedOrders = true := by kernel_rfl
  obtain ⟨ad, cp, hv⟩ := h.form
  have HB := below_alloc (below_alloc (below_alloc (Below.refl _ w) (.cells #[.int .i64 first, v] 29)) (.cells #[.int .i64 f, .int .i64 t] 38)) (.cells #[.int .i64 0, .slice none 0 0] 29)
  have n3 := World.alloc_heap_new ((w.alloc (.cells #[.int .i64 first, v] 29)).alloc (.cells #[.int .i64 f, .int .i64 t] 38)) (.cells #[.int .i64 0, .slice none 0 0] 29)
  have s1 : (w.alloc (.cells #[.int .i64 first, v] 29)).heap.size = w.heap.size + 1 := by simp
  have s2 : ((w.alloc (.cells #[.int .i64 first, v] 29)).alloc (.cells #[.int .i64 f, .int .i64 t] 38)).heap.size = w.heap.size + 1 + 1 := by simp
  rw [s2] at n3
  have n2 := ((below_alloc (Below.refl _ ((w.alloc (.cells #[.int .i64 first, v] 29)).alloc (.cells #[.int .i64 f, .int .i64 t] 38))) (.cells #[.int .i64 0, .slice none 0 0] 29)).block (w.heap.size + 1) (by omega)).trans (s1 ▸ World.alloc_heap_new (w.alloc (.cells #[.int .i64 first, v] 29)) (.cells #[.int .i64 f, .int .i64 t] 38))
  have n1 := ((below_alloc (below_alloc (Below.refl _ (w.alloc (.cells #[.int .i64 first, v] 29))) (.cells #[.int .i64 f, .int .i64 t] 38)) (.cells #[.int .i64 0, .slice none 0 0] 29)).block w.heap.size (by omega)).trans (World.alloc_heap_new w (.cells #[.int .i64 first, v] 29))
  have hr := (h.below HB).rd
  clear h s1 s2
  subst hv
  go_enter Try.func48, Try.ntmps48
  go_upto_region 1 with fail
  generalize ((w.alloc (.cells #[.int .i64 first, .slice ad C.length cp] 29)).alloc (.cells #[.int .i64 f, .int .i64 t] 38)).alloc (.cells #[.int .i64 0, .slice none 0 0] 29) = W at *
  have k1 := (Array.getElem?_eq_some_iff.1 n1).1
  have k2 := (Array.getElem?_eq_some_iff.1 n2).1
  have k3 := (Array.getElem?_eq_some_iff.1 n3).1
  refine Ap.wp_region_K (S1 := fun X => X.cell? ⟨w.heap.size, 0, none⟩ = some (.int .i64 first) ∧ X.cell? ⟨w.heap.size + 1, 0, none⟩ = some (.int .i64 f) ∧ X.cell? ⟨w.heap.size + 1, 1, none⟩ = some (.int .i64 t)) (S2 := fun X => X.cell? ⟨w.heap.size, 1, none⟩ = some (.slice ad C.length cp)) (js := 3) hmx ?_
  change Ap.wpAnyK _ _ _ _ _ _ _ 11 _ _ W.drew
  have hSS : (fun X : World => X.cell? ⟨w.heap.size, 0, none⟩ = some (.int .i64 first) ∧ X.cell? ⟨w.heap.size + 1, 0, none⟩ = some (.int .i64 f) ∧ X.cell? ⟨w.heap.size + 1, 1, none⟩ = some (.int .i64 t)) W.drew ∧ (fun X : World => X.cell? ⟨w.heap.size, 1, none⟩ = some (.slice ad C.length cp)) W.drew := ⟨⟨cell_of_block n1 rfl, cell_of_block n2 rfl, cell_of_block n2 rfl⟩, cell_of_block n1 rfl⟩
  refine Ap.wpAnyK_take1 (i := 1) (v := .pointer (some ⟨w.heap.size, 1, none⟩)) rfl (by decide) (by decide +kernel) (by decide +kernel) (by decide +kernel) (fun _ _ _ h => h) (.inl ⟨by first | rfl | (go_simp; done), fun X hX => by have hx1 := hX.1; have hx2 := hX.2.1; have hx3 := hX.2.2; clear hX; first | (go_simp; done) | (go_simp; rfl)⟩) hSS ?_
  refine Ap.wpAnyK_take2 (i := 2) (v := .slice ad C.length cp) rfl (by decide) (by decide +kernel) (by decide +kernel) (by decide +kernel) rfl (by decide +kernel) (by decide +kernel) (fun _ _ _ h => h) (.inl ⟨by first | rfl | (go_simp; done), fun X hX => by have hx1 := hX.2; clear hX; first | (go_simp; done) | (go_simp; rfl)⟩) hSS ?_
  refine Ap.wpAnyK_take1 (i := 4) (v := .agg #[.int .i64 f, .int .i64 t]) rfl (by decide) (by decide +kernel) (by decide +kernel) (by decide +kernel) (fun _ _ _ h => h) (.inl ⟨by first | rfl | (go_simp; done), fun X hX => by have hx1 := hX.1; have hx2 := hX.2.1; have hx3 := hX.2.2; clear hX; first | (go_simp; done) | (go_simp; rfl)⟩) hSS ?_
  refine Ap.wpAnyK_take1 (i := 5) (v := .int .i64 n) rfl (by decide) (by decide +kernel) (by decide +kernel) (by decide +kernel) (fun _ _ _ h => h) (.inl ⟨by first | rfl | (go_simp; done), fun X hX => by have hx1 := hX.1; have hx2 := hX.2.1; have hx3 := hX.2.2; clear hX; first | (go_simp; done) | (go_simp; rfl)⟩) hSS ?_
  refine Ap.wpAnyK_take1 (i := 6) (v := .agg #[.int .i64 f, .int .i64 t, .bool false, .int .i64 n]) rfl (by decide) (by decide +kernel) (by decide +kernel) (by decide +kernel) (fun _ _ _ h => h) (.inl ⟨by first | rfl | (go_simp; done), fun X hX => by have hx1 := hX.1; have hx2 := hX.2.1; have hx3 := hX.2.2; clear hX; first | (go_simp; done) | (go_simp; rfl)⟩) hSS ?_
  refine Ap.anyK_app2 (j0 := 0) (j1 := 3) (j2 := 7) (j3 := 8) (fuel := 2) (cs := #[.int .i64 f, .int .i64 t, .bool false, .int .i64 n]) eltC W.heap.size (.inl (by decide +kernel)) (.inl (by decide +kernel)) (by decide +kernel) (by decide +kernel) (by decide +kernel) (by decide +kernel) (by decide) rfl rfl rfl rfl ⟨rfl, rfl, rfl, rfl⟩ (by decide) ⟨rfl, rfl, rfl, rfl⟩ rfl rfl
    (by simp [Act.put]) (fun a' X => by first | (go_simp; done) | (go_simp; rfl)) (.slice ad C.length cp) C.length (flatC C) (fun u0 u2 => ⟨by simp [Act.put, Act.eval], by simp [Act.put, Act.eval]⟩) (hr.mono (Below.refl _ _).drew)
    (fun u0 u1 X => ⟨by first | (go_simp; done) | (go_simp; rfl), by first | (go_simp; done) | (go_simp; rfl), by first | (go_simp; done) | (go_simp; rfl)⟩) rfl (by intro u hu; simp at hu; rcases hu with rfl | rfl | rfl | rfl <;> rfl) (by unfold maxLen; omega) (by omega) (Nat.le_refl _)
    (fun X hb => ⟨⟨(hb.cell (p := ⟨w.heap.size, 0, none⟩) k1).trans hSS.1.1, (hb.cell (p := ⟨w.heap.size + 1, 0, none⟩) k2).trans hSS.1.2.1, (hb.cell (p := ⟨w.heap.size + 1, 1, none⟩) k2).trans hSS.1.2.2⟩, (hb.cell (p := ⟨w.heap.size, 1, none⟩) k1).trans hSS.2⟩) ?_
  intro u0 u1 u2 v0 X ho hb
  have hown := RowC.own (C := C ++ [⟨f, t, false, n⟩]) (v := v0) (by rw [flatC_append, List.length_append]; exact ho)
  obtain ⟨ad', n', cp', rfl⟩ : ∃ ad' n' cp', v0 = .slice ad' n' cp' := by obtain ⟨x, y, e⟩ := hown.form; exact ⟨_, _, _, e⟩
  have hS9 : (fun X : World => X.cell? ⟨w.heap.size, 0, none⟩ = some (.int .i64 first) ∧ X.cell? ⟨w.heap.size + 1, 0, none⟩ = some (.int .i64 f) ∧ X.cell? ⟨w.heap.size + 1, 1, none⟩ = some (.int .i64 t)) X ∧ (fun X : World => X.cell? ⟨w.heap.size, 1, none⟩ = some (.slice ad C.length cp)) X := ⟨⟨(hb.cell (p := ⟨w.heap.size, 0, none⟩) k1).trans hSS.1.1, (hb.cell (p := ⟨w.heap.size + 1, 0, none⟩) k2).trans hSS.1.2.1, (hb.cell (p := ⟨w.heap.size + 1, 1, none⟩) k2).trans hSS.1.2.2⟩, (hb.cell (p := ⟨w.heap.size, 1, none⟩) k1).trans hSS.2⟩
  have x1 := (hb.block w.heap.size k1).trans n1
  have x2 := (hb.block (w.heap.size + 1) k2).trans n2
  have x3 := (hb.block (w.heap.size + 1 + 1) k3).trans n3
  have y1 := cell_of_block (o := 1) x1 rfl
  have z1 := free_of_block 1 x1
  have hw := (wrote_refl x1).set 1 (.slice ad' n' cp')
  refine Ap.anyK_val1 (i := 9) (v := .pointer (some ⟨w.heap.size, 1, none⟩)) (w' := X) (by decide +kernel) rfl rfl (by first | (go_simp; done) | (go_simp; rfl)) hS9 ?_
  have hlt : w.heap.size < W.drew.heap.size := k1
  have hown' : RowC (X.setCell ⟨w.heap.size, 1, none⟩ (.slice ad' n' cp')) (.slice ad' n' cp') (C ++ [⟨f, t, false, n⟩]) := hown.keep x1 (.inl ⟨ad, C.length, cp, rfl⟩) (by rw [hw.size]; exact Nat.le_refl _) (fun g _ hne => hw.rest g hne)
  refine Ap.anyK_store (i := 10) (w' := X.setCell ⟨w.heap.size, 1, none⟩ (.slice ad' n' cp')) (by decide +kernel) rfl rfl (by decide +kernel) (by first | (go_simp; done) | (go_simp; rfl)) ⟨(cell_of_block (o := 0) hw.there rfl), (cell_of_block (o := 0) ((hw.rest _ (by omega)).trans x2) rfl), (cell_of_block (o := 1) ((hw.rest _ (by omega)).trans x2) rfl)⟩ ?_
  refine Ap.wpAnyK_done (by decide +kernel) ?_ _
  have q1 := cell_of_block (o := 0) hw.there rfl
  have q2 := cell_of_block (o := 1) hw.there rfl
  have r3 := (hw.rest (w.heap.size + 1 + 1) (by omega)).trans x3
  have r0 := cell_of_block (o := 0) r3 rfl
  have r1 := cell_of_block (o := 1) r3 rfl
  have f0 := free_of_block 0 r3
  have f1 := free_of_block 1 r3
  have HBX := Lib.hid (hw.below (Below.trans (Below.drew HB) (Below.mono hb HB.size)) (Nat.le_refl _))
  have hw3 := ((wrote_refl r3).set 0 (.int .i64 first)).set 1 (.slice ad' n' cp')
  have HO := Lib.hid (hown'.keep r3 (.inl ⟨none, 0, 0, rfl⟩) (by rw [hw3.size]; exact Nat.le_refl _) (fun g _ hne => hw3.rest g hne))
  have HBY := Lib.hid (hw3.below HBX.out (by omega))
  have HT := Lib.hid hw3.there
  clear hSS hS9 hown hown' ho hb HB n1 n2 n3 hr x1 x2 x3 y1 z1 hw hw3 r3
  go_wp2_with fail
  have e0 := cell_of_block (o := 0) HT.out rfl
  have e1 := cell_of_block (o := 1) HT.out rfl
  clear q1 q2 r0 r1 f0 f1
  generalize (((X.setCell ⟨w.heap.size, 1, none⟩ (.slice ad' n' cp')).setCell ⟨w.heap.size + 1 + 1, 0, none⟩ (.int .i64 first)).setCell ⟨w.heap.size + 1 + 1, 1, none⟩ (.slice ad' n' cp')) = Y at *
  exact bodyPost_ret (v := .agg #[.int .i64 first, .slice ad' n' cp']) (by simp [results, Try.results48, go_sem]; try go_simp) rfl ⟨_, rfl, HO.out, HBY.out⟩
set_option maxRecDepth 100000 in
set_option maxHeartbeats 8000000 in
theorem rchg_set {w : World} {v : Value} {C : List ChgC} (h : RowC w v C) (hlen : C.length ≤ 4294967296) (first f t n : Int) :
    Calls Try.prog 49 #[.agg #[.int .i64 first, v], .agg #[.int .i64 f, .int .i64 t], .int .i64 n] w fun e w' => ∃ v', e = .returned (.agg #[.int .i64 first, v']) ∧ RowC w' v' (C ++ [⟨f, t, true, n⟩]) ∧ Below w.heap.size w w' := by
  have hmx : Try.prog.follows .mixedOrders = true := by kernel_rfl
  obtain ⟨ad, cp, hv⟩ := h.form
  have HB := below_alloc (below_alloc (below_alloc (Below.refl _ w) (.cells #[.int .i64 first, v] 29)) (.cells #[.int .i64 f, .int .i64 t] 38)) (.cells #[.int .i64 0, .slice none 0 0] 29)
  have n3 := World.alloc_heap_new ((w.alloc (.cells #[.int .i64 first, v] 29)).alloc (.cells #[.int .i64 f, .int .i64 t] 38)) (.cells #[.int .i64 0, .slice none 0 0] 29)
  have s1 : (w.alloc (.cells #[.int .i64 first, v] 29)).heap.size = w.heap.size + 1 := by simp
  have s2 : ((w.alloc (.cells #[.int .i64 first, v] 29)).alloc (.cells #[.int .i64 f, .int .i64 t] 38)).heap.size = w.heap.size + 1 + 1 := by simp
  rw [s2] at n3
  have n2 := ((below_alloc (Below.refl _ ((w.alloc (.cells #[.int .i64 first, v] 29)).alloc (.cells #[.int .i64 f, .int .i64 t] 38))) (.cells #[.int .i64 0, .slice none 0 0] 29)).block (w.heap.size + 1) (by omega)).trans (s1 ▸ World.alloc_heap_new (w.alloc (.cells #[.int .i64 first, v] 29)) (.cells #[.int .i64 f, .int .i64 t] 38))
  have n1 := ((below_alloc (below_alloc (Below.refl _ (w.alloc (.cells #[.int .i64 first, v] 29))) (.cells #[.int .i64 f, .int .i64 t] 38)) (.cells #[.int .i64 0, .slice none 0 0] 29)).block w.heap.size (by omega)).trans (World.alloc_heap_new w (.cells #[.int .i64 first, v] 29))
  have hr := (h.below HB).rd
  clear h s1 s2
  subst hv
  go_enter Try.func49, Try.ntmps49
  go_upto_region 1 with fail
  generalize ((w.alloc (.cells #[.int .i64 first, .slice ad C.length cp] 29)).alloc (.cells #[.int .i64 f, .int .i64 t] 38)).alloc (.cells #[.int .i64 0, .slice none 0 0] 29) = W at *
  have k1 := (Array.getElem?_eq_some_iff.1 n1).1
  have k2 := (Array.getElem?_eq_some_iff.1 n2).1
  have k3 := (Array.getElem?_eq_some_iff.1 n3).1
  refine Ap.wp_region_K (S1 := fun X => X.cell? ⟨w.heap.size, 0, none⟩ = some (.int .i64 first) ∧ X.cell? ⟨w.heap.size + 1, 0, none⟩ = some (.int .i64 f) ∧ X.cell? ⟨w.heap.size + 1, 1, none⟩ = some (.int .i64 t)) (S2 := fun X => X.cell? ⟨w.heap.size, 1, none⟩ = some (.slice ad C.length cp)) (js := 3) hmx ?_
  change Ap.wpAnyK _ _ _ _ _ _ _ 11 _ _ W.drew
  have hSS : (fun X : World => X.cell? ⟨w.heap.size, 0, none⟩ = some (.int .i64 first) ∧ X.cell? ⟨w.heap.size + 1, 0, none⟩ = some (.int .i64 f) ∧ X.cell? ⟨w.heap.size + 1, 1, none⟩ = some (.int .i64 t)) W.drew ∧ (fun X : World => X.cell? ⟨w.heap.size, 1, none⟩ = some (.slice ad C.length cp)) W.drew := ⟨⟨cell_of_block n1 rfl, cell_of_block n2 rfl, cell_of_block n2 rfl⟩, cell_of_block n1 rfl⟩
  refine Ap.wpAnyK_take1 (i := 1) (v := .pointer (some ⟨w.heap.size, 1, none⟩)) rfl (by decide) (by decide +kernel) (by decide +kernel) (by decide +kernel) (fun _ _ _ h => h) (.inl ⟨by first | rfl | (go_simp; done), fun X hX => by have hx1 := hX.1; have hx2 := hX.2.1; have hx3 := hX.2.2; clear hX; first | (go_simp; done) | (go_simp; rfl)⟩) hSS ?_
  refine Ap.wpAnyK_take2 (i := 2) (v := .slice ad C.length cp) rfl (by decide) (by decide +kernel) (by decide +kernel) (by decide +kernel) rfl (by decide +kernel) (by decide +kernel) (fun _ _ _ h => h) (.inl ⟨by first | rfl | (go_simp; done), fun X hX => by have hx1 := hX.2; clear hX; first | (go_simp; done) | (go_simp; rfl)⟩) hSS ?_
  refine Ap.wpAnyK_take1 (i := 4) (v := .agg #[.int .i64 f, .int .i64 t]) rfl (by decide) (by decide +kernel) (by decide +kernel) (by decide +kernel) (fun _ _ _ h => h) (.inl ⟨by first | rfl | (go_simp; done), fun X hX => by have hx1 := hX.1; have hx2 := hX.2.1; have hx3 := hX.2.2; clear hX; first | (go_simp; done) | (go_simp; rfl)⟩) hSS ?_
  refine Ap.wpAnyK_take1 (i := 5) (v := .int .i64 n) rfl (by decide) (by decide +kernel) (by decide +kernel) (by decide +kernel) (fun _ _ _ h => h) (.inl ⟨by first | rfl | (go_simp; done), fun X hX => by have hx1 := hX.1; have hx2 := hX.2.1; have hx3 := hX.2.2; clear hX; first | (go_simp; done) | (go_simp; rfl)⟩) hSS ?_
  refine Ap.wpAnyK_take1 (i := 6) (v := .agg #[.int .i64 f, .int .i64 t, .bool true, .int .i64 n]) rfl (by decide) (by decide +kernel) (by decide +kernel) (by decide +kernel) (fun _ _ _ h => h) (.inl ⟨by first | rfl | (go_simp; done), fun X hX => by have hx1 := hX.1; have hx2 := hX.2.1; have hx3 := hX.2.2; clear hX; first | (go_simp; done) | (go_simp; rfl)⟩) hSS ?_
  refine Ap.anyK_app2 (j0 := 0) (j1 := 3) (j2 := 7) (j3 := 8) (fuel := 2) (cs := #[.int .i64 f, .int .i64 t, .bool true, .int .i64 n]) eltC W.heap.size (.inl (by decide +kernel)) (.inl (by decide +kernel)) (by decide +kernel) (by decide +kernel) (by decide +kernel) (by decide +kernel) (by decide) rfl rfl rfl rfl ⟨rfl, rfl, rfl, rfl⟩ (by decide) ⟨rfl, rfl, rfl, rfl⟩ rfl rfl
    (by simp [Act.put]) (fun a' X => by first | (go_simp; done) | (go_simp; rfl)) (.slice ad C.length cp) C.length (flatC C) (fun u0 u2 => ⟨by simp [Act.put, Act.eval], by simp [Act.put, Act.eval]⟩) (hr.mono (Below.refl _ _).drew)
    (fun u0 u1 X => ⟨by first | (go_simp; done) | (go_simp; rfl), by first | (go_simp; done) | (go_simp; rfl), by first | (go_simp; done) | (go_simp; rfl)⟩) rfl (by intro u hu; simp at hu; rcases hu with rfl | rfl | rfl | rfl <;> rfl) (by unfold maxLen; omega) (by omega) (Nat.le_refl _)
    (fun X hb => ⟨⟨(hb.cell (p := ⟨w.heap.size, 0, none⟩) k1).trans hSS.1.1, (hb.cell (p := ⟨w.heap.size + 1, 0, none⟩) k2).trans hSS.1.2.1, (hb.cell (p := ⟨w.heap.size + 1, 1, none⟩) k2).trans hSS.1.2.2⟩, (hb.cell (p := ⟨w.heap.size, 1, none⟩) k1).trans hSS.2⟩) ?_
  intro u0 u1 u2 v0 X ho hb
  have hown := RowC.own (C := C ++ [⟨f, t, true, n⟩]) (v := v0) (by rw [flatC_append, List.length_append]; exact ho)
  obtain ⟨ad', n', cp', rfl⟩ : ∃ ad' n' cp', v0 = .slice ad' n' cp' := by obtain ⟨x, y, e⟩ := hown.form; exact ⟨_, _, _, e⟩
  have hS9 : (fun X : World => X.cell? ⟨w.heap.size, 0, none⟩ = some (.int .i64 first) ∧ X.cell? ⟨w.heap.size + 1, 0, none⟩ = some (.int .i64 f) ∧ X.cell? ⟨w.heap.size + 1, 1, none⟩ = some (.int .i64 t)) X ∧ (fun X : World => X.cell? ⟨w.heap.size, 1, none⟩ = some (.slice ad C.length cp)) X := ⟨⟨(hb.cell (p := ⟨w.heap.size, 0, none⟩) k1).trans hSS.1.1, (hb.cell (p := ⟨w.heap.size + 1, 0, none⟩) k2).trans hSS.1.2.1, (hb.cell (p := ⟨w.heap.size + 1, 1, none⟩) k2).trans hSS.1.2.2⟩, (hb.cell (p := ⟨w.heap.size, 1, none⟩) k1).trans hSS.2⟩
  have x1 := (hb.block w.heap.size k1).trans n1
  have x2 := (hb.block (w.heap.size + 1) k2).trans n2
  have x3 := (hb.block (w.heap.size + 1 + 1) k3).trans n3
  have y1 := cell_of_block (o := 1) x1 rfl
  have z1 := free_of_block 1 x1
  have hw := (wrote_refl x1).set 1 (.slice ad' n' cp')
  refine Ap.anyK_val1 (i := 9) (v := .pointer (some ⟨w.heap.size, 1, none⟩)) (w' := X) (by decide +kernel) rfl rfl (by first | (go_simp; done) | (go_simp; rfl)) hS9 ?_
  have hlt : w.heap.size < W.drew.heap.size := k1
  have hown' : RowC (X.setCell ⟨w.heap.size, 1, none⟩ (.slice ad' n' cp')) (.slice ad' n' cp') (C ++ [⟨f, t, true, n⟩]) := hown.keep x1 (.inl ⟨ad, C.length, cp, rfl⟩) (by rw [hw.size]; exact Nat.le_refl _) (fun g _ hne => hw.rest g hne)
  refine Ap.anyK_store (i := 10) (w' := X.setCell ⟨w.heap.size, 1, none⟩ (.slice ad' n' cp')) (by decide +kernel) rfl rfl (by decide +kernel) (by first | (go_simp; done) | (go_simp; rfl)) ⟨(cell_of_block (o := 0) hw.there rfl), (cell_of_block (o := 0) ((hw.rest _ (by omega)).trans x2) rfl), (cell_of_block (o := 1) ((hw.rest _ (by omega)).trans x2) rfl)⟩ ?_
  refine Ap.wpAnyK_done (by decide +kernel) ?_ _
  have q1 := cell_of_block (o := 0) hw.there rfl
  have q2 := cell_of_block (o := 1) hw.there rfl
  have r3 := (hw.rest (w.heap.size + 1 + 1) (by omega)).trans x3
  have r0 := cell_of_block (o := 0) r3 rfl
  have r1 := cell_of_block (o := 1) r3 rfl
  have f0 := free_of_block 0 r3
  have f1 := free_of_block 1 r3
  have HBX := Lib.hid (hw.below (Below.trans (Below.drew HB) (Below.mono hb HB.size)) (Nat.le_refl _))
  have hw3 := ((wrote_refl r3).set 0 (.int .i64 first)).set 1 (.slice ad' n' cp')
  have HO := Lib.hid (hown'.keep r3 (.inl ⟨none, 0, 0, rfl⟩) (by rw [hw3.size]; exact Nat.le_refl _) (fun g _ hne => hw3.rest g hne))
  have HBY := Lib.hid (hw3.below HBX.out (by omega))
  have HT := Lib.hid hw3.there
  clear hSS hS9 hown hown' ho hb HB n1 n2 n3 hr x1 x2 x3 y1 z1 hw hw3 r3
  go_wp2_with fail
  have e0 := cell_of_block (o := 0) HT.out rfl
  have e1 := cell_of_block (o := 1) HT.out rfl
  clear q1 q2 r0 r1 f0 f1
  generalize (((X.setCell ⟨w.heap.size, 1, none⟩ (.slice ad' n' cp')).setCell ⟨w.heap.size + 1 + 1, 0, none⟩ (.int .i64 first)).setCell ⟨w.heap.size + 1 + 1, 1, none⟩ (.slice ad' n' cp')) = Y at *
  exact bodyPost_ret (v := .agg #[.int .i64 first, .slice ad' n' cp']) (by simp [results, Try.results49, go_sem]; try go_simp) rfl ⟨_, rfl, HO.out, HBY.out⟩
set_option maxRecDepth 100000 in
set_option maxHeartbeats 8000000 in
theorem rchg_forget {w : World} {v : Value} {C : List ChgC} (h : RowC w v C) (hlen : C.length ≤ 4294967296) (first t : Int) :
    Calls Try.prog 50 #[.agg #[.int .i64 first, v], .int .i64 t] w fun e w' => ∃ v', e = .returned (.agg #[.int .i64 first, v']) ∧ RowC w' v' (rforgetU first C t) ∧ Below w.heap.size w w' := by
  have hmx : Try.prog.follows .mixedOrders = true := by kernel_rfl
  obtain ⟨ad, cp, hv⟩ := h.form
  have HB := below_alloc (below_alloc (Below.refl _ w) (.cells #[.int .i64 first, v] 29)) (.cells #[.int .i64 0, .slice none 0 0] 29)
  have n2 := World.alloc_heap_new (w.alloc (.cells #[.int .i64 first, v] 29)) (.cells #[.int .i64 0, .slice none 0 0] 29)
  have s1 : (w.alloc (.cells #[.int .i64 first, v] 29)).heap.size = w.heap.size + 1 := by simp
  rw [s1] at n2
  have n1 := ((below_alloc (Below.refl _ (w.alloc (.cells #[.int .i64 first, v] 29))) (.cells #[.int .i64 0, .slice none 0 0] 29)).block w.heap.size (by omega)).trans (World.alloc_heap_new w (.cells #[.int .i64 first, v] 29))
  have HR := Lib.hid (h.below HB)
  have HBW := Lib.hid HB
  clear h s1 HB
  subst hv
  go_enter Try.func50, Try.ntmps50
  go_upto_region 1 with fail
  generalize (w.alloc (.cells #[.int .i64 first, .slice ad C.length cp] 29)).alloc (.cells #[.int .i64 0, .slice none 0 0] 29) = W at *
  have k1 := (Array.getElem?_eq_some_iff.1 n1).1
  have k2 := (Array.getElem?_eq_some_iff.1 n2).1
  have c0 := cell_of_block (o := 0) n1 rfl
  have c1 := cell_of_block (o := 1) n1 rfl
  by_cases ht : t ≥ 1099511627776
  case pos =>
    have hd : decide (t ≥ 1099511627776) = true := decide_eq_true ht
    have E := Lib.hid (show rforgetU first C t = C by unfold rforgetU; rw [if_pos ht])
    have f0 := free_of_block 0 n2
    have f1 := free_of_block 1 n2
    have d0 := cell_of_block (o := 0) n2 rfl
    have d1 := cell_of_block (o := 1) n2 rfl
    have hw3 := ((wrote_refl n2).set 0 (.int .i64 first)).set 1 (.slice ad C.length cp)
    have HO := Lib.hid (HR.out.keep n2 (.inl ⟨none, 0, 0, rfl⟩) (by rw [hw3.size]; exact Nat.le_refl _) (fun g _ hne => hw3.rest g hne))
    have HBY := Lib.hid (hw3.below HBW.out (by omega))
    have HT := Lib.hid hw3.there
    clear hw3
    go_wp2_with fail
    have e0 := cell_of_block (o := 0) HT.out rfl
    have e1 := cell_of_block (o := 1) HT.out rfl
    clear c0 c1 d0 d1 f0 f1
    generalize ((W.setCell ⟨w.heap.size + 1, 0, none⟩ (.int .i64 first)).setCell ⟨w.heap.size + 1, 1, none⟩ (.slice ad C.length cp)) = Y at *
    exact bodyPost_ret (v := .agg #[.int .i64 first, .slice ad C.length cp]) (by simp [results, Try.results50, go_sem]; try go_simp) rfl ⟨_, rfl, by rw [E.out]; exact HO.out, HBY.out⟩
  case neg =>
    have hd : decide (t ≥ 1099511627776) = false := decide_eq_false ht
    have E := Lib.hid (show rforgetU first C t = C ++ [⟨0, t, true, ratU first C t⟩] by unfold rforgetU; rw [if_neg ht])
    obtain ⟨y, hy⟩ : ∃ y, y = ratU first C t := ⟨_, rfl⟩
    go_upto_region 3 with fail
    refine Ap.wp_region_K (S1 := fun X => X.cell? ⟨w.heap.size, 0, none⟩ = some (.int .i64 first) ∧ X.cell? ⟨w.heap.size, 1, none⟩ = some (.slice ad C.length cp)) (S2 := fun _ => True) (js := 7) hmx ?_
    change Ap.wpAnyK _ _ _ _ _ _ _ 8 _ _ W.drew
    have hSS : (fun X : World => X.cell? ⟨w.heap.size, 0, none⟩ = some (.int .i64 first) ∧ X.cell? ⟨w.heap.size, 1, none⟩ = some (.slice ad C.length cp)) W.drew ∧ (fun _ : World => True) W.drew := ⟨⟨c0, c1⟩, trivial⟩
    clear c0 c1
    refine Ap.wpAnyK_take1 (i := 0) (v := .agg #[.int .i64 first, .slice ad C.length cp]) rfl (by decide) (by decide +kernel) (by decide +kernel) (by decide +kernel) (fun _ _ _ h => h) (.inl ⟨by first | rfl | (go_simp; done), fun X hX => by have hx1 := hX.1; have hx2 := hX.2; clear hX; first | (go_simp; done) | (go_simp; rfl)⟩) hSS ?_
    refine Ap.wpAnyK_take1 (i := 1) (v := .int .i64 t) rfl (by decide) (by decide +kernel) (by decide +kernel) (by decide +kernel) (fun _ _ _ h => h) (.inl ⟨by first | rfl | (go_simp; done), fun X hX => by have hx1 := hX.1; have hx2 := hX.2; clear hX; first | (go_simp; done) | (go_simp; rfl)⟩) hSS ?_
    refine Ap.wpAnyK_take1 (i := 2) (v := .agg #[.int .i64 0, .int .i64 t]) rfl (by decide) (by decide +kernel) (by decide +kernel) (by decide +kernel) (fun _ _ _ h => h) (.inl ⟨by first | rfl | (go_simp; done), fun X hX => by have hx1 := hX.1; have hx2 := hX.2; clear hX; first | (go_simp; done) | (go_simp; rfl)⟩) hSS ?_
    refine Ap.wpAnyK_take1 (i := 3) (v := .agg #[.int .i64 first, .slice ad C.length cp]) rfl (by decide) (by decide +kernel) (by decide +kernel) (by decide +kernel) (fun _ _ _ h => h) (.inl ⟨by first | rfl | (go_simp; done), fun X hX => by have hx1 := hX.1; have hx2 := hX.2; clear hX; first | (go_simp; done) | (go_simp; rfl)⟩) hSS ?_
    refine Ap.wpAnyK_take1 (i := 4) (v := .int .i64 t) rfl (by decide) (by decide +kernel) (by decide +kernel) (by decide +kernel) (fun _ _ _ h => h) (.inl ⟨by first | rfl | (go_simp; done), fun X hX => by have hx1 := hX.1; have hx2 := hX.2; clear hX; first | (go_simp; done) | (go_simp; rfl)⟩) hSS ?_
    refine Ap.anyK_call (i := 5) (by decide +kernel) rfl rfl (by go_simp) (rat_any (HR.out.below (Below.refl _ _).drew) hlen first t) ?_
    rintro e X ⟨rfl, hb⟩
    rw [← hy]
    have x1 := (hb.block w.heap.size k1).trans n1
    have hS5 : (fun X : World => X.cell? ⟨w.heap.size, 0, none⟩ = some (.int .i64 first) ∧ X.cell? ⟨w.heap.size, 1, none⟩ = some (.slice ad C.length cp)) X := ⟨cell_of_block x1 rfl, cell_of_block x1 rfl⟩
    refine ⟨_, rfl, ⟨hS5, fun _ => trivial⟩, ?_⟩
    refine Ap.anyK_call (i := 6) (by decide +kernel) rfl rfl (by go_simp) (rchg_set ((HR.out.below (Below.refl _ _).drew).below hb) hlen first 0 t y) ?_
    rintro e X2 ⟨v', rfl, hr2, hb2⟩
    obtain ⟨ad', n', cp', rfl⟩ : ∃ ad' n' cp', v' = .slice ad' n' cp' := by obtain ⟨x, z, e⟩ := hr2.form; exact ⟨_, _, _, e⟩
    have hx1 : W.heap.size ≤ X.heap.size := hb.size
    have x2 := (hb2.block w.heap.size (by omega)).trans x1
    have y2 := (hb2.block (w.heap.size + 1) (by omega)).trans ((hb.block (w.heap.size + 1) k2).trans n2)
    refine ⟨_, rfl, ⟨⟨cell_of_block x2 rfl, cell_of_block x2 rfl⟩, fun _ => trivial⟩, ?_⟩
    have f0 := free_of_block 0 y2
    have f1 := free_of_block 1 y2
    have d0 := cell_of_block (o := 0) y2 rfl
    have d1 := cell_of_block (o := 1) y2 rfl
    have hw3 := ((wrote_refl y2).set 0 (.int .i64 first)).set 1 (.slice ad' n' cp')
    have HO := Lib.hid (hr2.keep y2 (.inl ⟨none, 0, 0, rfl⟩) (by rw [hw3.size]; exact Nat.le_refl _) (fun g _ hne => hw3.rest g hne))
    have HBY := Lib.hid (hw3.below (below_next (below_next (Below.drew HBW.out) hb) hb2) (by omega))
    have HT := Lib.hid hw3.there
    have z0 := (hw3.rest w.heap.size (by omega)).trans x2
    refine Ap.anyK_store (i := 7) (w' := (X2.setCell ⟨w.heap.size + 1, 0, none⟩ (.int .i64 first)).setCell ⟨w.heap.size + 1, 1, none⟩ (.slice ad' n' cp')) (by decide +kernel) rfl rfl (by decide +kernel) (by first | (go_simp; done) | (go_simp; rfl)) ⟨cell_of_block z0 rfl, cell_of_block z0 rfl⟩ ?_
    refine Ap.wpAnyK_done (by decide +kernel) ?_ _
    clear hw3 f0 f1 d0 d1 hSS hS5 x1 x2 y2 hb hb2 hr2 z0
    have e0 := cell_of_block (o := 0) HT.out rfl
    have e1 := cell_of_block (o := 1) HT.out rfl
    generalize ((X2.setCell ⟨w.heap.size + 1, 0, none⟩ (.int .i64 first)).setCell ⟨w.heap.size + 1, 1, none⟩ (.slice ad' n' cp')) = Y at *
    go_wp2_with fail
    exact bodyPost_ret (v := .agg #[.int .i64 first, .slice ad' n' cp']) (by simp [results, Try.results50, go_sem]; try go_simp) rfl ⟨_, rfl, by rw [E.out, ← hy]; exact HO.out, HBY.out⟩
end Go.Proofs.Ythdljigcfhjikaa
namespace Go.Proofs.Ythdljigcfhjikaa
set_option linter.unusedVariables false
open Go.ChangeShapes Go.WideShapes Go.ChangeAt Go.RowKit
/-- a time more, where it belongs, once -/
def insT : List Int → Int → List Int
  | [], t => [t]
  | x :: r, t => if x < t then x :: insT r t else if x = t then x :: r else t :: x :: r
def putT (l : List Int) (t : Int) : List Int := if t ≥ 1099511627776 then l else insT l t
theorem insT_mem : ∀ (l : List Int) (t x : Int), x ∈ insT l t ↔ x = t ∨ x ∈ l
  | [], t, x => by simp [insT]
  | y :: r, t, x => by
    unfold insT
    have ih := insT_mem r t x
    split
    · simp only [List.mem_cons, ih]
      constructor
      · rintro (h | h | h)
        · exact .inr (.inl h)
        · exact .inl h
        · exact .inr (.inr h)
      · rintro (h | h | h)
        · exact .inr (.inl h)
        · exact .inl h
        · exact .inr (.inr h)
    · split
      · rename_i h1 h2
        subst h2
        simp only [List.mem_cons]
        constructor
        · exact fun h => .inr h
        · rintro (h | h)
          · exact .inl h
          · exact h
      · simp only [List.mem_cons]
theorem insT_sorted : ∀ (l : List Int) (t : Int), l.Pairwise (· < ·) → (insT l t).Pairwise (· < ·)
  | [], t, _ => by simp [insT]
  | y :: r, t, h => by
    obtain ⟨h1, h2⟩ := List.pairwise_cons.1 h
    unfold insT
    split
    · rename_i hy
      refine List.pairwise_cons.2 ⟨fun z hz => ?_, insT_sorted r t h2⟩
      rcases (insT_mem r t z).1 hz with rfl | hz
      · exact hy
      · exact h1 z hz
    · split
      · exact h
      · refine List.pairwise_cons.2 ⟨fun z hz => ?_, h⟩
        rcases List.mem_cons.1 hz with rfl | hz
        · omega
        · have := h1 z hz; omega
theorem insT_len (l : List Int) (t : Int) : (insT l t).length ≤ l.length + 1 := by
  induction l with
  | nil => simp [insT]
  | cons y r ih =>
    unfold insT
    split
    · simp only [List.length_cons]; omega
    · split <;> simp
/-- times that rise, from 0 on -/
structure TimesU (l : List Int) : Prop where
  sorted : l.Pairwise (· < ·)
  zero : l.head? = some 0
  hi : ∀ x ∈ l, 0 ≤ x ∧ x < 1099511627776
theorem TimesU.one : TimesU [0] := ⟨by simp, rfl, fun x hx => by simp at hx; subst hx; decide⟩
theorem TimesU.put {l : List Int} (h : TimesU l) {t : Int} (h0 : 0 ≤ t) : TimesU (putT l t) := by
  unfold putT
  split
  · exact h
  · refine ⟨insT_sorted l t h.sorted, ?_, fun x hx => ?_⟩
    · cases l with
      | nil => have := h.zero; simp at this
      | cons y r =>
        have hy : y = 0 := by simpa using h.zero
        subst hy
        unfold insT
        split
        · rfl
        · split
          · rfl
          · rename_i h1 h2; omega
    · rcases (insT_mem l t x).1 hx with rfl | hx
      · exact ⟨h0, by omega⟩
      · exact h.hi x hx
theorem putT_mem {l : List Int} {t x : Int} : x ∈ putT l t ↔ (x = t ∧ t < 1099511627776) ∨ x ∈ l := by
  unfold putT
  split
  · constructor
    · exact fun h => .inr h
    · rintro (h | h)
      · omega
      · exact h
  · rw [insT_mem]
    constructor
    · rintro (h | h)
      · exact .inl ⟨h, by omega⟩
      · exact .inr h
    · rintro (h | h)
      · exact .inl h.1
      · exact .inr h
/-- the document's times -/
def timesU (C : List ChgC) : List Int := C.foldl (fun l c => putT (putT l (cleanI (c.f, c.t)).1) (cleanI (c.f, c.t)).2) [0]
theorem clean_nonneg (f t : Int) : 0 ≤ (cleanI (f, t)).1 ∧ 0 ≤ (cleanI (f, t)).2 := by
  have h1 := clampI_bounds f
  have h2 := clampI_bounds t
  unfold cleanI
  split
  · exact ⟨Int.le_refl _, Int.le_refl _⟩
  · exact ⟨h1.1, h2.1⟩
theorem times_fold (C : List ChgC) : ∀ l, TimesU l → TimesU (C.foldl (fun l c => putT (putT l (cleanI (c.f, c.t)).1) (cleanI (c.f, c.t)).2) l) ∧ (∀ x ∈ l, x ∈ C.foldl (fun l c => putT (putT l (cleanI (c.f, c.t)).1) (cleanI (c.f, c.t)).2) l) ∧ ∀ c ∈ C, clampI c.f < clampI c.t → (clampI c.f ∈ C.foldl (fun l c => putT (putT l (cleanI (c.f, c.t)).1) (cleanI (c.f, c.t)).2) l) ∧ (clampI c.t < 1099511627776 → clampI c.t ∈ C.foldl (fun l c => putT (putT l (cleanI (c.f, c.t)).1) (cleanI (c.f, c.t)).2) l) := by
  induction C with
  | nil => exact fun l h => ⟨h, fun x hx => hx, fun c hc => by cases hc⟩
  | cons d r ih =>
    intro l h
    obtain ⟨i1, i2, i3⟩ := ih _ ((h.put (clean_nonneg d.f d.t).1).put (clean_nonneg d.f d.t).2)
    rw [List.foldl_cons]
    refine ⟨i1, fun x hx => i2 x (putT_mem.2 (.inr (putT_mem.2 (.inr hx)))), fun c hc hft => ?_⟩
    rcases List.mem_cons.1 hc with rfl | hc
    · have hcl : cleanI (c.f, c.t) = (clampI c.f, clampI c.t) := by unfold cleanI; simp only; rw [if_neg (by omega)]
      have hb := clampI_bounds c.t
      refine ⟨i2 _ ?_, fun h2 => i2 _ ?_⟩
      · rw [hcl]; exact putT_mem.2 (.inr (putT_mem.2 (.inl ⟨rfl, by simp only; omega⟩)))
      · rw [hcl]; exact putT_mem.2 (.inl ⟨rfl, h2⟩)
    · exact i3 c hc hft
theorem timesU_times (C : List ChgC) : TimesU (timesU C) := (times_fold C [0] TimesU.one).1
/-- between two times nothing turns -/
theorem same_between {C : List ChgC} {first x y : Int} (hx : 0 ≤ x) (hxy : x ≤ y) (hy : y < 1099511627776) (h : ∀ p ∈ timesU C, ¬ (x < p ∧ p ≤ y)) : C.foldl (ratStep y) (boundU first) = C.foldl (ratStep x) (boundU first) := by
  have key : ∀ (D : List ChgC), (∀ c ∈ D, c ∈ C) → ∀ v, D.foldl (ratStep y) v = D.foldl (ratStep x) v := by
    intro D
    induction D with
    | nil => intro _ v; rfl
    | cons c r ih =>
      intro hD v
      rw [List.foldl_cons, List.foldl_cons]
      have hs : ratStep y v c = ratStep x v c := by
        rw [ratStep_iff _ _ _ (by omega) hy, ratStep_iff _ _ _ hx (by omega)]
        by_cases hft : clampI c.f < clampI c.t
        · have hm := (times_fold C [0] TimesU.one).2.2 c (hD c List.mem_cons_self) hft
          have h1 := h _ hm.1
          have h2 : clampI c.t < 1099511627776 → ¬ (x < clampI c.t ∧ clampI c.t ≤ y) := fun hl => h _ (hm.2 hl)
          have hiff : (clampI c.f < clampI c.t ∧ c.f ≤ y ∧ y < c.t) ↔ (clampI c.f < clampI c.t ∧ c.f ≤ x ∧ x < c.t) := by
            rcases clamp_facts c.f with ⟨a, b⟩ | ⟨a, d, b⟩ | ⟨a, b⟩ <;> rcases clamp_facts c.t with ⟨a', b'⟩ | ⟨a', d', b'⟩ | ⟨a', b'⟩ <;> rw [b] at h1 ⊢ <;> rw [b'] at h2 ⊢ <;> omega
          by_cases hc : clampI c.f < clampI c.t ∧ c.f ≤ x ∧ x < c.t
          · rw [if_pos hc, if_pos (hiff.2 hc)]
          · rw [if_neg hc, if_neg (fun hh => hc (hiff.1 hh))]
        · rw [if_neg (fun hh => hft hh.1), if_neg (fun hh => hft hh.1)]
      rw [hs]
      exact ih (fun d hd => hD d (List.mem_cons_of_mem _ hd)) _
  exact key C (fun c hc => hc) _
/-- the document's steps -/
def listR (first : Int) (C : List ChgC) : List (Int × Int) := (timesU C).foldl (fun l t => layU l t (ratU first C t)) []
theorem ratU_fold {first : Int} {C : List ChgC} {t : Int} (h0 : 0 ≤ t) (h1 : t < 1099511627776) : ratU first C t = C.foldl (ratStep t) (boundU first) := by
  unfold ratU
  rw [clampI_of h0 (by omega), if_neg (by omega)]
/-- what has been laid of times that rise -/
theorem lay_rep {g : Int → Int} : ∀ (r : List Int) (l : List (Int × Int)) (T : Int), 0 ≤ T → T < 1099511627776 → (T :: r).Pairwise (· < ·) → (∀ x ∈ r, x < 1099511627776) → RepU l g T →
    (∀ a b : List Int, ∀ x y : Int, T :: r = a ++ x :: y :: b → ∀ z, x ≤ z → z < y → g z = g x) → (∀ x, (T :: r).getLast? = some x → ∀ z, x ≤ z → z < 1099511627776 → g z = g x) → RepU ((T :: r).foldl (fun l t => layU l t (g t)) l) g 1099511627776
  | [], l, T, h0, h1, _, _, hr, _, hl => by
    rw [List.foldl_cons, List.foldl_nil]
    exact hr.lay h0 h1 (hl T rfl)
  | y :: r, l, T, h0, h1, hs, hh, hr, hg, hl => by
    rw [List.foldl_cons]
    obtain ⟨s1, s2⟩ := List.pairwise_cons.1 hs
    have hTy := s1 y List.mem_cons_self
    refine lay_rep r _ y (by omega) (hh y List.mem_cons_self) s2 (fun x hx => hh x (List.mem_cons_of_mem _ hx)) (hr.lay h0 hTy (hg [] r T y rfl)) (fun a b x z e => hg (T :: a) b x z (by rw [e]; rfl)) (fun x hx => hl x (by rw [List.getLast?_cons_cons]; exact hx))
theorem sorted_gap {l : List Int} (h : l.Pairwise (· < ·)) {a b : List Int} {x y : Int} (e : l = a ++ x :: y :: b) : ∀ p ∈ l, ¬ (x < p ∧ p < y) := by
  intro p hp hc
  rw [e] at h hp
  obtain ⟨_, h2, h3⟩ := List.pairwise_append.1 h
  obtain ⟨h4, h5⟩ := List.pairwise_cons.1 h2
  obtain ⟨h6, _⟩ := List.pairwise_cons.1 h5
  rcases List.mem_append.1 hp with hp | hp
  · have := h3 p hp x List.mem_cons_self; omega
  · rcases List.mem_cons.1 hp with rfl | hp
    · omega
    · rcases List.mem_cons.1 hp with rfl | hp
      · omega
      · have := h6 p hp; omega
theorem sorted_last {l : List Int} (h : l.Pairwise (· < ·)) {x : Int} (e : l.getLast? = some x) : ∀ p ∈ l, p ≤ x := by
  intro p hp
  obtain ⟨a, rfl⟩ := List.getLast?_eq_some_iff.1 e
  obtain ⟨_, _, h3⟩ := List.pairwise_append.1 h
  rcases List.mem_append.1 hp with hp | hp
  · have := h3 p hp x (by simp); omega
  · simp at hp; omega
theorem list_rep (first : Int) (C : List ChgC) : RepU (listR first C) (fun x => C.foldl (ratStep x) (boundU first)) 1099511627776 := by
  have ht := timesU_times C
  have hf : listR first C = (timesU C).foldl (fun l t => layU l t ((fun x => C.foldl (ratStep x) (boundU first)) t)) [] := by
    unfold listR
    have : ∀ (m : List Int) (l : List (Int × Int)), (∀ x ∈ m, 0 ≤ x ∧ x < 1099511627776) → m.foldl (fun l t => layU l t (ratU first C t)) l = m.foldl (fun l t => layU l t ((fun x => C.foldl (ratStep x) (boundU first)) t)) l := by
      intro m
      induction m with
      | nil => intro l _; rfl
      | cons x r ih =>
        intro l hm
        have hx := hm x List.mem_cons_self
        rw [List.foldl_cons, List.foldl_cons, ratU_fold hx.1 hx.2]
        exact ih _ (fun y hy => hm y (List.mem_cons_of_mem _ hy))
    exact this _ _ ht.hi
  rw [hf]
  have hz := ht.zero
  have hgap : ∀ a b : List Int, ∀ x y : Int, timesU C = a ++ x :: y :: b → ∀ z, x ≤ z → z < y → C.foldl (ratStep z) (boundU first) = C.foldl (ratStep x) (boundU first) := fun a b x y e z h1 h2 => by
    have hx := ht.hi x (by rw [e]; simp)
    have hy := ht.hi y (by rw [e]; simp)
    exact same_between hx.1 h1 (by omega) (fun p hp hc => sorted_gap ht.sorted e p hp ⟨hc.1, by omega⟩)
  have hlast : ∀ x, (timesU C).getLast? = some x → ∀ z, x ≤ z → z < 1099511627776 → C.foldl (ratStep z) (boundU first) = C.foldl (ratStep x) (boundU first) := fun x e z h1 h2 => by
    have hx := ht.hi x (List.mem_of_getLast? e)
    exact same_between hx.1 h1 h2 (fun p hp hc => by have := sorted_last ht.sorted e p hp; omega)
  cases hl : timesU C with
  | nil => rw [hl] at hz; simp at hz
  | cons T r =>
    rw [hl] at hz hgap hlast
    have hT : T = 0 := by simpa using hz
    subst hT
    exact lay_rep r [] 0 (by decide) (by decide) (hl ▸ ht.sorted) (fun x hx => (ht.hi x (by rw [hl]; exact List.mem_cons_of_mem _ hx)).2) ⟨fun _ => rfl, (fun p hp => by simp at hp), by simp, (fun a b p q e => by simp at e), (fun p hp => by cases hp), fun x h0 h1 => by omega⟩ hgap hlast
/-- the document's steps are those -/
theorem like_list {first : Int} {L : List (Int × Int)} {C : List ChgC} (h : LikeU first L C) (hr : RightU L) : listR first C = L := by
  have hrep := list_rep first C
  have hb : ∀ x, 0 ≤ x → x < 1099511627776 → -1000000 ≤ C.foldl (ratStep x) (boundU first) ∧ C.foldl (ratStep x) (boundU first) ≤ 1000000 := by
    intro x h0 h1
    have : ∀ (D : List ChgC) (v : Int), (-1000000 ≤ v ∧ v ≤ 1000000) → -1000000 ≤ D.foldl (ratStep x) v ∧ D.foldl (ratStep x) v ≤ 1000000 := by
      intro D
      induction D with
      | nil => intro v hv; exact hv
      | cons c r ih =>
        intro v hv
        rw [List.foldl_cons]
        refine ih _ ?_
        rw [ratStep_iff _ _ _ h0 h1]
        split
        · split
          · exact boundU_in _
          · exact addF_in _ _
        · exact hv
    exact this C _ (boundU_in _)
  refine right_same_steps (rep_right hrep hb) hr fun x h0 h1 => ?_
  rw [hrep.val x h0 h1, h x h0 h1]
end Go.Proofs.Ythdljigcfhjikaa
namespace Go.Proofs.Ythdljigcfhjikaa
set_option linter.unusedVariables false
open Go.ChangeShapes Go.WideShapes Go.ChangeAt Go.RowKit
/-- from a time on a width is free for m times -/
def GoodF (g : Int → Int) (m W y : Int) : Prop := ∀ x, y ≤ x → x < y + m → x < 1099511627776 → W ≤ g x
/-- what is told of runs to come; the second: where a stretch of enough width has begun -/
def startsGo (F m W : Int) : List (Int × Int × Int) → Option Int → List (Int × Int)
  | [], none => []
  | [], some a => if max a F < 1099511627776 then [(max a F, 1099511627776)] else []
  | r :: rs, none => startsGo F m W rs (if W ≤ r.2.2 then some r.1 else none)
  | r :: rs, some a => if W ≤ r.2.2 then startsGo F m W rs (some a) else (if r.1 - m + 1 ≤ max a F then [] else [(max a F, r.1 - m + 1)]) ++ startsGo F m W rs none
def startsU (L : List (Int × Int)) (F m W : Int) : List (Int × Int) := startsGo F m W (runsU L) none
/-- what spans tell of the times from T on (of those from a on, where a stretch is open) -/
structure StartsOk (g : Int → Int) (F m W lo : Int) (R : List (Int × Int)) : Prop where
  iff : ∀ y, lo ≤ y → y < 1099511627776 → ((∃ s ∈ R, s.1 ≤ y ∧ y < s.2) ↔ (F ≤ y ∧ GoodF g m W y))
  low : ∀ s ∈ R, lo ≤ s.1 ∧ F ≤ s.1 ∧ s.1 < s.2 ∧ s.2 ≤ 1099511627776
  rise : R.Pairwise (fun s s' => s.2 < s'.1)
theorem starts_ok {L : List (Int × Int)} (h : RightU L) {F m W : Int} (hF : 0 ≤ F) (hm : 1 ≤ m) : StartsOk (lvl 0 L) F m W 0 (startsU L F m W) := by
  have key : ∀ (n k : Nat) (T : Int), k + n = L.length → (k < L.length → T = (L.getD k (0, 0)).1) → (k = L.length → T = 1099511627776) → 0 ≤ T → T ≤ 1099511627776 →
      StartsOk (lvl 0 L) F m W T (startsGo F m W ((runsU L).drop k) none) ∧ ∀ a, 0 ≤ a → a < T → (∀ x, a ≤ x → x < T → W ≤ lvl 0 L x) → StartsOk (lvl 0 L) F m W a (startsGo F m W ((runsU L).drop k) (some a)) := by
    intro n
    induction n with
    | zero =>
      intro k T hk _ h2 _ _
      have hd : (runsU L).drop k = [] := by apply List.drop_eq_nil_of_le; unfold runsU; simp; omega
      have hT := h2 (by omega)
      rw [hd]
      refine ⟨⟨fun y h0 h1 => by omega, fun s hs => (by cases hs), List.Pairwise.nil⟩, fun a ha haT hw => ?_⟩
      unfold startsGo
      by_cases hc : max a F < 1099511627776
      · rw [if_pos hc]
        refine ⟨fun y h0 h1 => ?_, fun s hs => ?_, by simp⟩
        · simp only [List.mem_singleton, exists_eq_left]
          constructor
          · rintro ⟨q1, q2⟩
            exact ⟨by omega, fun x x1 x2 x3 => hw x (by omega) (by omega)⟩
          · rintro ⟨q1, q2⟩
            exact ⟨by omega, h1⟩
        · simp only [List.mem_singleton] at hs
          subst hs
          exact ⟨by simp only; omega, by simp only; omega, hc, Int.le_refl _⟩
      · rw [if_neg hc]
        refine ⟨fun y h0 h1 => ?_, fun s hs => (by cases hs), List.Pairwise.nil⟩
        constructor
        · rintro ⟨s, hs, _⟩; cases hs
        · rintro ⟨q1, _⟩; omega
    | succ n ih =>
      intro k T hk h1 _ h0 hT
      have hkl : k < L.length := by omega
      rw [runsU_drop' hkl]
      obtain ⟨b0, b1, b2⟩ := toU_le h hkl
      have hl : ∀ x, (L.getD k (0, 0)).1 ≤ x → x < toU L k → lvl 0 L x = (L.getD k (0, 0)).2 := fun x hx hx' => lvl_at h.sorted 0 k x hkl hx fun hk1 => by unfold toU at hx'; rw [if_pos hk1] at hx'; exact hx'
      have e0 := h1 hkl
      obtain ⟨i1, i2⟩ := ih (k + 1) (toU L k) (by omega) (fun hk1 => by unfold toU; rw [if_pos hk1]) (fun hk1 => by unfold toU; rw [if_neg (by omega)]) (by omega) b2
      generalize hA : (L.getD k (0, 0)).1 = A at *
      generalize hV : (L.getD k (0, 0)).2 = V at *
      subst e0
      by_cases hv : W ≤ V
      · constructor
        · unfold startsGo
          simp only
          rw [if_pos hv]
          exact i2 T b0 b1 (fun x x1 x2 => by rw [hl x x1 x2]; exact hv)
        · intro a ha haT hw
          unfold startsGo
          simp only
          rw [if_pos hv]
          exact i2 a ha (by omega) (fun x x1 x2 => by
            by_cases hx : x < T
            · exact hw x x1 hx
            · rw [hl x (by omega) x2]; exact hv)
      · have hbad : ∀ y, T ≤ y → y < toU L k → ¬ GoodF (lvl 0 L) m W y := fun y y1 y2 hg => by
          have := hg y (Int.le_refl _) (by omega) (by omega)
          rw [hl y y1 y2] at this
          exact hv this
        have hnone : StartsOk (lvl 0 L) F m W T (startsGo F m W ((runsU L).drop (k + 1)) none) := by
          refine ⟨fun y y0 y1 => ?_, fun s hs => ?_, i1.rise⟩
          · by_cases hy : toU L k ≤ y
            · exact i1.iff y hy y1
            · constructor
              · rintro ⟨s, hs, q1, q2⟩
                have := (i1.low s hs).1
                omega
              · rintro ⟨_, q2⟩
                exact absurd q2 (hbad y y0 (by omega))
          · obtain ⟨q1, q2, q3, q4⟩ := i1.low s hs
            exact ⟨by omega, q2, q3, q4⟩
        constructor
        · unfold startsGo
          simp only
          rw [if_neg hv]
          exact hnone
        · intro a ha haT hw
          unfold startsGo
          simp only
          rw [if_neg hv]
          have hgood : ∀ y, a ≤ y → y < T → (GoodF (lvl 0 L) m W y ↔ y < T - m + 1) := fun y y0 y1 => by
            constructor
            · intro hg
              refine Classical.byContradiction fun hc => ?_
              have := hg T (by omega) (by omega) (by omega)
              rw [hl T (Int.le_refl _) b1] at this
              exact hv this
            · intro hc x x1 x2 x3
              exact hw x (by omega) (by omega)
          have iffs : ∀ y, a ≤ y → y < 1099511627776 → ((∃ s ∈ (if T - m + 1 ≤ max a F then [] else [(max a F, T - m + 1)]) ++ startsGo F m W ((runsU L).drop (k + 1)) none, s.1 ≤ y ∧ y < s.2) ↔ (F ≤ y ∧ GoodF (lvl 0 L) m W y)) := fun y y0 y1 => by
            by_cases hy : y < T
            · rw [hgood y y0 hy]
              constructor
              · rintro ⟨s, hs, q1, q2⟩
                rcases List.mem_append.1 hs with hs | hs
                · split at hs
                  · cases hs
                  · simp only [List.mem_singleton] at hs
                    subst hs
                    simp only at q1 q2
                    exact ⟨by omega, q2⟩
                · have := (hnone.low s hs).1; omega
              · rintro ⟨q1, q2⟩
                refine ⟨(max a F, T - m + 1), List.mem_append_left _ ?_, by simp only; omega, q2⟩
                rw [if_neg (by omega)]
                exact List.mem_singleton.2 rfl
            · rw [← hnone.iff y (by omega) y1]
              constructor
              · rintro ⟨s, hs, q1, q2⟩
                rcases List.mem_append.1 hs with hs | hs
                · split at hs
                  · cases hs
                  · simp only [List.mem_singleton] at hs
                    subst hs
                    simp only at q2
                    omega
                · exact ⟨s, hs, q1, q2⟩
              · rintro ⟨s, hs, q1, q2⟩
                exact ⟨s, List.mem_append_right _ hs, q1, q2⟩
          refine ⟨iffs, fun s hs => ?_, ?_⟩
          · rcases List.mem_append.1 hs with hs | hs
            · split at hs
              · cases hs
              · simp only [List.mem_singleton] at hs
                subst hs
                exact ⟨by simp only; omega, by simp only; omega, by simp only; omega, by simp only; omega⟩
            · obtain ⟨q1, q2, q3, q4⟩ := hnone.low s hs
              exact ⟨by omega, q2, q3, q4⟩
          · rw [List.pairwise_append]
            refine ⟨by split <;> simp, hnone.rise, fun s hs s' hs' => ?_⟩
            split at hs
            · cases hs
            · simp only [List.mem_singleton] at hs
              subst hs
              -- what comes later begins behind the run that is too low
              have hs1 : toU L k ≤ s'.1 := (i1.low s' hs').1
              simp only
              omega
  have h0 := (key L.length 0 0 (by omega) (fun h0 => by obtain ⟨v, r, e⟩ := h.head; rw [e]; rfl) (fun h0 => by obtain ⟨v, r, e⟩ := h.head; rw [e] at h0; simp at h0) (by omega) (by omega)).1
  rw [List.drop_zero] at h0
  exact h0
/-- the first time, if there is one -/
def firstU (R : List (Int × Int)) : Int := ((R.head?).map (·.1)).getD 1099511627776
theorem first_spec {g : Int → Int} {F m W : Int} {R : List (Int × Int)} (h : StartsOk g F m W 0 R) (hF : 0 ≤ F) : (firstU R < 1099511627776 → F ≤ firstU R ∧ GoodF g m W (firstU R)) ∧ (∀ y, F ≤ y → y < firstU R → y < 1099511627776 → ¬ GoodF g m W y) ∧ 0 ≤ firstU R ∧ firstU R ≤ 1099511627776 := by
  cases R with
  | nil =>
    unfold firstU
    refine ⟨fun hh => by simp at hh, fun y h0 h1 h2 hg => ?_, by simp, by simp⟩
    obtain ⟨s, hs, _⟩ := (h.iff y (by omega) h2).2 ⟨h0, hg⟩
    cases hs
  | cons s r =>
    obtain ⟨q1, q2, q3, q4⟩ := h.low s List.mem_cons_self
    unfold firstU
    simp only [List.head?_cons, Option.map_some, Option.getD_some]
    refine ⟨fun hh => (h.iff s.1 q1 hh).1 ⟨s, List.mem_cons_self, Int.le_refl _, q3⟩, fun y h0 h1 h2 hg => ?_, q1, by omega⟩
    obtain ⟨s', hs', p1, p2⟩ := (h.iff y (by omega) h2).2 ⟨h0, hg⟩
    rcases List.mem_cons.1 hs' with rfl | hs'
    · omega
    · have := (List.pairwise_cons.1 h.rise).1 s' hs'
      omega
end Go.Proofs.Ythdljigcfhjikaa
namespace Go.Proofs.Ythdljigcfhjikaa
set_option linter.unusedVariables false
open Go.ChangeShapes Go.WideShapes Go.ChangeAt Go.RowKit
attribute [local go_sem ↓] Go.wp_at_zero Go.wp_at_succ comesTo_value_eq comesTo_skip_eq comesTo_enter_eq

/-- what Fits tells -/
def fitsU (L : List (Int × Int)) (f t W : Int) : Bool := decide (clampI t ≤ clampI f) || decide (chooseU minU L (f, t) ≥ W)
set_option maxRecDepth 100000 in
set_option maxHeartbeats 2000000 in
theorem fits_any {w : World} {S : Nat} {L : List (Int × Int)} (h : USt w S L) (f t W : Int) :
    Calls Try.prog 44 #[.pointer (some ⟨S, 0, none⟩), .agg #[.int .i64 f, .int .i64 t], .int .i64 W] w fun e w' => e = .returned (.bool (fitsU L f t W)) ∧ Below w.heap.size w w' := by
  have hb0 := below_alloc (Below.refl _ w) (.cells #[.int .i64 f, .int .i64 t] 25)
  have n0 := World.alloc_heap_new w (.cells #[.int .i64 f, .int .i64 t] 25)
  have KL := Lib.hid (fun W (hb : Below w.heap.size w W) => least_any (h.below hb) f t)
  have KE := Lib.hid (fun W => empty_any f t W)
  obtain ⟨res, hres⟩ : ∃ r, r = fitsU L f t W := ⟨_, rfl⟩
  rw [← hres]
  have HR := Lib.hid (show res = (decide (clampI t ≤ clampI f) || decide (chooseU minU L (f, t) ≥ W)) from hres)
  clear h hres
  generalize chooseU minU L (f, t) = cl at *
  go_enter Try.func44, Try.ntmps44
  go_upto_region 1 with fail
  generalize w.alloc (.cells #[.int .i64 f, .int .i64 t] 25) = W0 at *
  have c0 := cell_of_block (o := 0) n0 rfl
  have c1 := cell_of_block (o := 1) n0 rfl
  go_wp2_with fail
  refine (KE.out _).mono ?_
  rintro e W1 ⟨rfl, hb1⟩
  have n1 := (hb1.block _ (Array.getElem?_eq_some_iff.1 n0).1).trans n0
  have c0 := cell_of_block (o := 0) n1 rfl
  have c1 := cell_of_block (o := 1) n1 rfl
  have HB1 := Lib.hid (below_next hb0 hb1)
  clear hb0 hb1 n0 n1
  cases hd : decide (clampI t ≤ clampI f) with
  | true =>
    have E := HR.out
    rw [hd, Bool.true_or] at E
    subst E
    go_wp2_with fail
    go_ret
    exact ⟨rfl, HB1.out⟩
  | false =>
    have E := Lib.hid (show res = decide (cl ≥ W) by rw [HR.out, hd, Bool.false_or])
    go_wp2_with fail
    refine (KL.out _ HB1.out).mono ?_
    rintro e W2 ⟨rfl, hb2⟩
    have HB2 := Lib.hid (below_next HB1.out hb2)
    clear hb2
    go_wp2_with fail
    go_ret
    exact ⟨by rw [E.out]; rfl, HB2.out⟩
/-- what Widest tells -/
def widestU (L : List (Int × Int)) (from_ many : Int) : Int := if clampI from_ = 1099511627776 then atU L (clampI from_) else chooseU minU L (clampI (clampI from_), addI (clampI from_) (maxU many 1))
set_option maxRecDepth 100000 in
set_option maxHeartbeats 2000000 in
theorem levels_any {w : World} {S : Nat} {L : List (Int × Int)} (h : USt w S L) :
    Calls Try.prog 85 #[.pointer (some ⟨S, 0, none⟩)] w fun e w' => ∃ g c, e = .returned (.slice (some ⟨g, 0, none⟩) L.length c) ∧ w.heap.size ≤ g ∧ g < w'.heap.size ∧ L.length ≤ c ∧ URow w' g L ∧ Below w.heap.size w w' := by
  have hpos := h.pos
  have KL := Lib.hid (list_any h)
  clear h
  go_enter Try.func85, Try.ntmps85
  go_wp2_with fail
  refine KL.out.mono ?_
  rintro e w1 ⟨g, c, rfl, g1, g2, g3, g4, hb1⟩
  have hd : decide ((L.length : Int) > 0) = true := decide_eq_true (by omega)
  have HX := Lib.hid (And.intro g4 hb1)
  clear g4 hb1
  go_wp2_with fail
  go_ret
  exact ⟨g, c, rfl, g1, g2, g3, HX.out.1, HX.out.2⟩
set_option maxRecDepth 100000 in
set_option maxHeartbeats 2000000 in
/-- of levels that nobody made the level is 0 -/
theorem levels_no {w : World} {v : Value} (h : NoU w v) :
    Calls Try.prog 85 #[v] w fun e w' => ∃ g c, e = .returned (.slice (some ⟨g, 0, none⟩) 1 c) ∧ w.heap.size ≤ g ∧ g < w'.heap.size ∧ 1 ≤ c ∧ URow w' g [(0, 0)] ∧ Below w.heap.size w w' := by
  have KL := Lib.hid (list_no h)
  have KF := Lib.hid (fun W => (show Calls Try.prog 32 #[.int .i64 0] W fun e w' => ∃ S, e = .returned (.pointer (some ⟨S, 0, none⟩)) ∧ W.heap.size ≤ S ∧ USt w' S [(0, 0)] ∧ Below W.heap.size W w' from flat_any 0 W))
  clear h
  go_enter Try.func85, Try.ntmps85
  go_wp2_with fail
  refine KL.out.mono ?_
  rintro e w1 ⟨rfl, hb1⟩
  have HB1 := Lib.hid hb1
  clear hb1
  go_wp2_with fail
  refine (KF.out _).mono ?_
  rintro e w2 ⟨S, rfl, hS, hu, hb2⟩
  have HU := Lib.hid hu
  have HB2 := Lib.hid (below_next HB1.out hb2)
  clear hu hb2
  go_wp2_with fail
  refine (list_any HU.out).mono ?_
  rintro e w3 ⟨g, c, rfl, g1, g2, g3, g4, hb3⟩
  have HX := Lib.hid (And.intro g4 (below_next HB2.out hb3))
  have hs2 := HB2.out.size
  clear g4 hb3
  go_wp2_with fail
  go_ret
  exact ⟨g, c, rfl, by omega, g2, g3, HX.out.1, HX.out.2⟩
set_option maxRecDepth 100000 in
set_option maxHeartbeats 2000000 in
theorem widest_any {w : World} {S : Nat} {L : List (Int × Int)} (h : USt w S L) (from_ many : Int) :
    Calls Try.prog 40 #[.pointer (some ⟨S, 0, none⟩), .int .i64 from_, .int .i64 many] w fun e w' => e = .returned (.int .i64 (widestU L from_ many)) ∧ Below w.heap.size w w' := by
  have KA := Lib.hid (fun W (hb : Below w.heap.size w W) x => at_any (h.below hb) x)
  have KL := Lib.hid (fun W (hb : Below w.heap.size w W) x y => least_any (h.below hb) x y)
  have KC := Lib.hid (fun W => clamp_any from_ W)
  obtain ⟨res, hres⟩ : ∃ r, r = widestU L from_ many := ⟨_, rfl⟩
  rw [← hres]
  have HR := Lib.hid (show res = if clampI from_ = 1099511627776 then atU L (clampI from_) else chooseU minU L (clampI (clampI from_), addI (clampI from_) (maxU many 1)) from hres)
  clear h hres
  generalize clampI from_ = F at *
  by_cases hF : F = 1099511627776
  case pos =>
    have hq : (F == 1099511627776) = true := beq_iff_eq.2 hF
    have E := Lib.hid (show res = atU L F by rw [HR.out, if_pos hF])
    clear hF
    go_enter Try.func40, Try.ntmps40
    go_wp2_with fail
    refine (KC.out _).mono ?_
    rintro e w' ⟨rfl, rfl⟩
    go_wp2_with fail
    refine (KA.out _ (Below.refl _ _) F).mono ?_
    rintro e w2 ⟨rfl, hb2⟩
    have HB2 := Lib.hid hb2
    clear hb2
    go_wp2_with fail
    go_ret
    exact ⟨by rw [E.out]; rfl, HB2.out⟩
  case neg =>
    have hq : (F == 1099511627776) = false := beq_false_of_ne hF
    obtain ⟨m, hm⟩ : ∃ m, m = maxU many 1 := ⟨_, rfl⟩
    have E := Lib.hid (show res = chooseU minU L (clampI F, addI F m) by rw [HR.out, if_neg hF, hm])
    clear hF
    have hmm : (many < 1 ∧ m = 1) ∨ (1 ≤ many ∧ m = many) := by rw [hm]; unfold maxU; split <;> omega
    clear hm
    rcases hmm with ⟨h1, rfl⟩ | ⟨h1, rfl⟩
    all_goals (
      go_enter Try.func40, Try.ntmps40
      go_wp2_with fail
      refine (KC.out _).mono ?_
      rintro e w' ⟨rfl, rfl⟩
      go_wp2_with fail
      refine (of_any _ _ _).mono ?_
      rintro e w2 ⟨rfl, hb2⟩
      have HB2 := Lib.hid hb2
      clear hb2
      go_wp2_with fail
      refine (KL.out _ HB2.out _ _).mono ?_
      rintro e w3 ⟨rfl, hb3⟩
      have HB3 := Lib.hid (below_next HB2.out hb3)
      clear hb3
      go_wp2_with fail
      go_ret
      exact ⟨by rw [E.out]; rfl, HB3.out⟩)
end Go.Proofs.Ythdljigcfhjikaa
namespace Go.Proofs.Ythdljigcfhjikaa
set_option linter.unusedVariables false
open Go.ChangeShapes Go.WideShapes Go.RowKit Go.Deep

theorem sAsk : Try.prog.underlying 70 = some (.struct (Try.prog.fieldsOf 70)) := by kernel_rfl
theorem fAsk : (Try.prog.fieldsOf 70).toList.map (fun f => (f.offset, Try.prog.cellsOf f.type, f.type)) = [(0, 1, 23), (1, 1, 23), (2, 1, 3), (3, 2, 25)] := by kernel_rfl
theorem cellsAsk : Try.prog.cellsOf 70 = 5 := by kernel_rfl
def i64In (x : Int) : Prop := -9223372036854775808 ≤ x ∧ x ≤ 9223372036854775807
set_option maxRecDepth 10000 in
theorem ask_open {H : Type} {enc : TypeId × Value → H} {W : World} {base b0 : Nat} {spare : Nat → Bool} {held : Bool} {r : Reach} {v : Value} {d : DataW H} {p : List MemPlace}
    (hv : Value.okWide Try.prog W r b0 70 v) (h : DataW.Trod enc Try.prog W base spare held 70 v d p) :
    ∃ f n k g t : Int, (i64In f ∧ i64In n ∧ i64In k ∧ i64In g ∧ i64In t) ∧ v = .agg #[.int .i64 f, .int .i64 n, .int .i64 k, .int .i64 g, .int .i64 t] := by
  obtain ⟨cs, rfl, hsz⟩ := okWide_struct sAsk hv
  rw [cellsAsk] at hsz
  obtain ⟨fuel, hf⟩ := h
  have hcs : (Value.agg cs).cells.toList = cs.toList := rfl
  rw [hcs] at hf
  obtain ⟨l, rfl⟩ : ∃ l : List Value, cs = l.toArray := ⟨cs.toList, by simp⟩
  match l, hsz with
  | [c0, c1, c2, c3, c4], _ =>
    obtain ⟨n0, y0, h0⟩ := trod_field sAsk hf fAsk (i := 0) rfl
    obtain ⟨n1, y1, h1⟩ := trod_field sAsk hf fAsk (i := 1) rfl
    obtain ⟨n2, y2, h2⟩ := trod_field sAsk hf fAsk (i := 2) rfl
    obtain ⟨n3, y3, h3⟩ := trod_field sAsk hf fAsk (i := 3) rfl
    obtain ⟨n4, y4, h4⟩ := trod_field sSpan h3 fSpan (i := 0) rfl
    obtain ⟨n5, y5, h5⟩ := trod_field sSpan h3 fSpan (i := 1) rfl
    obtain ⟨a0, e0, _, w0⟩ := DataW.trod_int Try.underlying23 h0
    obtain ⟨a1, e1, _, w1⟩ := DataW.trod_int Try.underlying23 h1
    obtain ⟨a2, e2, _, w2⟩ := DataW.trod_int Try.underlying3 h2
    obtain ⟨a3, e3, _, w3⟩ := DataW.trod_int Try.underlying23 h4
    obtain ⟨a4, e4, _, w4⟩ := DataW.trod_int Try.underlying23 h5
    have f0 : c0 = .int .i64 a0 := by simpa using e0
    have f1 : c1 = .int .i64 a1 := by simpa using e1
    have f2 : c2 = .int .i64 a2 := by simpa using e2
    have f3 : c3 = .int .i64 a3 := by simpa using e3
    have f4 : c4 = .int .i64 a4 := by simpa using e4
    subst f0 f1 f2 f3 f4
    refine ⟨_, _, _, _, _, ⟨?_, ?_, ?_, ?_, ?_⟩, rfl⟩
    · unfold i64In; simpa [Lit.wf, IntKind.min, IntKind.max, IntKind.signed, IntKind.bits] using w0
    · unfold i64In; simpa [Lit.wf, IntKind.min, IntKind.max, IntKind.signed, IntKind.bits] using w1
    · unfold i64In; simpa [Lit.wf, IntKind.min, IntKind.max, IntKind.signed, IntKind.bits] using w2
    · unfold i64In; simpa [Lit.wf, IntKind.min, IntKind.max, IntKind.signed, IntKind.bits] using w3
    · unfold i64In; simpa [Lit.wf, IntKind.min, IntKind.max, IntKind.signed, IntKind.bits] using w4
end Go.Proofs.Ythdljigcfhjikaa
