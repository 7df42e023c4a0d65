/- Laws that belong together: Levels (layer 10): change. Condition: the lengths' bounds, and that some step comes of it.; Levels (layer 10): Flat, Add, Set. Condition: the lengths' bounds, and that some step comes of it.; Levels (layer 10): the area of a span; Forget. Condition: the lengths' bound.; Levels (layer 10), plainly: what a change leaves; steps that tell the same levels are the same. No condition but that the steps are right.; Levels (layer 10), plainly: the least and the greatest level of a span, the level at a time, by the level at each time. No condition but that the steps are right.; Levels (layer 10), plainly: the area of a span is the sum of its times' levels, of those above 0. No condition but that the steps are right.; Levels (layer 10): another one that is the same: slices.Clone of steps, List, Clone. Condition: the lengths' bound.; Levels (layer 10): whether two have the same; Forget. Condition: the lengths' bound.; Levels (layer 10): Add, Set, Forget over right steps. Condition: the lengths' bound.; Levels (layer 10): the law's own play; UsageNobody walked. No condition.; Levels (layer 10): an act that comes in as an argument. No condition.; Levels (layer 10): a row of acts that comes in as an argument. No condition.; Levels (layer 10): Play of no acts; UsageBack walked (under way).; Levels (layer 10), plainly: what adding to a span's levels leaves (for UsageBack). No condition but that the steps are right and the levels small.; Levels (layer 10), plainly: areas of small levels (for UsageAreas). No condition but that the steps are right and the levels small. -/
import Derived.Test.YtdamemdfehopeaaDoorMaf
import Derived.Laws.EntriesVeiled
import Derived.Deep.Slices
import Derived.WideShapes
import Derived.ChangeArms
namespace Go.Proofs.YtdamemdfehopeaaDoor
set_option linter.unusedVariables false
open Go.ChangeShapes Go.WideShapes Go.ChangeAt Go.RowKit
attribute [local go_sem ↓] Go.wp_at_zero Go.wp_at_succ comesTo_value_eq comesTo_skip_eq comesTo_enter_eq

/-- the levels behind a change of a span's -/
def changeU (fn : Int → Int) (L : List (Int × Int)) (t : Int × Int) : List (Int × Int) := if clampI t.2 ≤ clampI t.1 then L else (runsU L).foldl (stepU t fn) []
theorem foldl_len (t : Int × Int) (fn : Int → Int) : ∀ (rs : List (Int × Int × Int)) (l : List (Int × Int)), (rs.foldl (stepU t fn) l).length ≤ l.length + 3 * rs.length
  | [], l => by simp
  | r :: rs, l => by
    have h1 := foldl_len t fn rs (stepU t fn l r)
    have h2 := stepU_len t fn l r
    simp only [List.foldl_cons, List.length_cons]
    omega
theorem changeU_len (fn : Int → Int) (L : List (Int × Int)) (t : Int × Int) : (changeU fn L t).length ≤ 3 * L.length := by
  unfold changeU
  split
  · omega
  · have := foldl_len t fn (runsU L) []
    have h2 : (runsU L).length = L.length := by unfold runsU; simp
    simp only [List.length_nil] at this
    omega
/-- runs under change -/
theorem runs_change {w : World} {z S g c : Nat} {L : List (Int × Int)} (hlen : L.length ≤ 1099511627776) (f t : Int) (bf : FuncId) (bc : Array Value) (fn : Int → Int) (hE : Go.Proofs.Enters Tryd.prog bf)
    (hF : ∀ a W', Below w.heap.size w W' → Calls Tryd.prog bf (#[.int .i64 a] ++ bc) W' fun e w' => e = .returned (.int .i64 (fn a)) ∧ W' = w')
    (hU : ∀ W, Below w.heap.size w W → W.cell? ⟨S, 0, none⟩ = some (.slice (some ⟨g, 0, none⟩) L.length c) ∧ URow W g L) (W : World) (hW : ChgU w W z f t bf bc []) :
    Calls Tryd.prog 135 #[.pointer (some ⟨S, 0, none⟩), .func (.func 136) #[] #[.pointer (some ⟨w.heap.size, 0, none⟩), .pointer (some ⟨z + 2, 0, none⟩), .pointer (some ⟨w.heap.size + 1, 0, none⟩)]] W
      fun e w' => (∃ v, e = .returned v) ∧ ChgU w w' z f t bf bc ((runsU L).foldl (stepU (f, t) fn) []) := by
  refine (runs_any (S := S) (g := g) (c := c) hlen 136 #[.pointer (some ⟨w.heap.size, 0, none⟩), .pointer (some ⟨z + 2, 0, none⟩), .pointer (some ⟨w.heap.size + 1, 0, none⟩)]
    (fun k W => ∃ l, ChgU w W z f t bf bc l ∧ l.length ≤ 3 * k ∧ ((runsU L).drop k).foldl (stepU (f, t) fn) l = (runsU L).foldl (stepU (f, t) fn) []) (fun _ => False) W
    (enters_of Tryd.func136 (by kernel_rfl) rfl) ⟨[], hW, by simp, rfl⟩ (fun k W' ⟨l, hc, _⟩ => hU W' hc.bel) (fun k W' W'' ⟨l, hc, hl, he⟩ hb => ⟨l, hc.below hb, hl, he⟩) ?_).mono ?_
  · intro k W' hk ⟨l, hc, hl, he⟩
    refine (visit_any hc (by omega) fn hE hF (L.getD k (0, 0)).1 (toU L k) (L.getD k (0, 0)).2).mono ?_
    rintro e W'' ⟨rfl, hc2⟩
    refine ⟨true, rfl, fun _ => ⟨_, hc2, ?_, ?_⟩, fun h => by cases h⟩
    · have := stepU_len (f, t) fn l ((L.getD k (0, 0)).1, toU L k, (L.getD k (0, 0)).2); omega
    · rw [runsU_drop hk] at he
      exact he
  · rintro e W' ⟨hv, hx | hx⟩
    · obtain ⟨l, hc, _, he⟩ := hx
      rw [runsU_end] at he
      exact ⟨hv, by rw [← he]; exact hc⟩
    · exact hx.elim
/-- the row of S's steps does not lie in block b -/
def RowNe (w : World) (S b : Nat) : Prop := ∃ g n c, w.heap[S]? = some (.cells #[.slice (some ⟨g, 0, none⟩) n c] 116 (0, 0)) ∧ g ≠ b
/-- of the blocks that were there just S may have turned, and its row lies in none of them, but where it lay -/
structure FrU (S : Nat) (w w' : World) : Prop extends Fr (fun b => b = S) w w' where
  row : ∀ b, b < w.heap.size → RowNe w S b → RowNe w' S b
theorem RowNe.below {w w' : World} {S b : Nat} (h : RowNe w S b) (hb : Below w.heap.size w w') : RowNe w' S b := by
  obtain ⟨g, n, c, h1, h2⟩ := h
  exact ⟨g, n, c, (hb.block _ (Array.getElem?_eq_some_iff.1 h1).1).trans h1, h2⟩
theorem FrU.of_below {S : Nat} {w w' : World} (h : Below w.heap.size w w') : FrU S w w' := ⟨Fr.of_below h, fun b _ hr => hr.below h⟩
theorem FrU.refl (S : Nat) (w : World) : FrU S w w := ⟨Fr.refl _ w, fun _ _ h => h⟩
theorem FrU.after {S : Nat} {w W w' : World} (hb : Below w.heap.size w W) (h : FrU S W w') : FrU S w w' :=
  ⟨Fr.trans (Fr.of_below hb) h.toFr fun j hj => .inl hj, fun b hlt hr => h.row b (Nat.lt_of_lt_of_le hlt hb.size) (hr.below hb)⟩
theorem USt.rowNe {w : World} {S : Nat} {L : List (Int × Int)} (h : USt w S L) {b : Nat} (hb : w.heap.size ≤ b) : RowNe w S b := by
  obtain ⟨g, c, hg, hS, hc, hs, hr⟩ := h.at_
  exact ⟨g, _, c, hS, by omega⟩
/-- levels stay where a block is written that is neither theirs nor their row's -/
theorem USt.wrote {w w' : World} {S B : Nat} {L : List (Int × Int)} (h : USt w S L) (hn : RowNe w S B) (hSB : S ≠ B) (hk : ∀ k, k ≠ B → w'.heap[k]? = w.heap[k]?) (hs : w.heap.size ≤ w'.heap.size) : USt w' S L ∧ RowNe w' S B := by
  obtain ⟨g, c, hg, hS, hc, hs', hr⟩ := h.at_
  obtain ⟨g2, n2, c2, h1, h2⟩ := hn
  rw [hS] at h1
  have e : g = g2 := by
    have := Option.some.inj h1
    injection this with e1
    have e2 : (Value.slice (some ⟨g, 0, none⟩) L.length c) = .slice (some ⟨g2, 0, none⟩) n2 c2 := by simpa using e1
    injection e2 with e3
    simpa using e3
  subst e
  exact ⟨⟨⟨g, c, hg, (hk S hSB).trans hS, hc, Nat.lt_of_lt_of_le hs' hs, hr.mono (hk g h2)⟩, h.pos, h.len⟩, ⟨g, _, c, (hk S hSB).trans hS, h2⟩⟩
set_option maxRecDepth 100000 in
set_option maxHeartbeats 8000000 in
theorem change_any {w : World} {S : Nat} {L : List (Int × Int)} (h : USt w S L) (f t : Int) (bf : FuncId) (bc : Array Value) (fn : Int → Int) (hE : Go.Proofs.Enters Tryd.prog bf)
    (hF : ∀ a W', Below w.heap.size w W' → Calls Tryd.prog bf (#[.int .i64 a] ++ bc) W' fun e w' => e = .returned (.int .i64 (fn a)) ∧ W' = w')
    (hlen' : (changeU fn L (f, t)).length ≤ 1099511627776) (hpos : 0 < (changeU fn L (f, t)).length) :
    Calls Tryd.prog 102 #[.pointer (some ⟨S, 0, none⟩), .agg #[.int .i64 f, .int .i64 t], .func (.func bf) #[] bc] w
      fun e w' => e = .returned (.int .i64 0) ∧ USt w' S (changeU fn L (f, t)) ∧ FrU S w w' := by
  obtain ⟨g, c, hg, hS, hc, hs, hr⟩ := h.at_
  have hSl := (Array.getElem?_eq_some_iff.1 hS).1
  have hlen := h.len
  have hU : ∀ W, Below w.heap.size w W → W.cell? ⟨S, 0, none⟩ = some (.slice (some ⟨g, 0, none⟩) L.length c) ∧ URow W g L := fun W hb => ⟨cell_of_block (o := 0) ((hb.block _ hSl).trans hS) rfl, hr.mono (hb.block _ hs)⟩
  have KR := Lib.hid (fun z W hW => runs_change (z := z) hlen f t bf bc fn hE hF hU W hW)
  have KT := Lib.hid (fun W (hb : Below w.heap.size w W) => there_any (h.below hb))
  have KE := Lib.hid (fun W => empty_any f t W)
  have HH := Lib.hid h
  have HU := Lib.hid hU
  have HS := Lib.hid hS
  clear hF hE hg hc hs hr hU hS h
  obtain ⟨res, hres⟩ : ∃ r, r = changeU fn L (f, t) := ⟨_, rfl⟩
  rw [← hres] at hlen' hpos ⊢
  have HR := Lib.hid hres
  clear hres
  have hb1 := below_alloc (Below.refl _ w) (.cells #[.int .i64 f, .int .i64 t] 38)
  have hb2 := below_alloc hb1 (.cells #[.func (.func bf) #[] bc] 95)
  have HB2 := Lib.hid hb2
  have n1 := World.alloc_heap_new w (.cells #[.int .i64 f, .int .i64 t] 38)
  have n2 := World.alloc_heap_new (w.alloc (.cells #[.int .i64 f, .int .i64 t] 38)) (.cells #[.func (.func bf) #[] bc] 95)
  rw [show (w.alloc (.cells #[.int .i64 f, .int .i64 t] 38)).heap.size = w.heap.size + 1 by simp] at n2
  have n1' := (((below_alloc (Below.refl _ (w.alloc (.cells #[.int .i64 f, .int .i64 t] 38))) (.cells #[.func (.func bf) #[] bc] 95)).block _ (by simp)).trans n1)
  have hs2 : ((w.alloc (.cells #[.int .i64 f, .int .i64 t] 38)).alloc (.cells #[.func (.func bf) #[] bc] 95)).heap.size = w.heap.size + 1 + 1 := by simp
  have N1 := Lib.hid n1'
  have N2 := Lib.hid n2
  clear n1 n2 n1' hb1 hb2
  go_enter Tryd.func102, Tryd.ntmps102
  go_upto_region 1 with fail
  generalize (w.alloc (.cells #[.int .i64 f, .int .i64 t] 38)).alloc (.cells #[.func (.func bf) #[] bc] 95) = W2 at *
  have s0 := cell_of_block (o := 0) N1.out rfl
  have s1 := cell_of_block (o := 1) N1.out rfl
  go_wp2_with fail
  refine (KT.out _ HB2.out).mono ?_
  rintro e w' ⟨rfl, rfl⟩
  go_wp2_with fail
  refine (KE.out _).mono ?_
  rintro e W3 ⟨rfl, hb3⟩
  have HB3 := Lib.hid (below_next HB2.out hb3)
  have M1 := Lib.hid ((hb3.block _ (Array.getElem?_eq_some_iff.1 N1.out).1).trans N1.out)
  have M2 := Lib.hid ((hb3.block _ (Array.getElem?_eq_some_iff.1 N2.out).1).trans N2.out)
  have hz2 : w.heap.size + 1 < W3.heap.size := by have := hb3.size; omega
  clear hb3 N1 N2 s0 s1 hs2 HB2
  cases hem : decide (clampI t ≤ clampI f) with
  | true =>
    have E := Lib.hid (show res = L by rw [HR.out]; unfold changeU; exact if_pos (of_decide_eq_true hem))
    go_wp2_with fail
    go_ret
    exact ⟨rfl, by rw [E.out]; exact HH.out.below HB3.out, FrU.of_below HB3.out⟩
  | false =>
    have E := Lib.hid (show res = (runsU L).foldl (stepU (f, t) fn) [] by rw [HR.out]; unfold changeU; exact if_neg (of_decide_eq_false hem))
    have hw2 : IntKind.i64.wrap ((L.length : Int) + 2) = ((L.length + 2 : Nat) : Int) := by rw [IntKind.wrap_i64]; omega
    have cS := (HU.out W3 HB3.out).1
    clear hem
    go_upto_region 5 with fail
    refine wp_region_lit ?_
    refine wpList_yield (w' := W3) (v := .pointer (some ⟨S, 0, none⟩)) rfl (by first | (go_simp; done) | (go_simp; rfl)) ?_
    refine wpList_yield (w' := W3) (v := .pointer (some ⟨S, 0, none⟩)) rfl (by first | (go_simp; done) | (go_simp; rfl)) ?_
    refine wpList_yield (w' := W3) (v := .pointer (some ⟨S, 0, none⟩)) rfl (by first | (go_simp; done) | (go_simp; rfl)) ?_
    refine wpList_yield (w' := W3) (v := .slice (some ⟨g, 0, none⟩) L.length c) rfl (by first | (go_simp; done) | (go_simp; rfl)) ?_
    refine wpList_yield (w' := W3) (v := .int .i64 (L.length : Int)) rfl (by first | (go_simp; done) | (go_simp; rfl)) ?_
    refine wpList_yield (w' := W3) (v := .int .i64 ((L.length + 2 : Nat) : Int)) rfl (by rw [← hw2]; first | (go_simp; done) | (go_simp; rfl)) ?_
    refine wpList_make_step rfl _ _ rfl (L.length + 2) (by go_simp) (by go_simp) (by omega) ?_
    intro cs ho
    have hb4 := below_alloc (Below.refl _ W3) (.cells cs 113)
    obtain ⟨z, hz⟩ : ∃ z, z = W3.heap.size := ⟨_, rfl⟩
    have hz4 : (W3.alloc (.cells cs 113)).heap.size = z + 1 := by rw [hz]; simp
    have HB4 := Lib.hid (below_next HB3.out hb4)
    have Q1 := Lib.hid ((hb4.block _ (Array.getElem?_eq_some_iff.1 M1.out).1).trans M1.out)
    have Q2 := Lib.hid ((hb4.block _ (Array.getElem?_eq_some_iff.1 M2.out).1).trans M2.out)
    rw [← hz] at ho hz2 ⊢
    clear hz hb4 HB3 M1 M2 cS
    generalize W3.alloc (.cells cs 113) = W4 at *
    go_upto_region 6 with fail
    have hb5 := below_alloc (Below.refl _ W4) (.cells #[.slice (some ⟨z, 0, none⟩) 0 (L.length + 2)] 114)
    have n5 := World.alloc_heap_new W4 (.cells #[.slice (some ⟨z, 0, none⟩) 0 (L.length + 2)] 114)
    rw [hz4] at n5
    have hz5 : (W4.alloc (.cells #[.slice (some ⟨z, 0, none⟩) 0 (L.length + 2)] 114)).heap.size = z + 1 + 1 := by simp [hz4]
    have ho5 := ho.below hb5
    have HB5 := Lib.hid (below_next HB4.out hb5)
    have R1 := Lib.hid ((hb5.block _ (Array.getElem?_eq_some_iff.1 Q1.out).1).trans Q1.out)
    have R2 := Lib.hid ((hb5.block _ (Array.getElem?_eq_some_iff.1 Q2.out).1).trans Q2.out)
    have N5 := Lib.hid n5
    clear hb5 n5 ho HB4 Q1 Q2 hz4
    generalize W4.alloc (.cells #[.slice (some ⟨z, 0, none⟩) 0 (L.length + 2)] 114) = W5 at *
    refine wp_region_lit ?_
    refine wpList_yield (w' := W5) (v := .func (.func 134) #[] #[.pointer (some ⟨z + 1, 0, none⟩)]) rfl (by first | (go_simp; done) | (go_simp; rfl)) ?_
    refine wpList_yield (w' := W5.alloc (.cells #[.nilFunc] 202)) (v := .pointer (some ⟨W5.heap.size, 0, none⟩)) rfl (by first | (go_simp; done) | (go_simp; rfl)) ?_
    have hb6 := below_alloc (Below.refl _ W5) (.cells #[.nilFunc] 202)
    have n6 := World.alloc_heap_new W5 (.cells #[.nilFunc] 202)
    rw [hz5] at n6 ⊢
    have ho6 := ho5.below hb6
    have HB6 := Lib.hid (below_next HB5.out hb6)
    have S1 := Lib.hid ((hb6.block _ (Array.getElem?_eq_some_iff.1 R1.out).1).trans R1.out)
    have S2 := Lib.hid ((hb6.block _ (Array.getElem?_eq_some_iff.1 R2.out).1).trans R2.out)
    have S5 := Lib.hid ((hb6.block _ (Array.getElem?_eq_some_iff.1 N5.out).1).trans N5.out)
    clear hb6 HB5 R1 R2 N5 ho5
    generalize W5.alloc (.cells #[.nilFunc] 202) = W6 at *
    have y0 := cell_of_block (o := 0) n6 rfl
    have z0 := free_of_block 0 n6
    have hw := (wrote_refl n6).set 0 (.func (.func 134) #[] #[.pointer (some ⟨z + 1, 0, none⟩)])
    have hCh : ChgU w (W6.setCell ⟨z + 1 + 1, 0, none⟩ (.func (.func 134) #[] #[.pointer (some ⟨z + 1, 0, none⟩)])) z f t bf bc [] :=
      ⟨(hw.rest _ (by omega)).trans S1.out, (hw.rest _ (by omega)).trans S2.out, ⟨_, (hw.rest _ (by omega)).trans S5.out, ho6.blockOf (fun k e => by have e' : z = k := Option.some.inj e; exact hw.rest k (by omega)), fun k e => by have e' : z = k := Option.some.inj e; exact .inl e'.symm⟩, hw.there, hw.below HB6.out (by omega), hz2⟩
    have HCH := Lib.hid hCh
    clear hCh hw ho6
    go_upto_region 7 with fail
    clear y0 z0 n6
    generalize W6.setCell ⟨z + 1 + 1, 0, none⟩ (.func (.func 134) #[] #[.pointer (some ⟨z + 1, 0, none⟩)]) = W7 at *
    go_wp2_with fail
    refine (KR.out z _ HCH.out).mono ?_
    rintro e W8 ⟨⟨v8, rfl⟩, hc8⟩
    rw [← E.out] at hc8
    obtain ⟨v, hv, hov, hvk⟩ := hc8.row
    obtain ⟨ad, cc, rfl, hcc, had⟩ := hov.form
    obtain ⟨g2, rfl, hg2, hg3⟩ := had hpos
    have S8 := Lib.hid ((hc8.bel.block _ hSl).trans HS.out)
    have v0 := cell_of_block (o := 0) hv rfl
    have c80 := cell_of_block (o := 0) S8.out rfl
    have f80 := free_of_block 0 S8.out
    have hwS := (wrote_refl S8.out).set 0 (.slice (some ⟨g2, 0, none⟩) res.length cc)
    have HFIN := Lib.hid (show USt (W8.setCell ⟨S, 0, none⟩ (.slice (some ⟨g2, 0, none⟩) res.length cc)) S res ∧ FrU S w (W8.setCell ⟨S, 0, none⟩ (.slice (some ⟨g2, 0, none⟩) res.length cc)) from by
      refine ⟨⟨⟨g2, cc, by omega, hwS.there, hcc, by rw [hwS.size]; exact hg3, hov.row.mono (hwS.rest _ (by omega))⟩, hpos, hlen'⟩, Fr.set (F := fun b => b = S) (Fr.of_below hc8.bel) (show (fun b => b = S) S from rfl) 0 _, fun b hb _ => ⟨g2, _, cc, hwS.there, by omega⟩⟩)
    clear hwS hv hov hvk hc8 had
    go_wp2_with fail
    go_ret
    exact ⟨rfl, HFIN.out.1, HFIN.out.2⟩
end Go.Proofs.YtdamemdfehopeaaDoor
namespace Go.Proofs.YtdamemdfehopeaaDoor
set_option linter.unusedVariables false
open Go.ChangeShapes Go.WideShapes Go.ChangeAt Go.RowKit
attribute [local go_sem ↓] Go.wp_at_zero Go.wp_at_succ comesTo_value_eq comesTo_skip_eq comesTo_enter_eq

/-- by how much a level may change at most -/
def byU (n : Int) : Int := if n < -2000000 then -2000000 else if 2000000 < n then 2000000 else n
def addF (by_ : Int) (a : Int) : Int := boundU (IntKind.i64.wrap (a + by_))
theorem add1_any {W : World} {b : Nat} {n : Int} (hc : W.cell? ⟨b, 0, none⟩ = some (.int .i64 n)) (a : Int) : Calls Tryd.prog 103 #[.int .i64 a, .pointer (some ⟨b, 0, none⟩)] W fun e w' => e = .returned (.int .i64 (addF n a)) ∧ W = w' := by
  have KB := Lib.hid (bound_any (IntKind.i64.wrap (a + n)) W)
  have E := Lib.hid (show addF n a = boundU (IntKind.i64.wrap (a + n)) from rfl)
  generalize hx : IntKind.i64.wrap (a + n) = x at *
  go_enter Tryd.func103, Tryd.ntmps103
  go_wp2_with (go_at_call 48; ((with_reducible refine KB.out.mono ?_)); rintro e w' ⟨rfl, rfl⟩)
  go_ret
  exact ⟨by rw [E.out]; rfl, rfl⟩
theorem set1_any {W : World} {b : Nat} {n : Int} (hc : W.cell? ⟨b, 0, none⟩ = some (.int .i64 n)) (a : Int) : Calls Tryd.prog 104 #[.int .i64 a, .pointer (some ⟨b, 0, none⟩)] W fun e w' => e = .returned (.int .i64 (boundU n)) ∧ W = w' := by
  have KB := Lib.hid (bound_any n W)
  go_enter Tryd.func104, Tryd.ntmps104
  go_wp2_with (go_at_call 48; ((with_reducible refine KB.out.mono ?_)); rintro e w' ⟨rfl, rfl⟩)
  go_ret
  exact ⟨rfl, rfl⟩
theorem Fr.after {F : Nat → Prop} {w W w' : World} (hb : Below w.heap.size w W) (h : Fr F W w') : Fr F w w' := Fr.trans (Fr.of_below hb) h fun j hj => .inl hj
set_option maxHeartbeats 1000000 in
theorem set_any {w : World} {S : Nat} {L : List (Int × Int)} (h : USt w S L) (f t n : Int) (hlen' : (changeU (fun _ => boundU n) L (f, t)).length ≤ 1099511627776) (hpos : 0 < (changeU (fun _ => boundU n) L (f, t)).length) :
    Calls Tryd.prog 66 #[.pointer (some ⟨S, 0, none⟩), .agg #[.int .i64 f, .int .i64 t], .int .i64 n] w fun e w' => e = .returned (.int .i64 0) ∧ USt w' S (changeU (fun _ => boundU n) L (f, t)) ∧ FrU S w w' := by
  have HB := below_alloc (below_alloc (Below.refl _ w) (.cells #[.int .i64 f, .int .i64 t] 38)) (.cells #[.int .i64 n] 3)
  have n2 := World.alloc_heap_new (w.alloc (.cells #[.int .i64 f, .int .i64 t] 38)) (.cells #[.int .i64 n] 3)
  rw [show (w.alloc (.cells #[.int .i64 f, .int .i64 t] 38)).heap.size = w.heap.size + 1 by simp] at n2
  have n1 := ((below_alloc (Below.refl _ (w.alloc (.cells #[.int .i64 f, .int .i64 t] 38))) (.cells #[.int .i64 n] 3)).block w.heap.size (by simp)).trans (World.alloc_heap_new w (.cells #[.int .i64 f, .int .i64 t] 38))
  have H := h.below HB
  clear h
  go_enter Tryd.func66, Tryd.ntmps66
  go_upto_region 1 with fail
  generalize (w.alloc (.cells #[.int .i64 f, .int .i64 t] 38)).alloc (.cells #[.int .i64 n] 3) = W at *
  have s0 := cell_of_block (o := 0) n1 rfl
  have s1 := cell_of_block (o := 1) n1 rfl
  have hlt := (Array.getElem?_eq_some_iff.1 n2).1
  have K := Lib.hid (change_any H f t 104 #[.pointer (some ⟨w.heap.size + 1, 0, none⟩)] (fun _ => boundU n) (enters_of Tryd.func104 (by kernel_rfl) rfl)
    (fun a W' hb => set1_any (cell_of_block (o := 0) ((hb.block _ hlt).trans n2) rfl) a) hlen' hpos)
  clear n1 n2 H hlt
  go_wp2_with fail
  refine K.out.mono ?_
  rintro e w' ⟨rfl, hu, hf⟩
  have HX := Lib.hid (And.intro hu hf)
  clear hu hf
  go_wp2_with fail
  go_ret
  exact ⟨rfl, HX.out.1, FrU.after HB HX.out.2⟩
set_option maxHeartbeats 1000000 in
theorem add_u {w : World} {S : Nat} {L : List (Int × Int)} (h : USt w S L) (f t n : Int) (hlen' : (changeU (addF (byU n)) L (f, t)).length ≤ 1099511627776) (hpos : 0 < (changeU (addF (byU n)) L (f, t)).length) :
    Calls Tryd.prog 64 #[.pointer (some ⟨S, 0, none⟩), .agg #[.int .i64 f, .int .i64 t], .int .i64 n] w fun e w' => e = .returned (.int .i64 0) ∧ USt w' S (changeU (addF (byU n)) L (f, t)) ∧ FrU S w w' := by
  have HB := below_alloc (below_alloc (Below.refl _ w) (.cells #[.int .i64 f, .int .i64 t] 38)) (.cells #[.int .i64 n] 3)
  have n2 := World.alloc_heap_new (w.alloc (.cells #[.int .i64 f, .int .i64 t] 38)) (.cells #[.int .i64 n] 3)
  rw [show (w.alloc (.cells #[.int .i64 f, .int .i64 t] 38)).heap.size = w.heap.size + 1 by simp] at n2
  have n1 := ((below_alloc (Below.refl _ (w.alloc (.cells #[.int .i64 f, .int .i64 t] 38))) (.cells #[.int .i64 n] 3)).block w.heap.size (by simp)).trans (World.alloc_heap_new w (.cells #[.int .i64 f, .int .i64 t] 38))
  have hm : (n < -2000000 ∧ byU n = -2000000) ∨ (-2000000 ≤ n ∧ 2000000 < n ∧ byU n = 2000000) ∨ (-2000000 ≤ n ∧ n ≤ 2000000 ∧ byU n = n) := by
    unfold byU
    by_cases h1 : n < -2000000
    · exact .inl ⟨h1, if_pos h1⟩
    · by_cases h2 : 2000000 < n
      · exact .inr (.inl ⟨by omega, h2, by rw [if_neg h1, if_pos h2]⟩)
      · exact .inr (.inr ⟨by omega, by omega, by rw [if_neg h1, if_neg h2]⟩)
  obtain ⟨m, hmm⟩ : ∃ m, m = byU n := ⟨_, rfl⟩
  rw [← hmm] at hm hlen' hpos ⊢
  clear hmm
  have H0 := Lib.hid h
  clear h
  go_enter Tryd.func64, Tryd.ntmps64
  go_upto_region 1 with fail
  generalize (w.alloc (.cells #[.int .i64 f, .int .i64 t] 38)).alloc (.cells #[.int .i64 n] 3) = W at *
  have hw := (wrote_refl n2).set 0 (.int .i64 m)
  have hbel := hw.below HB (by omega)
  have b0 := cell_of_block (o := 0) n2 rfl
  have z0 := free_of_block 0 n2
  have m1 := (hw.rest w.heap.size (by omega)).trans n1
  have m2 := hw.there
  have hS : USt (W.setCell ⟨w.heap.size + 1, 0, none⟩ (.int .i64 m)) S L := H0.out.below hbel
  clear n1 n2 hw
  rcases hm with ⟨h1, rfl⟩ | ⟨h1, h2, rfl⟩ | ⟨h1, h2, rfl⟩
  all_goals (
    go_upto_region 2 with fail
    clear b0 z0
    generalize W.setCell ⟨w.heap.size + 1, 0, none⟩ (.int .i64 _) = W9 at *
    have s0 := cell_of_block (o := 0) m1 rfl
    have s1 := cell_of_block (o := 1) m1 rfl
    have hlt := (Array.getElem?_eq_some_iff.1 m2).1
    have K := Lib.hid (change_any hS f t 103 #[.pointer (some ⟨w.heap.size + 1, 0, none⟩)] (addF _) (enters_of Tryd.func103 (by kernel_rfl) rfl)
      (fun a W' hb => add1_any (cell_of_block (o := 0) ((hb.block _ hlt).trans m2) rfl) a) hlen' hpos)
    clear m1 m2 hS hlt
    go_wp2_with fail
    refine K.out.mono ?_
    rintro e w' ⟨rfl, hu, hf⟩
    have HX := Lib.hid (And.intro hu hf)
    clear hu hf
    go_wp2_with fail
    go_ret
    exact ⟨rfl, HX.out.1, FrU.after hbel HX.out.2⟩)
/-- one level at all times -/
theorem flat_row (n : Int) (w : World) : Calls Tryd.prog 11 #[.int .i64 n] w fun e w' => ∃ S, e = .returned (.pointer (some ⟨S, 0, none⟩)) ∧ w.heap.size ≤ S ∧ USt w' S [(0, boundU n)] ∧ Below w.heap.size w w' ∧ ∀ b, b < w.heap.size → RowNe w' S b := by
  have KB := Lib.hid (bound_any n w)
  generalize boundU n = b at *
  go_enter Tryd.func11, Tryd.ntmps11
  go_wp2_with (go_at_call 48; ((with_reducible refine KB.out.mono ?_)); rintro e w' ⟨rfl, rfl⟩)
  have hb1 := below_alloc (Below.refl _ w) (.cells #[.int .i64 0, .int .i64 b] 113)
  have hb2 := below_alloc (Below.refl _ (w.alloc (.cells #[.int .i64 0, .int .i64 b] 113))) (.cells #[.slice (some ⟨w.heap.size, 0, none⟩) 1 1] 116)
  have n1 := (hb2.block w.heap.size (by simp)).trans (World.alloc_heap_new w (.cells #[.int .i64 0, .int .i64 b] 113))
  have n2 := World.alloc_heap_new (w.alloc (.cells #[.int .i64 0, .int .i64 b] 113)) (.cells #[.slice (some ⟨w.heap.size, 0, none⟩) 1 1] 116)
  have hs1 : (w.alloc (.cells #[.int .i64 0, .int .i64 b] 113)).heap.size = w.heap.size + 1 := by simp
  rw [hs1] at n2
  go_ret
  refine ⟨w.heap.size + 1, rfl, by omega, ⟨⟨w.heap.size, 1, by omega, n2, by simp, by have := (Array.getElem?_eq_some_iff.1 n1).1; exact this, fun k hk => ?_⟩, by simp, by simp⟩, below_next hb1 hb2, fun b hb => ⟨w.heap.size, 1, 1, n2, by omega⟩⟩
  obtain rfl : k = 0 := by simpa using hk
  exact ⟨cell_of_block (o := 0) n1 rfl, cell_of_block (o := 1) n1 rfl⟩
theorem flat_any (n : Int) (w : World) : Calls Tryd.prog 11 #[.int .i64 n] w fun e w' => ∃ S, e = .returned (.pointer (some ⟨S, 0, none⟩)) ∧ w.heap.size ≤ S ∧ USt w' S [(0, boundU n)] ∧ Below w.heap.size w w' :=
  (flat_row n w).mono fun _ _ ⟨S, h1, h2, h3, h4, _⟩ => ⟨S, h1, h2, h3, h4⟩
end Go.Proofs.YtdamemdfehopeaaDoor
namespace Go.Proofs.YtdamemdfehopeaaDoor
set_option linter.unusedVariables false
open Go.ChangeShapes Go.WideShapes Go.ChangeAt Go.RowKit
attribute [local go_sem ↓] Go.wp_at_zero Go.wp_at_succ comesTo_value_eq comesTo_skip_eq comesTo_enter_eq

/-- a sum behind one run more, as the machine reckons it -/
def areaStep (t : Int × Int) (s : Int) (r : Int × Int × Int) : Int :=
  wrap64 (s + wrap64 (wrap64 ((cutI (r.1, r.2.1) t).2 - (cutI (r.1, r.2.1) t).1) * maxU r.2.2 0))
def areaU (L : List (Int × Int)) (t : Int × Int) : Int := minU ((runsU L).foldl (areaStep t) 0) 1099511627776
structure ArU (w W : World) (f t s : Int) : Prop where
  span : W.heap[w.heap.size]? = some (.cells #[.int .i64 f, .int .i64 t] 38 (0, 0))
  sum : W.heap[w.heap.size + 1]? = some (.cells #[.int .i64 s] 36 (0, 0))
  bel : Below w.heap.size w W
theorem ArU.below {w W W' : World} {f t s : Int} (h : ArU w W f t s) (hb : Below W.heap.size W W') : ArU w W' f t s :=
  ⟨(hb.block _ (Array.getElem?_eq_some_iff.1 h.span).1).trans h.span, (hb.block _ (Array.getElem?_eq_some_iff.1 h.sum).1).trans h.sum, below_next h.bel hb⟩
theorem ArU.set {w W : World} {f t s : Int} (h : ArU w W f t s) (x : Int) : ArU w (W.setCell ⟨w.heap.size + 1, 0, none⟩ (.int .i64 x)) f t x := by
  have hw := (wrote_refl h.sum).set 0 (.int .i64 x)
  exact ⟨(hw.rest _ (by omega)).trans h.span, hw.there, hw.below h.bel (by omega)⟩
end Go.Proofs.YtdamemdfehopeaaDoor
namespace Go.Proofs.YtdamemdfehopeaaDoor
set_option linter.unusedVariables false
open Go.RowKit
/-- the level of steps at a time; d: ahead of all -/
def lvl (d : Int) : List (Int × Int) → Int → Int
  | [], _ => d
  | p :: r, x => if x < p.1 then d else lvl p.2 r x
theorem lvl_snoc : ∀ (l : List (Int × Int)) (d T v x : Int), (∀ p ∈ l, p.1 < T) → lvl d (l ++ [(T, v)]) x = if x < T then lvl d l x else v
  | [], d, T, v, x, _ => rfl
  | p :: r, d, T, v, x, h => by
    have hp := h p (by simp)
    have ih := lvl_snoc r p.2 T v x fun q hq => h q (by simp [hq])
    simp only [List.cons_append, lvl, ih]
    by_cases h1 : x < p.1
    · rw [if_pos h1, if_pos (show x < T by omega), if_pos h1]
    · rw [if_neg h1, if_neg h1]
theorem lvl_last : ∀ (l : List (Int × Int)) (d x : Int), (∀ p ∈ l, p.1 ≤ x) → lvl d l x = (l.getLast?.map (·.2)).getD d
  | [], d, x, _ => rfl
  | p :: r, d, x, h => by
    have hp := h p (by simp)
    have ih := lvl_last r p.2 x fun q hq => h q (by simp [hq])
    simp only [lvl]
    rw [if_neg (by omega), ih]
    cases r with
    | nil => rfl
    | cons q s =>
      rw [List.getLast?_cons_cons, List.getLast?_eq_some_getLast (show q :: s ≠ [] by simp)]
      rfl
/-- steps that tell a function's levels up to a time -/
structure RepU (l : List (Int × Int)) (g : Int → Int) (T : Int) : Prop where
  nil : l = [] → T = 0
  head : ∀ p, l.head? = some p → p.1 = 0
  sorted : l.Pairwise (fun p q => p.1 < q.1)
  diff : ∀ (a b : List (Int × Int)) (p q : Int × Int), l = a ++ p :: q :: b → p.2 ≠ q.2
  hi : ∀ p ∈ l, p.1 < T
  val : ∀ x, 0 ≤ x → x < T → lvl 0 l x = g x
theorem RepU.lay {l : List (Int × Int)} {g : Int → Int} {T T' v : Int} (h : RepU l g T) (h0 : 0 ≤ T) (hT : T < T') (hg : ∀ x, T ≤ x → x < T' → g x = v) : RepU (layU l T v) g T' := by
  have hmem : ∀ p ∈ l, p.1 < T := h.hi
  unfold layU
  by_cases hl : l.getLast?.map (·.2) = some v
  · rw [if_pos hl]
    refine ⟨fun e => ?_, h.head, h.sorted, h.diff, fun p hp => by have := hmem p hp; omega, fun x hx hx' => ?_⟩
    · subst e; simp at hl
    · by_cases hlt : x < T
      · exact h.val x hx hlt
      · rw [lvl_last l 0 x (fun p hp => by have := hmem p hp; omega), hl, hg x (by omega) hx']; rfl
  · rw [if_neg hl]
    refine ⟨fun e => by simp at e, fun p hp => ?_, ?_, ?_, fun p hp => ?_, fun x hx hx' => ?_⟩
    · cases l with
      | nil => have := h.nil rfl; simp at hp; subst hp; exact this
      | cons q r => exact h.head p (by simpa using hp)
    · rw [List.pairwise_append]
      exact ⟨h.sorted, by simp, fun a ha b hb => by simp at hb; subst hb; exact hmem a ha⟩
    · intro a b p q e
      by_cases hb : b = []
      · subst hb
        have e2 : l ++ [(T, v)] = (a ++ [p]) ++ [q] := by rw [e]; simp
        obtain ⟨e3, e4⟩ := List.append_inj' e2 rfl
        have e5 : q = (T, v) := by simpa using e4.symm
        subst e5
        intro he
        apply hl
        rw [e3]
        simp [he]
      · obtain ⟨b', y, rfl⟩ : ∃ b' y, b = b' ++ [y] := ⟨b.dropLast, b.getLast hb, (List.dropLast_concat_getLast hb).symm⟩
        have e2 : l ++ [(T, v)] = (a ++ p :: q :: b') ++ [y] := by rw [e]; simp
        exact h.diff a b' p q (List.append_inj' e2 rfl).1
    · simp only [List.mem_append, List.mem_cons, List.not_mem_nil, or_false] at hp
      rcases hp with hp | rfl
      · have := hmem p hp; omega
      · exact hT
    · rw [lvl_snoc l 0 T v x hmem]
      by_cases hlt : x < T
      · rw [if_pos hlt]; exact h.val x hx hlt
      · rw [if_neg hlt, hg x (by omega) hx']
theorem RepU.step {l : List (Int × Int)} {g fn : Int → Int} {f t a b v : Int} (h : RepU l g a) (h0 : 0 ≤ a) (hab : a < b) (hb : b ≤ 1099511627776) (hft : clampI f < clampI t)
    (hg : ∀ x, a ≤ x → x < b → g x = if f ≤ x ∧ x < t then fn v else v) : RepU (stepU (f, t) fn l (a, b, v)) g b := by
  have cf : clampI f = if f < 0 then 0 else if 1099511627776 < f then 1099511627776 else f := rfl
  have ct : clampI t = if t < 0 then 0 else if 1099511627776 < t then 1099511627776 else t := rfl
  have ca : clampI a = a := by unfold clampI; rw [if_neg (by omega), if_neg (by omega)]
  have cb : clampI b = b := by unfold clampI; rw [if_neg (by omega), if_neg (by omega)]
  have hf1 : f < 1099511627776 := by rw [cf, ct] at hft; split at hft <;> (try split at hft) <;> (try split at hft) <;> (try split at hft) <;> omega
  have ht1 : 0 < t := by rw [cf, ct] at hft; split at hft <;> (try split at hft) <;> (try split at hft) <;> (try split at hft) <;> omega
  have hftt : f < t := by rw [cf, ct] at hft; split at hft <;> (try split at hft) <;> (try split at hft) <;> (try split at hft) <;> omega
  -- the first piece
  obtain ⟨T1, hT1, hr1⟩ : ∃ T1, T1 = (if a < f then min b f else a) ∧ RepU (step1 (f, t) l (a, b, v)) g T1 := by
    refine ⟨_, rfl, ?_⟩
    unfold step1
    by_cases h1 : a < f
    · simp only [h1, if_true]
      refine h.lay h0 (by omega) fun x hx hx' => ?_
      rw [hg x hx (by omega), if_neg (by omega)]
    · simp only [h1, if_false]; exact h
  have hcF : bothF (a, b) (f, t) = max a (clampI f) := by unfold bothF; simp only [ca]
  have hcT : bothT (a, b) (f, t) = min b (clampI t) := by unfold bothT; simp only [cb]
  have hcf0 : 0 ≤ clampI f ∧ clampI f ≤ 1099511627776 ∧ (0 ≤ f → clampI f = f) ∧ (f < 0 → clampI f = 0) := by
    rw [cf]; refine ⟨?_, ?_, fun h => ?_, fun h => ?_⟩ <;> (split <;> (try split) <;> omega)
  have hct0 : 0 ≤ clampI t ∧ clampI t ≤ 1099511627776 ∧ (t ≤ 1099511627776 → clampI t = t) ∧ (1099511627776 < t → clampI t = 1099511627776) := by
    rw [ct]; refine ⟨?_, ?_, fun h => ?_, fun h => ?_⟩ <;> (split <;> (try split) <;> omega)
  obtain ⟨F, hF⟩ : ∃ F, F = clampI f := ⟨_, rfl⟩
  obtain ⟨G, hG⟩ : ∃ G, G = clampI t := ⟨_, rfl⟩
  rw [← hF] at hcf0 hcF hft
  rw [← hG] at hct0 hcT hft
  obtain ⟨x1, x2, x3, x4⟩ := hcf0
  obtain ⟨y1, y2, y3, y4⟩ := hct0
  have hF' : (0 ≤ f ∧ F = f) ∨ (f < 0 ∧ F = 0) := by rcases Int.lt_or_le f 0 with h | h; exact .inr ⟨h, x4 h⟩; exact .inl ⟨h, x3 h⟩
  have hG' : (t ≤ 1099511627776 ∧ G = t) ∨ (1099511627776 < t ∧ G = 1099511627776) := by rcases Int.lt_or_le 1099511627776 t with h | h; exact .inr ⟨h, y4 h⟩; exact .inl ⟨h, y3 h⟩
  clear x3 x4 y3 y4 cf ct hF hG
  obtain ⟨T2, hT2, hr2⟩ : ∃ T2, T2 = (if max a F < min b G then min b G else T1) ∧ RepU (step2 (f, t) fn (step1 (f, t) l (a, b, v)) (a, b, v)) g T2 := by
    refine ⟨_, rfl, ?_⟩
    unfold step2
    have hcut : cutI (a, b) (f, t) = if min b G ≤ max a F then (0, 0) else (max a F, min b G) := by unfold cutI; rw [hcF, hcT]
    simp only [hcut]
    by_cases h1 : max a F < min b G
    · rw [if_neg (by omega : ¬ min b G ≤ max a F), if_pos h1]
      have e1 : clampI (max a F) = max a F := by unfold clampI; rw [if_neg (by omega), if_neg (by omega)]
      have e2 : clampI (min b G) = min b G := by unfold clampI; rw [if_neg (by omega), if_neg (by omega)]
      rw [e1, e2, if_neg (by omega)]
      have hT : T1 = max a F := by rw [hT1]; split <;> omega
      rw [← hT]
      refine hr1.lay (by omega) (by omega) fun x hx hx' => ?_
      rw [hg x (by omega) (by omega), if_pos (by omega)]
    · rw [if_pos (by omega : min b G ≤ max a F), if_neg h1]
      have e0 : clampI 0 = 0 := rfl
      simp only [e0]
      rw [if_pos (Int.le_refl _)]
      exact hr1
  unfold stepU step3
  by_cases h3 : t < b
  · simp only [h3, if_true]
    have hT : T2 = maxU a t := by
      unfold maxU
      rw [hT2, hT1]
      split <;> (try split) <;> (try split) <;> omega
    rw [← hT]
    have hT' : T2 = max a t := by rw [hT]; unfold maxU; split <;> omega
    refine hr2.lay (by omega) (by omega) fun x hx hx' => ?_
    rw [hg x (by omega) hx', if_neg (by omega)]
  · simp only [h3, if_false]
    have hT : T2 = b := by rw [hT2, hT1]; split <;> (try split) <;> omega
    exact hT ▸ hr2

/-- right steps -/
structure RightU (L : List (Int × Int)) : Prop where
  head : ∃ v r, L = (0, v) :: r
  sorted : L.Pairwise (fun p q => p.1 < q.1)
  diff : ∀ (a b : List (Int × Int)) (p q : Int × Int), L = a ++ p :: q :: b → p.2 ≠ q.2
  hi : ∀ p ∈ L, p.1 < 1099511627776
  bd : ∀ p ∈ L, -1000000 ≤ p.2 ∧ p.2 ≤ 1000000
/-- the level at a time that lies in a step -/
theorem lvl_at {L : List (Int × Int)} (hs : L.Pairwise (fun p q => p.1 < q.1)) : ∀ (d : Int) (k : Nat) (x : Int), k < L.length → (L.getD k (0, 0)).1 ≤ x → (k + 1 < L.length → x < (L.getD (k + 1) (0, 0)).1) → lvl d L x = (L.getD k (0, 0)).2 := by
  induction L with
  | nil => intro d k x h; simp at h
  | cons p r ih =>
    intro d k x h h1 h2
    obtain ⟨hp, hr⟩ := List.pairwise_cons.1 hs
    cases k with
    | zero =>
      simp only [List.getD_cons_zero] at h1
      simp only [lvl, List.getD_cons_zero]
      rw [if_neg (by omega)]
      cases r with
      | nil => rfl
      | cons q s =>
        have := h2 (by simp)
        simp at this
        simp only [lvl]
        rw [if_pos this]
    | succ k =>
      have hk : k < r.length := by simpa using h
      simp only [List.getD_cons_succ] at h1 h2
      have hmem : r.getD k (0, 0) ∈ r := by rw [List.getD_eq_getElem?_getD, List.getElem?_eq_getElem hk]; exact List.getElem_mem hk
      have := hp _ hmem
      simp only [lvl, List.getD_cons_succ]
      rw [if_neg (by omega)]
      exact ih hr p.2 k x hk h1 fun hk' => h2 (by simpa using hk')
theorem toU_le {L : List (Int × Int)} (h : RightU L) {k : Nat} (hk : k < L.length) : 0 ≤ (L.getD k (0, 0)).1 ∧ (L.getD k (0, 0)).1 < toU L k ∧ toU L k ≤ 1099511627776 := by
  have hget : ∀ j, j < L.length → L.getD j (0, 0) ∈ L := fun j hj => by rw [List.getD_eq_getElem?_getD, List.getElem?_eq_getElem hj]; exact List.getElem_mem hj
  have h0 : 0 ≤ (L.getD k (0, 0)).1 := by
    obtain ⟨v, r, e⟩ := h.head
    cases k with
    | zero => rw [e]; simp
    | succ k =>
      have hs := h.sorted
      rw [e] at hs hk ⊢
      obtain ⟨hp, _⟩ := List.pairwise_cons.1 hs
      have hkr : k < r.length := by simpa using hk
      have hm : r.getD k (0, 0) ∈ r := by rw [List.getD_eq_getElem?_getD, List.getElem?_eq_getElem hkr]; exact List.getElem_mem hkr
      have h9 : 0 < (r.getD k (0, 0)).1 := hp _ hm
      simp only [List.getD_cons_succ]
      omega
  refine ⟨h0, ?_, ?_⟩
  · unfold toU
    split
    · rename_i hk1
      have := List.pairwise_iff_getElem.1 h.sorted k (k + 1) hk hk1 (by omega)
      rw [List.getD_eq_getElem?_getD, List.getD_eq_getElem?_getD, List.getElem?_eq_getElem hk, List.getElem?_eq_getElem hk1]
      exact this
    · exact h.hi _ (hget k hk)
  · unfold toU
    split
    · rename_i hk1
      have := h.hi _ (hget (k + 1) hk1); omega
    · omega
theorem runsU_drop' {L : List (Int × Int)} {k : Nat} (h : k < L.length) : (runsU L).drop k = ((L.getD k (0, 0)).1, toU L k, (L.getD k (0, 0)).2) :: (runsU L).drop (k + 1) := by
  have hl : k < (runsU L).length := by unfold runsU; simpa using h
  rw [List.drop_eq_getElem_cons hl]
  congr 1
  unfold runsU
  simp
/-- what a change leaves: the function's levels in the span, the others outside of it -/
theorem change_rep {L : List (Int × Int)} (h : RightU L) {fn : Int → Int} {f t : Int} (hft : clampI f < clampI t) : RepU ((runsU L).foldl (stepU (f, t) fn) []) (fun x => if f ≤ x ∧ x < t then fn (lvl 0 L x) else lvl 0 L x) 1099511627776 := by
  have key : ∀ (m k : Nat) (l : List (Int × Int)), k + m = L.length → (k < L.length → RepU l (fun x => if f ≤ x ∧ x < t then fn (lvl 0 L x) else lvl 0 L x) (L.getD k (0, 0)).1) → (k = L.length → RepU l (fun x => if f ≤ x ∧ x < t then fn (lvl 0 L x) else lvl 0 L x) 1099511627776) → RepU (((runsU L).drop k).foldl (stepU (f, t) fn) l) (fun x => if f ≤ x ∧ x < t then fn (lvl 0 L x) else lvl 0 L x) 1099511627776 := by
    intro m
    induction m with
    | zero =>
      intro k l hk _ h2
      have : (runsU L).drop k = [] := by apply List.drop_eq_nil_of_le; unfold runsU; simp; omega
      rw [this]
      exact h2 (by omega)
    | succ m ih =>
      intro k l hk h1 _
      have hkl : k < L.length := by omega
      rw [runsU_drop' hkl]
      obtain ⟨b0, b1, b2⟩ := toU_le h hkl
      have hstep := (h1 hkl).step (fn := fn) (f := f) (t := t) (b := toU L k) (v := (L.getD k (0, 0)).2) b0 b1 b2 hft (fun x hx hx' => by
        have hl : lvl 0 L x = (L.getD k (0, 0)).2 := lvl_at h.sorted 0 k x hkl hx fun hk1 => by unfold toU at hx'; rw [if_pos hk1] at hx'; exact hx'
        simp only [hl])
      refine ih (k + 1) _ (by omega) (fun hk1 => ?_) (fun hk1 => ?_)
      · have : toU L k = (L.getD (k + 1) (0, 0)).1 := by unfold toU; rw [if_pos hk1]
        rw [← this]; exact hstep
      · have : toU L k = 1099511627776 := by unfold toU; rw [if_neg (by omega)]
        rw [← this]; exact hstep
  have := key L.length 0 [] (by omega) (fun h0 => ?_) (fun h0 => ?_)
  · simpa using this
  · obtain ⟨v, r, e⟩ := h.head
    have : (L.getD 0 (0, 0)).1 = 0 := by rw [e]; rfl
    rw [this]
    exact ⟨fun _ => rfl, fun p hp => by simp at hp, List.Pairwise.nil, fun a b p q e => by simp at e, fun p hp => by simp at hp, fun x h1 h2 => by omega⟩
  · obtain ⟨v, r, e⟩ := h.head
    rw [e] at h0; simp at h0

theorem mem_at {L : List (Int × Int)} {p : Int × Int} (h : p ∈ L) : ∃ k, k < L.length ∧ L.getD k (0, 0) = p := by
  obtain ⟨k, hk, rfl⟩ := List.getElem_of_mem h
  exact ⟨k, hk, by rw [List.getD_eq_getElem?_getD, List.getElem?_eq_getElem hk]; rfl⟩
theorem rep_right {l : List (Int × Int)} {g : Int → Int} (h : RepU l g 1099511627776) (hg : ∀ x, 0 ≤ x → x < 1099511627776 → -1000000 ≤ g x ∧ g x ≤ 1000000) : RightU l := by
  have h0 : ∀ p ∈ l, 0 ≤ p.1 := by
    intro p hp
    cases l with
    | nil => simp at hp
    | cons q r =>
      have hq := h.head q rfl
      obtain ⟨hs, _⟩ := List.pairwise_cons.1 h.sorted
      rcases List.mem_cons.1 hp with rfl | hp
      · omega
      · have := hs p hp; omega
  refine ⟨?_, h.sorted, h.diff, h.hi, fun p hp => ?_⟩
  · cases l with
    | nil => have := h.nil rfl; omega
    | cons q r =>
      have hq := h.head q rfl
      exact ⟨q.2, r, by rw [← hq]⟩
  · obtain ⟨k, hk, rfl⟩ := mem_at hp
    have hv := lvl_at h.sorted 0 k (l.getD k (0, 0)).1 hk (Int.le_refl _) fun hk1 => by
      have := List.pairwise_iff_getElem.1 h.sorted k (k + 1) hk hk1 (by omega)
      rw [List.getD_eq_getElem?_getD, List.getD_eq_getElem?_getD, List.getElem?_eq_getElem hk, List.getElem?_eq_getElem hk1]
      exact this
    rw [← hv, h.val _ (h0 _ hp) (h.hi _ hp)]
    exact hg _ (h0 _ hp) (h.hi _ hp)
theorem diff_tail {p : Int × Int} {r : List (Int × Int)} (h : ∀ (a b : List (Int × Int)) (u v : Int × Int), p :: r = a ++ u :: v :: b → u.2 ≠ v.2) : ∀ (a b : List (Int × Int)) (u v : Int × Int), r = a ++ u :: v :: b → u.2 ≠ v.2 := fun a b u v e => h (p :: a) b u v (by rw [e]; rfl)
theorem same_from : ∀ (r s : List (Int × Int)) (a x y d e : Int), (∀ p ∈ (a, x) :: r, p.1 < 1099511627776) → (∀ p ∈ (a, y) :: s, p.1 < 1099511627776) → ((a, x) :: r).Pairwise (fun p q => p.1 < q.1) → ((a, y) :: s).Pairwise (fun p q => p.1 < q.1) →
    (∀ (c b : List (Int × Int)) (u v : Int × Int), (a, x) :: r = c ++ u :: v :: b → u.2 ≠ v.2) → (∀ (c b : List (Int × Int)) (u v : Int × Int), (a, y) :: s = c ++ u :: v :: b → u.2 ≠ v.2) →
    (∀ z, a ≤ z → z < 1099511627776 → lvl d ((a, x) :: r) z = lvl e ((a, y) :: s) z) → (a, x) :: r = (a, y) :: s := by
  intro r
  induction r with
  | nil =>
    intro s a x y d e hr hs pr ps dr ds hv
    have ha : a < 1099511627776 := hr (a, x) (by simp)
    cases s with
    | nil =>
      have := hv a (Int.le_refl _) ha
      simp [lvl] at this
      rw [this]
    | cons q s =>
      have hq : q.1 < 1099511627776 := hs q (by simp)
      have haq : a < q.1 := (List.pairwise_cons.1 ps).1 q (by simp)
      have h1 := hv a (Int.le_refl _) ha
      have h2 := hv q.1 (by omega) hq
      simp only [lvl, Int.lt_irrefl, if_false] at h1 h2
      rw [if_pos haq] at h1
      rw [if_neg (by omega), if_neg (by omega)] at h2
      have hn : lvl q.2 s q.1 = q.2 := by
        cases s with
        | nil => rfl
        | cons u w =>
          have : q.1 < u.1 := (List.pairwise_cons.1 (List.pairwise_cons.1 ps).2).1 u (by simp)
          simp only [lvl]; rw [if_pos this]
      rw [hn] at h2
      exact absurd (h1.symm.trans h2) (ds [] s (a, y) q rfl)
  | cons p r ih =>
    intro s a x y d e hr hs pr ps dr ds hv
    have ha : a < 1099511627776 := hr (a, x) (by simp)
    have hp : p.1 < 1099511627776 := hr p (by simp)
    have hap : a < p.1 := (List.pairwise_cons.1 pr).1 p (by simp)
    have hn : ∀ (p : Int × Int) (r : List (Int × Int)), (p :: r).Pairwise (fun p q => p.1 < q.1) → lvl p.2 r p.1 = p.2 := fun p r h => by
      cases r with
      | nil => rfl
      | cons u w =>
        have : p.1 < u.1 := (List.pairwise_cons.1 h).1 u (by simp)
        simp only [lvl]; rw [if_pos this]
    have h1 := hv a (Int.le_refl _) ha
    cases s with
    | nil =>
      have h2 := hv p.1 (by omega) hp
      simp only [lvl, Int.lt_irrefl, if_false] at h1 h2
      rw [if_pos hap] at h1
      rw [if_neg (by omega), if_neg (by omega)] at h2
      rw [hn p r (List.pairwise_cons.1 pr).2] at h2
      exact absurd (h1.trans h2.symm) (dr [] r (a, x) p rfl)
    | cons q s =>
      have hq : q.1 < 1099511627776 := hs q (by simp)
      have haq : a < q.1 := (List.pairwise_cons.1 ps).1 q (by simp)
      simp only [lvl, Int.lt_irrefl, if_false] at h1
      rw [if_pos hap, if_pos haq] at h1
      subst h1
      have hpq : p.1 = q.1 := by
        rcases Int.lt_trichotomy p.1 q.1 with h | h | h
        · have h2 := hv p.1 (by omega) hp
          simp only [lvl, Int.lt_irrefl, if_false] at h2
          rw [if_neg (by omega), if_neg (by omega), if_pos h, hn p r (List.pairwise_cons.1 pr).2] at h2
          exact absurd h2.symm (dr [] r (a, x) p rfl)
        · exact h
        · have h2 := hv q.1 (by omega) hq
          simp only [lvl, Int.lt_irrefl, if_false] at h2
          rw [if_neg (by omega), if_pos h, if_neg (by omega), hn q s (List.pairwise_cons.1 ps).2] at h2
          exact absurd h2 (ds [] s (a, x) q rfl)
      obtain ⟨p1, p2⟩ := p
      obtain ⟨q1, q2⟩ := q
      simp only at hpq
      subst hpq
      have := ih s p1 p2 q2 x x (fun u hu => hr u (by simp only [List.mem_cons] at hu ⊢; exact .inr hu)) (fun u hu => hs u (by simp only [List.mem_cons] at hu ⊢; exact .inr hu)) (List.pairwise_cons.1 pr).2 (List.pairwise_cons.1 ps).2 (diff_tail dr) (diff_tail ds) (fun z hz hz' => by
        have hz2 : ¬ z < a := by simp only at hap; omega
        have h3 : (if z < a then d else lvl x ((p1, p2) :: r) z) = (if z < a then e else lvl x ((p1, q2) :: s) z) := hv z (by omega) hz'
        rw [if_neg hz2, if_neg hz2] at h3
        exact h3)
      rw [this]
/-- right steps of the same levels are the same -/
theorem right_same_steps {L M : List (Int × Int)} (h : RightU L) (k : RightU M) (hv : ∀ x, 0 ≤ x → x < 1099511627776 → lvl 0 L x = lvl 0 M x) : L = M := by
  obtain ⟨v, r, e⟩ := h.head
  obtain ⟨u, s, e'⟩ := k.head
  subst e e'
  exact same_from r s 0 v u 0 0 h.hi k.hi h.sorted k.sorted h.diff k.diff hv
theorem change_right {L : List (Int × Int)} (h : RightU L) {fn : Int → Int} (hfn : ∀ x, -1000000 ≤ fn x ∧ fn x ≤ 1000000) (f t : Int) : RightU (changeU fn L (f, t)) ∧ ∀ x, 0 ≤ x → x < 1099511627776 → lvl 0 (changeU fn L (f, t)) x = if clampI f < clampI t ∧ f ≤ x ∧ x < t then fn (lvl 0 L x) else lvl 0 L x := by
  unfold changeU
  by_cases hft : clampI t ≤ clampI f
  · simp only [hft, if_true]
    exact ⟨h, fun x _ _ => by rw [if_neg (by omega)]⟩
  · simp only [hft, if_false]
    have hrep := change_rep h (fn := fn) (f := f) (t := t) (by omega)
    refine ⟨rep_right hrep fun x h0 h1 => ?_, fun x h0 h1 => ?_⟩
    · split
      · exact hfn _
      · have hb : ∀ (l : List (Int × Int)) (d : Int), (∀ p ∈ l, -1000000 ≤ p.2 ∧ p.2 ≤ 1000000) → -1000000 ≤ d ∧ d ≤ 1000000 → -1000000 ≤ lvl d l x ∧ lvl d l x ≤ 1000000 := by
          intro l
          induction l with
          | nil => intro d _ hd; exact hd
          | cons p r ih =>
            intro d hp hd
            simp only [lvl]
            split
            · exact hd
            · exact ih p.2 (fun q hq => hp q (by simp [hq])) (hp p (by simp))
        exact hb L 0 h.bd (by omega)
    · rw [hrep.val x h0 h1]
      by_cases hx : f ≤ x ∧ x < t
      · rw [if_pos hx, if_pos ⟨by omega, hx.1, hx.2⟩]
      · rw [if_neg hx, if_neg (fun hh => hx hh.2)]
end Go.Proofs.YtdamemdfehopeaaDoor
namespace Go.Proofs.YtdamemdfehopeaaDoor
set_option linter.unusedVariables false
open Go.RowKit
/-- what has been chosen of the times up to T -/
structure ChoV (L : List (Int × Int)) (f t : Int) (rel : Int → Int → Prop) (T : Int) (st : Int × Bool) : Prop where
  no : st.2 = false → ∀ x, 0 ≤ x → x < T → ¬ (clampI f ≤ x ∧ x < clampI t)
  ex : st.2 = true → ∃ x, 0 ≤ x ∧ x < T ∧ clampI f ≤ x ∧ x < clampI t ∧ lvl 0 L x = st.1
  all : st.2 = true → ∀ x, 0 ≤ x → x < T → clampI f ≤ x → x < clampI t → rel st.1 (lvl 0 L x)
theorem clampI_bounds (n : Int) : 0 ≤ clampI n ∧ clampI n ≤ 1099511627776 := by unfold clampI; split <;> (try split) <;> omega
theorem clampI_of {n : Int} (h : 0 ≤ n) (h' : n ≤ 1099511627776) : clampI n = n := by unfold clampI; rw [if_neg (by omega), if_neg (by omega)]
theorem choose_spec {L : List (Int × Int)} (h : RightU L) (bt : Int → Int → Int) (rel : Int → Int → Prop) (hrefl : ∀ a, rel a a) (htrans : ∀ a b c, rel a b → rel b c → rel a c) (hb1 : ∀ a b, rel (bt a b) a ∧ rel (bt a b) b) (hb2 : ∀ a b, bt a b = a ∨ bt a b = b) (f t : Int) :
    ChoV L f t rel 1099511627776 (chooseGo bt (f, t) (runsU L) (0, false)) := by
  have key : ∀ (m k : Nat) (st : Int × Bool), k + m = L.length → (k < L.length → ChoV L f t rel (L.getD k (0, 0)).1 st) → (k = L.length → ChoV L f t rel 1099511627776 st) → ChoV L f t rel 1099511627776 (chooseGo bt (f, t) ((runsU L).drop k) st) := by
    intro m
    induction m with
    | zero =>
      intro k st hk _ h2
      have : (runsU L).drop k = [] := by apply List.drop_eq_nil_of_le; unfold runsU; simp; omega
      rw [this]
      exact h2 (by omega)
    | succ m ih =>
      intro k st hk h1 _
      have hkl : k < L.length := by omega
      rw [runsU_drop' hkl]
      obtain ⟨b0, b1, b2⟩ := toU_le h hkl
      have hl : ∀ x, (L.getD k (0, 0)).1 ≤ x → x < toU L k → lvl 0 L x = (L.getD k (0, 0)).2 := fun x hx hx' => lvl_at h.sorted 0 k x hkl hx fun hk1 => by unfold toU at hx'; rw [if_pos hk1] at hx'; exact hx'
      have H := h1 hkl
      generalize hA : (L.getD k (0, 0)).1 = A at *
      generalize hV : (L.getD k (0, 0)).2 = V at *
      have hm : meetsU (A, toU L k) (f, t) = decide (max A (clampI f) < min (toU L k) (clampI t)) := by
        unfold meetsU bothT bothF
        simp only
        rw [clampI_of b0 (by omega), clampI_of (show 0 ≤ toU L k by omega) b2]
        rw [Bool.eq_iff_iff]
        simp only [Bool.not_eq_true', decide_eq_false_iff_not, decide_eq_true_eq]
        omega
      have hst : ChoV L f t rel (toU L k) (if meetsU (A, toU L k) (f, t) then (if st.2 then (bt st.1 V, true) else (bt V V, true)) else st) := by
        rw [hm]
        by_cases hmm : max A (clampI f) < min (toU L k) (clampI t)
        · rw [decide_eq_true hmm]
          simp only [if_true]
          have hx0 := hl (max A (clampI f)) (by omega) (by omega)
          cases h2 : st.2 with
          | true =>
            simp only [if_true]
            obtain ⟨x, x0, x1, x2, x3, x4⟩ := H.ex h2
            refine ⟨fun hh => by simp at hh, fun _ => ?_, fun _ y y0 y1 y2 y3 => ?_⟩
            · rcases hb2 st.1 V with e | e
              · exact ⟨x, x0, by omega, x2, x3, x4.trans e.symm⟩
              · exact ⟨max A (clampI f), by omega, by omega, by omega, by omega, hx0.trans e.symm⟩
            · by_cases hy : y < A
              · exact htrans _ _ _ (hb1 st.1 V).1 (H.all h2 y y0 hy y2 y3)
              · rw [hl y (by omega) y1]; exact (hb1 st.1 V).2
          | false =>
            simp only [Bool.false_eq_true, if_false]
            have eVV : bt V V = V := by rcases hb2 V V with e | e <;> exact e
            rw [eVV]
            refine ⟨fun hh => by simp at hh, fun _ => ⟨max A (clampI f), by omega, by omega, by omega, by omega, hx0⟩, fun _ y y0 y1 y2 y3 => ?_⟩
            by_cases hy : y < A
            · exact absurd ⟨y2, y3⟩ (H.no h2 y y0 hy)
            · rw [hl y (by omega) y1]; exact hrefl _
        · rw [decide_eq_false hmm]
          simp only [Bool.false_eq_true, if_false]
          refine ⟨fun h2 y y0 y1 hy => ?_, fun h2 => ?_, fun h2 y y0 y1 y2 y3 => ?_⟩
          · by_cases hyA : y < A
            · exact H.no h2 y y0 hyA hy
            · omega
          · obtain ⟨x, x0, x1, x2⟩ := H.ex h2
            exact ⟨x, x0, by omega, x2⟩
          · by_cases hyA : y < A
            · exact H.all h2 y y0 hyA y2 y3
            · omega
      unfold chooseGo
      simp only
      by_cases hs : toU L k < t
      · rw [if_pos hs]
        refine ih (k + 1) _ (by omega) (fun hk1 => ?_) (fun hk1 => ?_)
        · have e : toU L k = (L.getD (k + 1) (0, 0)).1 := by unfold toU; rw [if_pos hk1]
          rw [← e]; exact hst
        · have e : toU L k = 1099511627776 := by unfold toU; rw [if_neg (by omega)]
          rw [← e]
          have := hst
          rw [e] at this ⊢
          exact this
      · rw [if_neg hs]
        have hct : clampI t ≤ toU L k := by unfold clampI; split <;> (try split) <;> omega
        exact ⟨fun h2 y y0 _ hy => hst.no h2 y y0 (by omega) hy, fun h2 => by obtain ⟨x, x0, x1, x2⟩ := hst.ex h2; exact ⟨x, x0, by omega, x2⟩, fun h2 y y0 _ y2 y3 => hst.all h2 y y0 (by omega) y2 y3⟩
  have := key L.length 0 (0, false) (by omega) (fun h0 => ?_) (fun h0 => ?_)
  · simpa using this
  · obtain ⟨v, r, e⟩ := h.head
    have : (L.getD 0 (0, 0)).1 = 0 := by rw [e]; rfl
    rw [this]
    exact ⟨fun _ x h1 h2 => by omega, fun hh => by simp at hh, fun hh => by simp at hh⟩
  · obtain ⟨v, r, e⟩ := h.head
    rw [e] at h0; simp at h0
theorem minU_rel : (∀ a b : Int, minU a b ≤ a ∧ minU a b ≤ b) ∧ ∀ a b : Int, minU a b = a ∨ minU a b = b := by
  constructor
  · intro a b; unfold minU; split <;> omega
  · intro a b; unfold minU; split <;> simp
theorem maxU_rel : (∀ a b : Int, a ≤ maxU a b ∧ b ≤ maxU a b) ∧ ∀ a b : Int, maxU a b = a ∨ maxU a b = b := by
  constructor
  · intro a b; unfold maxU; split <;> omega
  · intro a b; unfold maxU; split <;> simp
/-- the least level of a span that is not empty -/
theorem least_spec {L : List (Int × Int)} (h : RightU L) {f t : Int} (hft : clampI f < clampI t) : (∃ x, 0 ≤ x ∧ x < 1099511627776 ∧ clampI f ≤ x ∧ x < clampI t ∧ lvl 0 L x = chooseU minU L (f, t)) ∧ ∀ x, 0 ≤ x → x < 1099511627776 → clampI f ≤ x → x < clampI t → chooseU minU L (f, t) ≤ lvl 0 L x := by
  have hs := choose_spec h minU (fun a b => a ≤ b) (fun a => Int.le_refl a) (fun a b c => Int.le_trans) minU_rel.1 minU_rel.2 f t
  have hc := clampI_bounds f
  have hc2 := clampI_bounds t
  have h2 : (chooseGo minU (f, t) (runsU L) (0, false)).2 = true := by
    cases hh : (chooseGo minU (f, t) (runsU L) (0, false)).2 with
    | true => rfl
    | false => exact absurd ⟨Int.le_refl _, hft⟩ (hs.no hh (clampI f) hc.1 (by omega))
  exact ⟨hs.ex h2, hs.all h2⟩
theorem most_spec {L : List (Int × Int)} (h : RightU L) {f t : Int} (hft : clampI f < clampI t) : (∃ x, 0 ≤ x ∧ x < 1099511627776 ∧ clampI f ≤ x ∧ x < clampI t ∧ lvl 0 L x = chooseU maxU L (f, t)) ∧ ∀ x, 0 ≤ x → x < 1099511627776 → clampI f ≤ x → x < clampI t → lvl 0 L x ≤ chooseU maxU L (f, t) := by
  have hs := choose_spec h maxU (fun a b => b ≤ a) (fun a => Int.le_refl a) (fun a b c h1 h2 => Int.le_trans h2 h1) maxU_rel.1 maxU_rel.2 f t
  have hc := clampI_bounds f
  have hc2 := clampI_bounds t
  have h2 : (chooseGo maxU (f, t) (runsU L) (0, false)).2 = true := by
    cases hh : (chooseGo maxU (f, t) (runsU L) (0, false)).2 with
    | true => rfl
    | false => exact absurd ⟨Int.le_refl _, hft⟩ (hs.no hh (clampI f) hc.1 (by omega))
  exact ⟨hs.ex h2, hs.all h2⟩
/-- the level at a time -/
theorem at_spec {L : List (Int × Int)} (h : RightU L) (t : Int) : atU L t = lvl 0 L (min (clampI t) 1099511627775) := by
  have hc := clampI_bounds t
  have hm : minU (clampI t) 1099511627775 = min (clampI t) 1099511627775 := by unfold minU; split <;> omega
  unfold atU
  rw [hm]
  generalize hx : min (clampI t) 1099511627775 = x at *
  have hx0 : 0 ≤ x ∧ x ≤ 1099511627775 := by omega
  have e1 : clampI x = x := clampI_of hx0.1 (by omega)
  have e2 : addI x 1 = x + 1 := by unfold addI; rw [e1, show clampI 1 = 1 from rfl]; exact clampI_of (by omega) (by omega)
  rw [e1, e2]
  have e3 : clampI (x + 1) = x + 1 := clampI_of (by omega) (by omega)
  obtain ⟨⟨y, y0, y1, y2, y3, y4⟩, _⟩ := least_spec h (f := x) (t := x + 1) (by rw [e1, e3]; omega)
  rw [e1] at y2
  rw [e3] at y3
  have : y = x := by omega
  rw [← y4, this]
end Go.Proofs.YtdamemdfehopeaaDoor
namespace Go.Proofs.YtdamemdfehopeaaDoor
set_option linter.unusedVariables false
open Go.ChangeShapes Go.WideShapes Go.ChangeAt Go.RowKit
theorem w64_in (n : Int) (h : -9223372036854775808 ≤ n ∧ n ≤ 9223372036854775807) : wrap64 n = n := by unfold wrap64; omega

/-- the sum of g over n times from f on -/
def sumS (g : Int → Int) (f : Int) : Nat → Int
  | 0 => 0
  | n + 1 => sumS g f n + g (f + n)
theorem sumS_add (g : Int → Int) (f : Int) (a : Nat) : ∀ b : Nat, sumS g f (a + b) = sumS g f a + sumS g (f + a) b
  | 0 => by simp [sumS]
  | b + 1 => by
    have h := sumS_add g f a b
    show sumS g f (a + b) + g (f + ((a + b : Nat) : Int)) = sumS g f a + (sumS g (f + a) b + g (f + a + b))
    rw [h, show f + ((a + b : Nat) : Int) = f + a + b by omega]
    omega
theorem sumS_congr {g k : Int → Int} {f : Int} : ∀ {n : Nat}, (∀ x, f ≤ x → x < f + n → g x = k x) → sumS g f n = sumS k f n
  | 0, _ => rfl
  | n + 1, h => by
    show sumS g f n + g (f + n) = sumS k f n + k (f + n)
    rw [sumS_congr (n := n) fun x h0 h1 => h x h0 (by omega), h (f + n) (by omega) (by omega)]
theorem sumS_const {g : Int → Int} {f v : Int} : ∀ {n : Nat}, (∀ x, f ≤ x → x < f + n → g x = v) → sumS g f n = n * v
  | 0, _ => by simp [sumS]
  | n + 1, h => by
    show sumS g f n + g (f + n) = ((n + 1 : Nat) : Int) * v
    rw [sumS_const (n := n) (v := v) fun x h0 h1 => h x h0 (by omega), h (f + n) (by omega) (by omega), Int.natCast_add, Int.add_mul]
    simp
theorem sumS_bd {g : Int → Int} {f B : Int} : ∀ {n : Nat}, (∀ x, f ≤ x → x < f + n → 0 ≤ g x ∧ g x ≤ B) → 0 ≤ sumS g f n ∧ sumS g f n ≤ n * B
  | 0, _ => by simp [sumS]
  | n + 1, h => by
    have h1 := sumS_bd (n := n) (B := B) fun x h0 h1 => h x h0 (by omega)
    have h2 := h (f + n) (by omega) (by omega)
    show 0 ≤ sumS g f n + g (f + n) ∧ sumS g f n + g (f + n) ≤ ((n + 1 : Nat) : Int) * B
    rw [Int.natCast_add, Int.add_mul]
    simp only [Int.natCast_one, Int.one_mul]
    omega
theorem sumS_more {g k : Int → Int} {f d : Int} : ∀ {n : Nat}, (∀ x, f ≤ x → x < f + n → k x = g x + d) → sumS k f n = sumS g f n + n * d
  | 0, _ => by simp [sumS]
  | n + 1, h => by
    show sumS k f n + k (f + n) = sumS g f n + g (f + n) + ((n + 1 : Nat) : Int) * d
    rw [sumS_more (n := n) (d := d) (g := g) fun x h0 h1 => h x h0 (by omega), h (f + n) (by omega) (by omega), Int.natCast_add, Int.add_mul]
    simp only [Int.natCast_one, Int.one_mul]
    omega
/-- the sum over the times from a to b -/
def areaS (g : Int → Int) (a b : Int) : Int := sumS g a (b - a).toNat
theorem areaS_split (g : Int → Int) {a b c : Int} (h1 : a ≤ b) (h2 : b ≤ c) : areaS g a c = areaS g a b + areaS g b c := by
  unfold areaS
  rw [show (c - a).toNat = (b - a).toNat + (c - b).toNat by omega, sumS_add, show a + ((b - a).toNat : Int) = b by omega]
theorem areaS_none (g : Int → Int) {a b : Int} (h : b ≤ a) : areaS g a b = 0 := by
  unfold areaS
  rw [show (b - a).toNat = 0 by omega]
  rfl
/-- the level, if it is above 0 -/
def posL (L : List (Int × Int)) (x : Int) : Int := maxU (lvl 0 L x) 0
theorem area_sum {L : List (Int × Int)} (h : RightU L) (f t : Int) : (runsU L).foldl (areaStep (f, t)) 0 = areaS (posL L) (clampI f) (clampI t) := by
  have hF := clampI_bounds f
  have hT := clampI_bounds t
  have key : ∀ (m k : Nat) (s T0 : Int), k + m = L.length → (k < L.length → T0 = (L.getD k (0, 0)).1) → (k = L.length → T0 = 1099511627776) → 0 ≤ T0 → T0 ≤ 1099511627776 → s = areaS (posL L) (clampI f) (min (clampI t) T0) → 0 ≤ s ∧ s ≤ 1000000 * T0 → ((runsU L).drop k).foldl (areaStep (f, t)) s = areaS (posL L) (clampI f) (clampI t) := by
    intro m
    induction m with
    | zero =>
      intro k s T0 hk _ h2 _ _ hs _
      have : (runsU L).drop k = [] := by apply List.drop_eq_nil_of_le; unfold runsU; simp; omega
      rw [this, List.foldl_nil, hs, h2 (by omega), show min (clampI t) 1099511627776 = clampI t by omega]
    | succ m ih =>
      intro k s T0 hk h1 _ hT0 _ hs hsb
      have hkl : k < L.length := by omega
      rw [runsU_drop' hkl, List.foldl_cons]
      obtain ⟨b0, b1, b2⟩ := toU_le h hkl
      have hl : ∀ x, (L.getD k (0, 0)).1 ≤ x → x < toU L k → lvl 0 L x = (L.getD k (0, 0)).2 := fun x hx hx' => lvl_at h.sorted 0 k x hkl hx fun hk1 => by unfold toU at hx'; rw [if_pos hk1] at hx'; exact hx'
      have hget : L.getD k (0, 0) ∈ L := by rw [List.getD_eq_getElem?_getD, List.getElem?_eq_getElem hkl]; exact List.getElem_mem hkl
      have hbd := h.bd _ hget
      have e0 := h1 hkl
      generalize hA : (L.getD k (0, 0)).1 = A at *
      generalize hV : (L.getD k (0, 0)).2 = V at *
      subst e0
      have hm0 : 0 ≤ maxU V 0 ∧ maxU V 0 ≤ 1000000 := by unfold maxU; split <;> omega
      have hposl : ∀ x, T0 ≤ x → x < toU L k → posL L x = maxU V 0 := fun x hx hx' => by unfold posL; rw [hl x hx hx']
      generalize maxU V 0 = U at *
      have hstep : areaStep (f, t) s (T0, toU L k, V) = areaS (posL L) (clampI f) (min (clampI t) (toU L k)) ∧ 0 ≤ areaStep (f, t) s (T0, toU L k, V) ∧ areaStep (f, t) s (T0, toU L k, V) ≤ 1000000 * toU L k := by
        have hU : maxU V 0 = U := by have := hposl T0 (by omega) (by omega); unfold posL at this; rw [hl T0 (by omega) (by omega)] at this; exact this
        unfold areaStep
        simp only
        rw [hU]
        have hcut : (cutI (T0, toU L k) (f, t)).2 - (cutI (T0, toU L k) (f, t)).1 = if min (toU L k) (clampI t) ≤ max T0 (clampI f) then 0 else min (toU L k) (clampI t) - max T0 (clampI f) := by
          unfold cutI bothT bothF
          simp only
          rw [clampI_of b0 (by omega), clampI_of (show 0 ≤ toU L k by omega) b2]
          split <;> simp
        rw [hcut]
        by_cases hmm : min (toU L k) (clampI t) ≤ max T0 (clampI f)
        · rw [if_pos hmm]
          have e1 : wrap64 (s + wrap64 (wrap64 0 * U)) = s := by
            rw [show wrap64 0 = 0 by decide +kernel, Int.zero_mul, show wrap64 0 = 0 by decide +kernel, Int.add_zero]
            exact w64_in _ ⟨by omega, by omega⟩
          rw [e1]
          refine ⟨?_, by omega, by omega⟩
          rw [hs]
          by_cases hle : clampI t ≤ T0
          · rw [show min (clampI t) T0 = clampI t by omega, show min (clampI t) (toU L k) = clampI t by omega]
          · rw [areaS_none _ (by omega), areaS_none _ (by omega)]
        · rw [if_neg hmm]
          generalize hd : min (toU L k) (clampI t) - max T0 (clampI f) = D
          have hD : 0 < D ∧ D ≤ toU L k - T0 := by omega
          have hDU : 0 ≤ D * U ∧ D * U ≤ D * 1000000 := ⟨Int.mul_nonneg (by omega) hm0.1, Int.mul_le_mul_of_nonneg_left hm0.2 (by omega)⟩
          have e1 : wrap64 (s + wrap64 (wrap64 D * U)) = s + D * U := by
            rw [w64_in D ⟨by omega, by omega⟩, w64_in (D * U) ⟨by omega, by omega⟩]
            exact w64_in _ ⟨by omega, by omega⟩
          rw [e1]
          refine ⟨?_, by omega, by omega⟩
          have hc : areaS (posL L) (max T0 (clampI f)) (min (clampI t) (toU L k)) = D * U := by
            unfold areaS
            rw [show (min (clampI t) (toU L k) - max T0 (clampI f)).toNat = D.toNat by omega]
            rw [sumS_const (v := U) fun x h0 h1 => hposl x (by omega) (by omega)]
            rw [show ((D.toNat : Nat) : Int) = D by omega]
          by_cases hle : clampI f ≤ T0
          · rw [areaS_split (posL L) hle (show T0 ≤ min (clampI t) (toU L k) by omega), hs, show min (clampI t) T0 = T0 by omega]
            rw [show max T0 (clampI f) = T0 by omega] at hc
            rw [hc]
          · rw [show max T0 (clampI f) = clampI f by omega] at hc
            rw [hc, hs, areaS_none _ (by omega), Int.zero_add]
      refine ih (k + 1) _ (toU L k) (by omega) (fun hk1 => by unfold toU; rw [if_pos hk1]) (fun hk1 => by unfold toU; rw [if_neg (by omega)]) (by omega) b2 hstep.1 hstep.2
  have h0 := key L.length 0 0 0 (by omega) (fun h0 => by obtain ⟨v, r, e⟩ := h.head; rw [e]; rfl) (fun h0 => by obtain ⟨v, r, e⟩ := h.head; rw [e] at h0; simp at h0) (by omega) (by omega) (by rw [areaS_none _ (by omega)]) (by omega)
  rw [List.drop_zero] at h0
  exact h0
theorem area_eq {L : List (Int × Int)} (h : RightU L) (f t : Int) : areaU L (f, t) = minU (areaS (posL L) (clampI f) (clampI t)) 1099511627776 := by
  unfold areaU
  rw [area_sum h]
end Go.Proofs.YtdamemdfehopeaaDoor
namespace Go.Proofs.YtdamemdfehopeaaDoor
set_option linter.unusedVariables false
open Go.ChangeShapes Go.WideShapes Go.ChangeAt Go.RowKit
attribute [local go_sem ↓] Go.wp_at_zero Go.wp_at_succ comesTo_value_eq comesTo_skip_eq comesTo_enter_eq

theorem OwnU.made (w : World) : OwnU (w.alloc (.cells #[] 113)) w.heap.size (.slice (some ⟨w.heap.size, 0, none⟩) 0 0) [] :=
  ⟨rfl, .inr ⟨w.heap.size, 0, #[], rfl, Nat.le_refl _, World.alloc_heap_new w _, Nat.le_refl _, by unfold maxLen; omega, rfl, rfl⟩⟩
section
variable {ops : Array Oper} {rest : List Oper} {o : Oper} {a : Act} {w : World} {Q : Exit → Act → World → Prop}
/-- APPEND of a row of steps -/
theorem wpList_append_steps (hgd : o.guard = none) (s x : Operand)
    (ho : o.op = .call { callee := .builtin .append, args := #[s, x], argTypes := #[114, 114] })
    (B : Nat) (v : Value) (l m : List (Int × Int)) (hs : a.eval s = v) (hown : OwnU w B v l) (g c : Nat) (hx : a.eval x = .slice (some ⟨g, 0, none⟩) m.length c) (hr : URow w g m) (h63 : l.length + m.length ≤ 4398046511104) (hB : B ≤ w.heap.size)
    (h : ∀ (v' : Value) (w' : World), OwnU w' B v' (l ++ m) → w.grownBy w' v.ownBlock → (v'.ownBlock = v.ownBlock ∨ v'.ownBlock = some w.heap.size) → wpList Tryd.prog ops Q rest (a.put o.dst v') w') : wpList Tryd.prog ops Q (o :: rest) a w := by
  obtain ⟨i0, hi, hz0, hz1, hz2⟩ := info_parts3 info_step
  refine wpList_append_own_at w hgd s x 114 ho B 113 i0 (.agg #[.int .i64 0, .int .i64 0]) 2 16 Tryd.underlying114 hi hz0 hz1 hz2 rfl (by decide) v l.length (flatU l) hs hown
      ⟨g, 0, none⟩ m.length c (flatU m) hx (flatU_length m) (fun j u hj => ?_) (fun u hu => flatU_one _ u hu) (by unfold maxLen; omega) (by omega) hB (fun v' w' h1 h2 _ h4 => ?_)
  · have hlt : j < (flatU m).length := by
      rcases Nat.lt_or_ge j (flatU m).length with h | h
      · exact h
      · rw [List.getElem?_eq_none h] at hj; cases hj
    rw [flatU_length] at hlt
    obtain ⟨k, hk⟩ : ∃ k, j = k * 2 ∨ j = k * 2 + 1 := ⟨j / 2, by omega⟩
    have hkl : k < m.length := by omega
    have h1 := flatU_get m k hkl
    have h2 := hr k hkl
    have ha : ∀ i : Nat, (⟨g, 0, none⟩ : Addr).add i = ⟨g, i, none⟩ := fun i => by
      unfold Addr.add
      by_cases h : i = 0
      · simp [h]
      · simp [h]
    rw [ha]
    rcases hk with rfl | rfl
    · rw [h1.1] at hj; rw [← hj]; exact h2.1
    · rw [h1.2] at hj; rw [← hj]; exact h2.2
  · exact h v' w' (by unfold OwnU; rw [List.length_append, flatU_append]; exact h1) h2 h4
end
set_option maxRecDepth 100000 in
set_option maxHeartbeats 1000000 in
theorem clone_row {w : World} {g c : Nat} {L : List (Int × Int)} (hr : URow w g L) (hg : g < w.heap.size) (hp : 0 < L.length) (hl : L.length ≤ 1099511627776) :
    Calls Tryd.prog 97 #[.slice (some ⟨g, 0, none⟩) L.length c] w fun e w' => ∃ g' c', e = .returned (.slice (some ⟨g', 0, none⟩) L.length c') ∧ w.heap.size ≤ g' ∧ g' < w'.heap.size ∧ L.length ≤ c' ∧ URow w' g' L ∧ Below w.heap.size w w' := by
  have hne : ∀ W, Sem.run Tryd.prog (binOp .eql 114 (.slice (some ⟨g, 0, none⟩) L.length c) (.slice none 0 0)) W = .ok (.bool false) W := fun W => by kernel_rfl
  go_enter Tryd.func97, Tryd.ntmps97
  go_upto_region 3 with fail
  refine wp_region_lit ?_
  refine wpList_yield (w' := w.alloc (.cells #[] 113)) (v := .slice (some ⟨w.heap.size, 0, none⟩) 0 0) rfl (by first | (go_simp; done) | (go_simp; rfl)) ?_
  have hb := below_alloc (Below.refl _ w) (.cells #[] 113)
  have hO := OwnU.made w
  have hr1 := hr.mono (hb.block _ hg)
  have hs1 : w.heap.size < (w.alloc (.cells #[] 113)).heap.size := by simp
  generalize w.alloc (.cells #[] 113) = W1 at *
  refine wpList_yield (w' := W1) (v := .slice (some ⟨g, 0, none⟩) L.length c) rfl (by first | (go_simp; done) | (go_simp; rfl)) ?_
  refine wpList_append_steps rfl _ _ rfl w.heap.size (.slice (some ⟨w.heap.size, 0, none⟩) 0 0) [] L (by go_simp) hO g c (by go_simp) hr1 (by simp; omega) (by omega) ?_
  intro v' W2 ho' hg2 hn
  rw [List.nil_append] at ho'
  obtain ⟨ad, c', rfl, hc', had⟩ := ho'.form
  obtain ⟨g', rfl, h1, h2⟩ := had hp
  have hb2 : Below w.heap.size w W2 := hb.grown hg2 hb.size (fun k e => by have e' : w.heap.size = k := Option.some.inj e; omega)
  have hrow := ho'.row
  go_wp2_with fail
  go_ret
  exact ⟨g', c', rfl, h1, h2, hc', hrow, hb2⟩
set_option maxRecDepth 100000 in
set_option maxHeartbeats 1000000 in
theorem list_any {w : World} {S : Nat} {L : List (Int × Int)} (h : USt w S L) :
    Calls Tryd.prog 75 #[.pointer (some ⟨S, 0, none⟩)] w fun e w' => ∃ g' c', e = .returned (.slice (some ⟨g', 0, none⟩) L.length c') ∧ w.heap.size ≤ g' ∧ g' < w'.heap.size ∧ L.length ≤ c' ∧ URow w' g' L ∧ Below w.heap.size w w' := by
  obtain ⟨g, c, hg, hS, hc, hs, hr⟩ := h.at_
  have c0 := cell_of_block (o := 0) hS rfl
  have KC := Lib.hid (clone_row (c := c) hr hs h.pos h.len)
  have KT := Lib.hid (there_any h)
  clear h hr hS
  go_enter Tryd.func75, Tryd.ntmps75
  go_wp2_with fail
  refine KT.out.mono ?_
  rintro e w' ⟨rfl, rfl⟩
  go_wp2_with fail
  refine KC.out.mono ?_
  rintro e w1 ⟨g', c', rfl, h1, h2, h3, h4, h5⟩
  have HX := Lib.hid (And.intro h4 h5)
  clear h4 h5
  go_wp2_with fail
  go_ret
  exact ⟨g', c', rfl, h1, h2, h3, HX.out.1, HX.out.2⟩
set_option maxRecDepth 100000 in
set_option maxHeartbeats 1000000 in
theorem clone_any {w : World} {S : Nat} {L : List (Int × Int)} (h : USt w S L) :
    Calls Tryd.prog 51 #[.pointer (some ⟨S, 0, none⟩)] w fun e w' => ∃ S', e = .returned (.pointer (some ⟨S', 0, none⟩)) ∧ w.heap.size ≤ S' ∧ USt w' S' L ∧ Below w.heap.size w w' := by
  obtain ⟨g, c, hg, hS, hc, hs, hr⟩ := h.at_
  have c0 := cell_of_block (o := 0) hS rfl
  have KC := Lib.hid (clone_row (c := c) hr hs h.pos h.len)
  have KT := Lib.hid (there_any h)
  have hpos := h.pos
  have hlen := h.len
  clear h hr hS
  go_enter Tryd.func51, Tryd.ntmps51
  go_wp2_with fail
  refine KT.out.mono ?_
  rintro e w' ⟨rfl, rfl⟩
  go_wp2_with fail
  refine KC.out.mono ?_
  rintro e w1 ⟨g', c', rfl, h1, h2, h3, h4, h5⟩
  have hb := below_alloc (Below.refl _ w1) (.cells #[.slice (some ⟨g', 0, none⟩) L.length c'] 116)
  have hn := World.alloc_heap_new w1 (.cells #[.slice (some ⟨g', 0, none⟩) L.length c'] 116)
  have HX := Lib.hid (show USt (w1.alloc (.cells #[.slice (some ⟨g', 0, none⟩) L.length c'] 116)) w1.heap.size L from ⟨⟨g', c', by omega, hn, h3, by simp; omega, h4.mono (hb.block _ h2)⟩, hpos, hlen⟩)
  have HB := Lib.hid (below_next h5 hb)
  have hsz := h5.size
  clear h4 h5 hb hn
  go_wp2_with fail
  go_ret
  exact ⟨w1.heap.size, rfl, hsz, HX.out, HB.out⟩
end Go.Proofs.YtdamemdfehopeaaDoor
namespace Go.Proofs.YtdamemdfehopeaaDoor
set_option linter.unusedVariables false
open Go.ChangeShapes Go.WideShapes Go.ChangeAt Go.RowKit
attribute [local go_sem ↓] Go.wp_at_zero Go.wp_at_succ comesTo_value_eq comesTo_skip_eq comesTo_enter_eq

theorem take_same {L M : List (Int × Int)} {k : Nat} (hk : k < L.length) (hm : k < M.length) (h : L.take k = M.take k) (e : L.getD k (0, 0) = M.getD k (0, 0)) : L.take (k + 1) = M.take (k + 1) := by
  rw [List.take_add_one (l := L), List.take_add_one (l := M), h, List.getElem?_eq_getElem hk, List.getElem?_eq_getElem hm]
  rw [List.getD_eq_getElem?_getD, List.getD_eq_getElem?_getD, List.getElem?_eq_getElem hk, List.getElem?_eq_getElem hm] at e
  have e' : L[k] = M[k] := e
  rw [e']
end Go.Proofs.YtdamemdfehopeaaDoor
namespace Go.Proofs.YtdamemdfehopeaaDoor
set_option linter.unusedVariables false
open Go.ChangeShapes Go.WideShapes Go.ChangeAt Go.RowKit
attribute [local go_sem ↓] Go.wp_at_zero Go.wp_at_succ comesTo_value_eq comesTo_skip_eq comesTo_enter_eq

theorem RightU.pos {L : List (Int × Int)} (h : RightU L) : 0 < L.length := by
  obtain ⟨v, r, e⟩ := h.head
  rw [e]; simp
theorem addF_in (n : Int) : ∀ x, -1000000 ≤ addF n x ∧ addF n x ≤ 1000000 := fun x => boundU_in _
theorem right_flat (n : Int) : RightU [(0, boundU n)] :=
  ⟨⟨_, _, rfl⟩, by simp, fun a b p q e => by have := congrArg List.length e; simp at this; omega, fun p hp => by simp at hp; subst hp; show (0 : Int) < 1099511627776; decide, fun p hp => by simp at hp; subst hp; exact boundU_in n⟩
theorem add_r {w : World} {S : Nat} {L : List (Int × Int)} (h : USt w S L) (hr : RightU L) (hl : 3 * L.length ≤ 1099511627776) (f t n : Int) :
    Calls Tryd.prog 64 #[.pointer (some ⟨S, 0, none⟩), .agg #[.int .i64 f, .int .i64 t], .int .i64 n] w fun e w' => e = .returned (.int .i64 0) ∧ USt w' S (changeU (addF (byU n)) L (f, t)) ∧ FrU S w w' :=
  add_u h f t n (by have := changeU_len (addF (byU n)) L (f, t); omega) (change_right hr (addF_in (byU n)) f t).1.pos
theorem set_r {w : World} {S : Nat} {L : List (Int × Int)} (h : USt w S L) (hr : RightU L) (hl : 3 * L.length ≤ 1099511627776) (f t n : Int) :
    Calls Tryd.prog 66 #[.pointer (some ⟨S, 0, none⟩), .agg #[.int .i64 f, .int .i64 t], .int .i64 n] w fun e w' => e = .returned (.int .i64 0) ∧ USt w' S (changeU (fun _ => boundU n) L (f, t)) ∧ FrU S w w' :=
  set_any h f t n (by have := changeU_len (fun _ => boundU n) L (f, t); omega) (change_right hr (fun _ => boundU_in n) f t).1.pos
/-- the levels behind a forgetting -/
def forgetU (L : List (Int × Int)) (t : Int) : List (Int × Int) := if clampI t = 1099511627776 then L else changeU (fun _ => boundU (atU L (clampI t))) L (0, clampI t)
theorem forget_right {L : List (Int × Int)} (h : RightU L) (t : Int) : RightU (forgetU L t) := by
  unfold forgetU
  split
  · exact h
  · exact (change_right h (fun _ => boundU_in _) 0 (clampI t)).1
theorem forgetU_len (L : List (Int × Int)) (t : Int) : (forgetU L t).length ≤ 3 * L.length := by
  unfold forgetU
  split
  · omega
  · exact changeU_len _ _ _
set_option maxRecDepth 100000 in
set_option maxHeartbeats 1000000 in
theorem forget_any {w : World} {S : Nat} {L : List (Int × Int)} (h : USt w S L) (hr : RightU L) (hl : 3 * L.length ≤ 1099511627776) (t : Int) :
    Calls Tryd.prog 68 #[.pointer (some ⟨S, 0, none⟩), .int .i64 t] w fun e w' => e = .returned (.int .i64 0) ∧ USt w' S (forgetU L t) ∧ FrU S w w' := by
  have KT := Lib.hid (there_any h)
  have KC := Lib.hid (fun W => clamp_any t W)
  have KA := Lib.hid (fun W x (hb : Below w.heap.size w W) => at_any (h.below hb) x)
  have KS := Lib.hid (fun W x y (hb : Below w.heap.size w W) => set_r (h.below hb) hr hl 0 x y)
  have HH := Lib.hid h
  obtain ⟨res, hres⟩ : ∃ r, r = forgetU L t := ⟨_, rfl⟩
  rw [← hres]
  have HR := Lib.hid (show res = if clampI t = 1099511627776 then L else changeU (fun _ => boundU (atU L (clampI t))) L (0, clampI t) from hres)
  clear h hres
  generalize clampI t = c at *
  by_cases hc : c = 1099511627776
  · have E := Lib.hid (show res = L by rw [HR.out, if_pos hc])
    have hd : (c == 1099511627776) = true := beq_iff_eq.2 hc
    go_enter Tryd.func68, Tryd.ntmps68
    go_wp2_with fail
    refine KT.out.mono ?_
    rintro e w' ⟨rfl, rfl⟩
    go_wp2_with fail
    refine (KC.out _).mono ?_
    rintro e w' ⟨rfl, rfl⟩
    go_wp2_with fail
    go_ret
    exact ⟨rfl, by rw [E.out]; exact HH.out, FrU.refl _ _⟩
  · have E := Lib.hid (show res = changeU (fun _ => boundU (atU L c)) L (0, c) by rw [HR.out, if_neg hc])
    have hd : (c == 1099511627776) = false := beq_eq_false_iff_ne.2 hc
    go_enter Tryd.func68, Tryd.ntmps68
    go_wp2_with fail
    refine KT.out.mono ?_
    rintro e w' ⟨rfl, rfl⟩
    go_wp2_with fail
    refine (KC.out _).mono ?_
    rintro e w' ⟨rfl, rfl⟩
    go_wp2_with fail
    refine (KA.out _ c (Below.refl _ _)).mono ?_
    rintro e w1 ⟨rfl, hb1⟩
    go_wp2_with fail
    refine (KS.out _ c (atU L c) hb1).mono ?_
    rintro e w2 ⟨rfl, hu, hf⟩
    have HX := Lib.hid (And.intro hu (FrU.after hb1 hf))
    clear hu hf hb1
    go_wp2_with fail
    go_ret
    exact ⟨rfl, by rw [E.out]; exact HX.out.1, HX.out.2⟩
end Go.Proofs.YtdamemdfehopeaaDoor
namespace Go.Proofs.YtdamemdfehopeaaDoor
set_option linter.unusedVariables false
open Go.ChangeShapes Go.WideShapes Go.ChangeAt Go.RowKit
attribute [local go_sem ↓] Go.wp_at_zero Go.wp_at_succ comesTo_value_eq comesTo_skip_eq comesTo_enter_eq

def oneL : List (Int × Int) := [(0, 0), (3, 2), (7, 0)]
theorem one_change : changeU (addF (byU 2)) [(0, boundU 0)] (3, 7) = oneL := by decide +kernel
theorem one_at3 : atU oneL 3 = 2 := by decide +kernel
theorem one_at7 : atU oneL 7 = 0 := by decide +kernel
theorem one_most : chooseU maxU oneL (0, 9) = 2 := by decide +kernel
theorem one_area : areaU oneL (0, 9) = 8 := by decide +kernel
set_option maxHeartbeats 1000000 in
theorem add_no {w : World} {v : Value} (h : NoU w v) (f t n : Int) : Calls Tryd.prog 64 #[v, .agg #[.int .i64 f, .int .i64 t], .int .i64 n] w fun e w' => e = .returned (.int .i64 1) ∧ Below w.heap.size w w' := by
  have HB := below_alloc (below_alloc (Below.refl _ w) (.cells #[.int .i64 f, .int .i64 t] 38)) (.cells #[.int .i64 n] 3)
  have n2 := World.alloc_heap_new (w.alloc (.cells #[.int .i64 f, .int .i64 t] 38)) (.cells #[.int .i64 n] 3)
  rw [show (w.alloc (.cells #[.int .i64 f, .int .i64 t] 38)).heap.size = w.heap.size + 1 by simp] at n2
  have n1 := ((below_alloc (Below.refl _ (w.alloc (.cells #[.int .i64 f, .int .i64 t] 38))) (.cells #[.int .i64 n] 3)).block w.heap.size (by simp)).trans (World.alloc_heap_new w (.cells #[.int .i64 f, .int .i64 t] 38))
  have hm : (n < -2000000 ∧ byU n = -2000000) ∨ (-2000000 ≤ n ∧ 2000000 < n ∧ byU n = 2000000) ∨ (-2000000 ≤ n ∧ n ≤ 2000000 ∧ byU n = n) := by
    unfold byU
    by_cases h1 : n < -2000000
    · exact .inl ⟨h1, if_pos h1⟩
    · by_cases h2 : 2000000 < n
      · exact .inr (.inl ⟨by omega, h2, by rw [if_neg h1, if_pos h2]⟩)
      · exact .inr (.inr ⟨by omega, by omega, by rw [if_neg h1, if_neg h2]⟩)
  obtain ⟨m, hmm⟩ : ∃ m, m = byU n := ⟨_, rfl⟩
  rw [← hmm] at hm
  clear hmm
  have H0 := Lib.hid h
  clear h
  go_enter Tryd.func64, Tryd.ntmps64
  go_upto_region 1 with fail
  generalize (w.alloc (.cells #[.int .i64 f, .int .i64 t] 38)).alloc (.cells #[.int .i64 n] 3) = W at *
  have hw := (wrote_refl n2).set 0 (.int .i64 m)
  have hbel := hw.below HB (by omega)
  have b0 := cell_of_block (o := 0) n2 rfl
  have z0 := free_of_block 0 n2
  have m1 := (hw.rest w.heap.size (by omega)).trans n1
  have KC := Lib.hid (fun fn caps => change_none (H0.out.below hbel) f t fn caps)
  clear n1 n2 hw
  rcases hm with ⟨h1, rfl⟩ | ⟨h1, h2, rfl⟩ | ⟨h1, h2, rfl⟩
  all_goals (
    go_upto_region 2 with fail
    clear b0 z0
    generalize W.setCell ⟨w.heap.size + 1, 0, none⟩ (.int .i64 _) = W9 at *
    have s0 := cell_of_block (o := 0) m1 rfl
    have s1 := cell_of_block (o := 1) m1 rfl
    clear m1
    go_wp2_with fail
    refine (KC.out _ _).mono ?_
    rintro e w' ⟨rfl, hb⟩
    go_wp2_with fail
    go_ret
    exact ⟨rfl, below_next hbel hb⟩)
end Go.Proofs.YtdamemdfehopeaaDoor
namespace Go.Proofs.YtdamemdfehopeaaDoor
set_option linter.unusedVariables false
open Go.ChangeShapes Go.WideShapes Go.RowKit Go.Deep

theorem fields_at {P : Program} {fs : Array Field} {l : List (Nat × Nat × TypeId)} (h : fs.toList.map (fun f => (f.offset, P.cellsOf f.type, f.type)) = l) {i o c : Nat} {t : TypeId} (hi : l[i]? = some (o, c, t)) : ∃ f, fs[i]? = some f ∧ f.offset = o ∧ P.cellsOf f.type = c ∧ f.type = t := by
  rw [← h, List.getElem?_map] at hi
  cases hf : fs.toList[i]? with
  | none => rw [hf] at hi; cases hi
  | some f =>
    rw [hf] at hi
    injection hi with hi
    injection hi with h1 h2
    injection h2 with h2 h3
    exact ⟨f, by simpa using hf, h1, h2, h3⟩
/-- the part of a struct that a field is, as the reading of the struct tells it -/
theorem trod_field {H : Type} {enc : TypeId × Value → H} {P : Program} {w : World} {base : Nat} {spare : Nat → Bool} {held : Bool} {fuel : Nat} {t : TypeId} {cs : List Value} {x : DataW H × List MemPlace} {fs : Array Field} (hs : P.underlying t = some (.struct fs)) (h : DataW.trod enc P w base spare held fuel t cs = some x)
    {l : List (Nat × Nat × TypeId)} (hl : fs.toList.map (fun f => (f.offset, P.cellsOf f.type, f.type)) = l) {i o c : Nat} {u : TypeId} (hi : l[i]? = some (o, c, u)) : ∃ n y, DataW.trod enc P w base spare held n u ((cs.drop o).take c) = some y := by
  obtain ⟨xs, n, _, _, _, hlen, hfs⟩ := DataW.trod_struct hs h
  obtain ⟨f, hf, rfl, rfl, rfl⟩ := fields_at hl hi
  have hlt : i < xs.length := by rw [hlen]; exact (Array.getElem?_eq_some_iff.1 hf).1
  exact ⟨n, xs[i], (hfs i f hf).trans (List.getElem?_eq_getElem hlt)⟩
theorem sAct : Tryd.prog.underlying 130 = some (.struct (Tryd.prog.fieldsOf 130)) := by kernel_rfl
theorem fAct : (Tryd.prog.fieldsOf 130).toList.map (fun f => (f.offset, Tryd.prog.cellsOf f.type, f.type)) = [(0, 1, 3), (1, 2, 38), (3, 1, 3)] := by kernel_rfl
theorem sSpan : Tryd.prog.underlying 38 = some (.struct (Tryd.prog.fieldsOf 38)) := by kernel_rfl
theorem fSpan : (Tryd.prog.fieldsOf 38).toList.map (fun f => (f.offset, Tryd.prog.cellsOf f.type, f.type)) = [(0, 1, 36), (1, 1, 36)] := by kernel_rfl
theorem cellsAct10 : Tryd.prog.cellsOf 130 = 4 := by kernel_rfl
set_option maxRecDepth 10000 in
theorem act10_open {H : Type} {enc : TypeId × Value → H} {W : World} {base b0 : Nat} {spare : Nat → Bool} {held : Bool} {r : Reach} {v : Value} {d : DataW H} {p : List MemPlace}
    (hv : Value.okWide Tryd.prog W r b0 130 v) (h : DataW.Trod enc Tryd.prog W base spare held 130 v d p) :
    ∃ k f t n : Int, v = .agg #[.int .i64 k, .int .i64 f, .int .i64 t, .int .i64 n] := by
  obtain ⟨cs, rfl, hsz⟩ := okWide_struct sAct hv
  rw [cellsAct10] at hsz
  obtain ⟨fuel, hf⟩ := h
  have hcs : (Value.agg cs).cells.toList = cs.toList := rfl
  rw [hcs] at hf
  obtain ⟨l, rfl⟩ : ∃ l : List Value, cs = l.toArray := ⟨cs.toList, by simp⟩
  match l, hsz with
  | [c0, c1, c2, c3], _ =>
    obtain ⟨n0, y0, h0⟩ := trod_field sAct hf fAct (i := 0) rfl
    obtain ⟨n1, y1, h1⟩ := trod_field sAct hf fAct (i := 1) rfl
    obtain ⟨n2, y2, h2⟩ := trod_field sAct hf fAct (i := 2) rfl
    obtain ⟨n3, y3, h3⟩ := trod_field sSpan h1 fSpan (i := 0) rfl
    obtain ⟨n4, y4, h4⟩ := trod_field sSpan h1 fSpan (i := 1) rfl
    obtain ⟨a0, e0, _, _⟩ := DataW.trod_int Tryd.underlying3 h0
    obtain ⟨a2, e2, _, _⟩ := DataW.trod_int Tryd.underlying3 h2
    obtain ⟨a3, e3, _, _⟩ := DataW.trod_int Tryd.underlying36 h3
    obtain ⟨a4, e4, _, _⟩ := DataW.trod_int Tryd.underlying36 h4
    have f0 : c0 = .int .i64 a0 := by simpa using e0
    have f2 : c3 = .int .i64 a2 := by simpa using e2
    have f3 : c1 = .int .i64 a3 := by simpa using e3
    have f4 : c2 = .int .i64 a4 := by simpa using e4
    subst f0 f2 f3 f4
    exact ⟨_, _, _, _, rfl⟩
end Go.Proofs.YtdamemdfehopeaaDoor
namespace Go.Proofs.YtdamemdfehopeaaDoor
set_option linter.unusedVariables false
open Go.ChangeShapes Go.WideShapes Go.RowKit Go.Deep

/-- an act: what it is, the span, how much -/
structure ActU where
  kind : Int
  fr : Int
  to_ : Int
  n : Int
structure ActU.Cells (w : World) (b o : Nat) (a : ActU) : Prop where
  c0 : w.cell? ⟨b, o, none⟩ = some (.int .i64 a.kind)
  c1 : w.cell? ⟨b, o + 1, none⟩ = some (.int .i64 a.fr)
  c2 : w.cell? ⟨b, o + 2, none⟩ = some (.int .i64 a.to_)
  c3 : w.cell? ⟨b, o + 3, none⟩ = some (.int .i64 a.n)
  n64 : -9223372036854775808 ≤ a.n ∧ a.n ≤ 9223372036854775807
  f64 : -9223372036854775808 ≤ a.fr ∧ a.fr ≤ 9223372036854775807
  t64 : -9223372036854775808 ≤ a.to_ ∧ a.to_ ≤ 9223372036854775807
def ActsU (w : World) (ad : Option Addr) (len : Nat) (A : Nat → ActU) : Prop := len ≤ 9223372036854775807 ∧ (0 < len → ∃ b off, ad = some ⟨b, off, none⟩ ∧ ∀ k, k < len → ActU.Cells w b (off + k * 4) (A k))
instance : Inhabited ActU := ⟨⟨0, 0, 0, 0⟩⟩
set_option maxRecDepth 10000 in
theorem actsU_open {H : Type} {enc : TypeId × Value → H} {W : World} {a : Option Addr} {len cap : Nat} {d : DataW H} {p : List MemPlace}
    (h : DataW.Trod enc Tryd.prog W 0 (fun _ => true) true 59 (.slice a len cap) d p) : ∃ A : Nat → ActU, ActsU W a len A ∧ len ≤ cap := by
  obtain ⟨fuel, hf⟩ := h
  rcases Go.Deep.open_slice Tryd.underlying59 hf with ⟨hcs, _⟩ | ⟨x, l, c, m, n, D, Pl, hcs, _, hl, hm, hmm, hd, hcell⟩
  · simp [Value.cells] at hcs
    obtain ⟨rfl, rfl, rfl⟩ := hcs
    exact ⟨fun _ => ⟨0, 0, 0, 0⟩, ⟨by omega, fun h => absurd h (by omega)⟩, Nat.le_refl _⟩
  · simp [Value.cells] at hcs
    obtain ⟨rfl, rfl, rfl⟩ := hcs
    have hlm : len ≤ m := by rw [hmm]; split <;> omega
    rw [cellsAct10] at hcell
    by_cases h0 : len = 0
    · exact ⟨fun _ => ⟨0, 0, 0, 0⟩, ⟨by omega, fun h => absurd h (by omega)⟩, hl⟩
    obtain ⟨b, off, spot⟩ := x
    have hspot : spot = none := by
      obtain ⟨cs', h1, _⟩ := hcell 0 (by omega)
      obtain ⟨_, hlen, hc⟩ := World.cells?_some h1
      have := hc 0 (by omega)
      have hs : cs'[0]? = some cs'[0] := List.getElem?_eq_getElem (by omega)
      rw [hs] at this
      simpa [Addr.add] using World.cell?_spot this
    subst hspot
    have hplain : ∀ k, (⟨b, off, none⟩ : Addr).add k = ⟨b, off + k, none⟩ := fun k => by unfold Addr.add; split <;> simp_all
    have hplain2 : ∀ k j, ((⟨b, off, none⟩ : Addr).add k).add j = ⟨b, off + k + j, none⟩ := fun k j => by rw [Go.Deep.add_add, hplain, Nat.add_assoc]
    have each : ∀ i, i < len → ∃ q : ActU, ActU.Cells W b (off + i * 4) q := by
      intro i hi
      obtain ⟨cs', h1, h2⟩ := hcell i (by omega)
      obtain ⟨_, hlen, hc⟩ := World.cells?_some h1
      match cs', hlen with
      | [v0, v1, v2, v3], _ =>
        obtain ⟨n0, y0, g0⟩ := trod_field sAct h2 fAct (i := 0) rfl
        obtain ⟨n1, y1, g1⟩ := trod_field sAct h2 fAct (i := 1) rfl
        obtain ⟨n2, y2, g2⟩ := trod_field sAct h2 fAct (i := 2) rfl
        obtain ⟨n3, y3, g3⟩ := trod_field sSpan g1 fSpan (i := 0) rfl
        obtain ⟨n4, y4, g4⟩ := trod_field sSpan g1 fSpan (i := 1) rfl
        obtain ⟨a0, e0, _, _⟩ := DataW.trod_int Tryd.underlying3 g0
        obtain ⟨a2, e2, _, w2⟩ := DataW.trod_int Tryd.underlying3 g2
        obtain ⟨a3, e3, _, w3⟩ := DataW.trod_int Tryd.underlying36 g3
        obtain ⟨a4, e4, _, w4⟩ := DataW.trod_int Tryd.underlying36 g4
        have f0 : v0 = .int .i64 a0 := by simpa using e0
        have f2 : v3 = .int .i64 a2 := by simpa using e2
        have f3 : v1 = .int .i64 a3 := by simpa using e3
        have f4 : v2 = .int .i64 a4 := by simpa using e4
        subst f0 f2 f3 f4
        have b2 : -9223372036854775808 ≤ a2 ∧ a2 ≤ 9223372036854775807 := by simpa [Lit.wf, IntKind.min, IntKind.max, IntKind.signed, IntKind.bits] using w2
        have b3 : -9223372036854775808 ≤ a3 ∧ a3 ≤ 9223372036854775807 := by simpa [Lit.wf, IntKind.min, IntKind.max, IntKind.signed, IntKind.bits] using w3
        have b4 : -9223372036854775808 ≤ a4 ∧ a4 ≤ 9223372036854775807 := by simpa [Lit.wf, IntKind.min, IntKind.max, IntKind.signed, IntKind.bits] using w4
        have c : ∀ j, j < 4 → W.cell? ⟨b, off + i * 4 + j, none⟩ = [Value.int .i64 a0, .int .i64 a3, .int .i64 a4, .int .i64 a2][j]? := fun j hj => by rw [← hplain2]; exact hc j hj
        exact ⟨⟨a0, a3, a4, a2⟩, { c0 := c 0 (by decide), c1 := c 1 (by decide), c2 := c 2 (by decide), c3 := c 3 (by decide), n64 := b2, f64 := b3, t64 := b4 }⟩
    obtain ⟨A, hA⟩ := Go.Deep.choose_lt (α := ActU) (p := fun i q => ActU.Cells W b (off + i * 4) q) each
    exact ⟨A, ⟨by unfold maxLen at hm; omega, fun _ => ⟨b, off, rfl, hA⟩⟩, hl⟩
end Go.Proofs.YtdamemdfehopeaaDoor
namespace Go.Proofs.YtdamemdfehopeaaDoor
set_option linter.unusedVariables false
open Go.ChangeShapes Go.WideShapes Go.ChangeAt Go.RowKit
attribute [local go_sem ↓] Go.wp_at_zero Go.wp_at_succ comesTo_value_eq comesTo_skip_eq comesTo_enter_eq

theorem flat_low (n : Int) (w : World) : Calls Tryd.prog 11 #[.int .i64 n] w fun e w' => ∃ S, e = .returned (.pointer (some ⟨S, 0, none⟩)) ∧ w.heap.size ≤ S ∧ S < w'.heap.size ∧ (∀ W', (∀ k, w.heap.size ≤ k → k < w'.heap.size → W'.heap[k]? = w'.heap[k]?) → w'.heap.size ≤ W'.heap.size → USt W' S [(0, boundU n)]) ∧ Below w.heap.size w w' := by
  have KB := Lib.hid (bound_any n w)
  generalize boundU n = b at *
  go_enter Tryd.func11, Tryd.ntmps11
  go_wp2_with (go_at_call 48; ((with_reducible refine KB.out.mono ?_)); rintro e w' ⟨rfl, rfl⟩)
  have hb1 := below_alloc (Below.refl _ w) (.cells #[.int .i64 0, .int .i64 b] 113)
  have hb2 := below_alloc (Below.refl _ (w.alloc (.cells #[.int .i64 0, .int .i64 b] 113))) (.cells #[.slice (some ⟨w.heap.size, 0, none⟩) 1 1] 116)
  have n1 := (hb2.block w.heap.size (by simp)).trans (World.alloc_heap_new w (.cells #[.int .i64 0, .int .i64 b] 113))
  have n2 := World.alloc_heap_new (w.alloc (.cells #[.int .i64 0, .int .i64 b] 113)) (.cells #[.slice (some ⟨w.heap.size, 0, none⟩) 1 1] 116)
  have hs1 : (w.alloc (.cells #[.int .i64 0, .int .i64 b] 113)).heap.size = w.heap.size + 1 := by simp
  rw [hs1] at n2
  go_ret
  have l1 := (Array.getElem?_eq_some_iff.1 n1).1
  have l2 := (Array.getElem?_eq_some_iff.1 n2).1
  refine ⟨w.heap.size + 1, rfl, by omega, l2, fun W' hW hsz => ⟨⟨w.heap.size, 1, by omega, (hW _ (by omega) l2).trans n2, by simp, Nat.lt_of_lt_of_le l1 hsz, fun k hk => ?_⟩, by simp, by simp⟩, below_next hb1 hb2⟩
  obtain rfl : k = 0 := by simpa using hk
  exact ⟨cell_of_block (o := 0) ((hW _ (Nat.le_refl _) l1).trans n1) rfl, cell_of_block (o := 1) ((hW _ (Nat.le_refl _) l1).trans n1) rfl⟩
set_option maxRecDepth 100000 in
set_option maxHeartbeats 2000000 in
theorem play_nil (w : World) : Calls Tryd.prog 22 #[.int .i64 0, .slice none 0 0, .int .i64 0] w fun e w' => ∃ S, e = .returned (.tuple #[.pointer (some ⟨S, 0, none⟩), .agg #[.int .i64 0, .slice none 0 0]]) ∧ w.heap.size ≤ S ∧ USt w' S [(0, 0)] ∧ Below w.heap.size w w' := by
  have hmx : Tryd.prog.follows .mixedOrders = true := by kernel_rfl
  have KF := Lib.hid (fun W => (show Calls Tryd.prog 11 #[.int .i64 0] W fun e w' => ∃ S, e = .returned (.pointer (some ⟨S, 0, none⟩)) ∧ W.heap.size ≤ S ∧ S < w'.heap.size ∧ (∀ W', (∀ k, W.heap.size ≤ k → k < w'.heap.size → W'.heap[k]? = w'.heap[k]?) → w'.heap.size ≤ W'.heap.size → USt W' S [(0, 0)]) ∧ Below W.heap.size W w' from flat_low 0 W))
  have hb0 := below_alloc (Below.refl _ w) (.cells #[.int .i64 0, .slice none 0 0] 67)
  have n0 := World.alloc_heap_new w (.cells #[.int .i64 0, .slice none 0 0] 67)
  go_enter Tryd.func22, Tryd.ntmps22
  go_upto_region 1 with fail
  generalize w.alloc (.cells #[.int .i64 0, .slice none 0 0] 67) = W0 at *
  go_wp2_with fail
  refine (KF.out _).mono ?_
  rintro e W1 ⟨S, rfl, hS, hSl, hu, hb1⟩
  have n1 := (hb1.block _ (Array.getElem?_eq_some_iff.1 n0).1).trans n0
  have hs1 := (Array.getElem?_eq_some_iff.1 n1).1
  have hb2 := below_alloc (Below.refl _ W1) (.cells #[.int .i64 0, .slice none 0 0] 67)
  have n2 := World.alloc_heap_new W1 (.cells #[.int .i64 0, .slice none 0 0] 67)
  have n1' := (hb2.block _ hs1).trans n1
  have hw0 := (Array.getElem?_eq_some_iff.1 n0).1
  have HU := Lib.hid (show ∀ W', (∀ k, W0.heap.size ≤ k → k < W1.heap.size → W'.heap[k]? = (W1.alloc (.cells #[.int .i64 0, .slice none 0 0] 67)).heap[k]?) → W1.heap.size ≤ W'.heap.size → USt W' S [(0, 0)] from fun W' h1 h2 => hu W' (fun k k1 k2 => (h1 k k1 k2).trans (hb2.block k k2)) h2)
  have hs2 : W1.heap.size < (W1.alloc (.cells #[.int .i64 0, .slice none 0 0] 67)).heap.size := by simp
  have HB := Lib.hid (below_next (below_next hb0 hb1) hb2)
  have hS0 := hb0.size
  clear hu hb0 hb1 hb2 n0 n1
  go_upto_region 3 with fail
  generalize W1.alloc (.cells #[.int .i64 0, .slice none 0 0] 67) = W2 at *
  go_wp2_with fail
  go_loopw [10] (fun i wr => i = .int .i64 0 ∧ wr = W2) (fun _ _ => 0)
  case atStart => exact ⟨rfl, rfl⟩
  case round =>
    obtain ⟨rfl, rfl⟩ := hrel
    go_upto_region 18 with fail
    have c0 := cell_of_block (o := 0) n2 rfl
    have c1 := cell_of_block (o := 1) n2 rfl
    have d0 := cell_of_block (o := 0) n1' rfl
    have d1 := cell_of_block (o := 1) n1' rfl
    have f0 := free_of_block 0 n1'
    have f1 := free_of_block 1 n1'
    have hw := ((wrote_refl n1').set 0 (.int .i64 0)).set 1 (.slice none 0 0)
    have hbw := (hw.below HB.out (Nat.le_refl _)).drew
    have HX := Lib.hid (show USt ((wr.setCell ⟨w.heap.size, 0, none⟩ (.int .i64 0)).setCell ⟨w.heap.size, 1, none⟩ (.slice none 0 0)).drew S [(0, 0)] ∧ Below w.heap.size w ((wr.setCell ⟨w.heap.size, 0, none⟩ (.int .i64 0)).setCell ⟨w.heap.size, 1, none⟩ (.slice none 0 0)).drew from ⟨HU.out _ (fun k k1 k2 => hw.rest k (by omega)) (by show _ ≤ ((wr.setCell ⟨w.heap.size, 0, none⟩ (.int .i64 0)).setCell ⟨w.heap.size, 1, none⟩ (.slice none 0 0)).heap.size; rw [hw.size]; exact Nat.le_of_lt hs2), hbw⟩)
    have HC := Lib.hid (show ((wr.setCell ⟨w.heap.size, 0, none⟩ (.int .i64 0)).setCell ⟨w.heap.size, 1, none⟩ (.slice none 0 0)).drew.heap[w.heap.size]? = _ from hw.there)
    clear hw hbw
    go_region
    generalize ((wr.setCell ⟨w.heap.size, 0, none⟩ (.int .i64 0)).setCell ⟨w.heap.size, 1, none⟩ (.slice none 0 0)).drew = V at *
    have e0 := cell_of_block (o := 0) HC.out rfl
    have e1 := cell_of_block (o := 1) HC.out rfl
    clear c0 c1 d0 d1 f0 f1
    go_wp2_with fail
    exact bodyPost_ret (v := .tuple #[.pointer (some ⟨S, 0, none⟩), .agg #[.int .i64 0, .slice none 0 0]]) (by simp [results, Tryd.results22, go_sem]; try go_simp) rfl ⟨S, rfl, by omega, HX.out.1, HX.out.2⟩
end Go.Proofs.YtdamemdfehopeaaDoor
namespace Go.Proofs.YtdamemdfehopeaaDoor
set_option linter.unusedVariables false
open Go.ChangeShapes Go.WideShapes Go.ChangeAt Go.RowKit
theorem tmod_small (n : Int) : -999 ≤ n.tmod 1000 ∧ n.tmod 1000 ≤ 999 := by
  by_cases h : 0 ≤ n
  · have h1 := Int.tmod_lt_of_pos n (show (0 : Int) < 1000 by decide)
    have h2 := Int.tmod_nonneg 1000 h
    omega
  · have h1 := Int.tmod_lt_of_pos (-n) (show (0 : Int) < 1000 by decide)
    have h2 := Int.tmod_nonneg 1000 (show 0 ≤ -n by omega)
    rw [Int.neg_tmod] at h1 h2
    omega
theorem add_small {a n : Int} (ha : -900000 ≤ a ∧ a ≤ 900000) (hn : -99999 ≤ n ∧ n ≤ 99999) : addF (byU n) a = a + n := by
  have h1 : byU n = n := by unfold byU; rw [if_neg (by omega), if_neg (by omega)]
  have h2 : IntKind.i64.wrap (a + n) = a + n := by rw [IntKind.wrap_i64]; omega
  unfold addF
  rw [h1, h2]
  unfold boundU
  repeat (first | rfl | omega | split)
/-- B is L, but in the span by n more -/
def MoreU (L B : List (Int × Int)) (f t n : Int) : Prop := ∀ x, 0 ≤ x → x < 1099511627776 → lvl 0 B x = if clampI f < clampI t ∧ f ≤ x ∧ x < t then lvl 0 L x + n else lvl 0 L x
theorem clamp_facts (n : Int) : (n < 0 ∧ clampI n = 0) ∨ (0 ≤ n ∧ n ≤ 1099511627776 ∧ clampI n = n) ∨ (1099511627776 < n ∧ clampI n = 1099511627776) := by
  unfold clampI
  by_cases h : n < 0
  · exact .inl ⟨h, if_pos h⟩
  · by_cases h' : 1099511627776 < n
    · exact .inr (.inr ⟨h', by rw [if_neg h, if_pos h']⟩)
    · exact .inr (.inl ⟨by omega, by omega, by rw [if_neg h, if_neg h']⟩)
theorem more_ahead {L B : List (Int × Int)} (hL : RightU L) (hB : RightU B) {f t n : Int} (h : MoreU L B f t n) (he : clampI f < clampI t) (hf : 0 < f) : atU B (subI f 1) = atU L (subI f 1) := by
  rw [at_spec hB, at_spec hL]
  have e1 : clampI 1 = 1 := by decide +kernel
  have hs : subI f 1 = f - 1 := by
    unfold subI
    rw [e1, if_neg (by decide)]
    rcases clamp_facts f with ⟨a, b⟩ | ⟨a, c, b⟩ | ⟨a, b⟩ <;> rcases clamp_facts t with ⟨d, g⟩ | ⟨d, k, g⟩ | ⟨d, g⟩ <;> (try omega)
    all_goals (rw [if_neg (by omega), b]; rcases clamp_facts (f - 1) with ⟨a', b'⟩ | ⟨a', c', b'⟩ | ⟨a', b'⟩ <;> omega)
  rw [hs]
  have hx : 0 ≤ min (clampI (f - 1)) 1099511627775 ∧ min (clampI (f - 1)) 1099511627775 < 1099511627776 := by have := clampI_bounds (f - 1); omega
  rw [h _ hx.1 hx.2, if_neg]
  rcases clamp_facts (f - 1) with ⟨a, b⟩ | ⟨a, c, b⟩ | ⟨a, b⟩ <;> rcases clamp_facts t with ⟨d, g⟩ | ⟨d, k, g⟩ | ⟨d, g⟩ <;> rcases clamp_facts f with ⟨a', b'⟩ | ⟨a', c', b'⟩ | ⟨a', b'⟩ <;> omega
theorem more_behind {L B : List (Int × Int)} (hL : RightU L) (hB : RightU B) {f t n : Int} (h : MoreU L B f t n) (he : clampI f < clampI t) (ht : clampI t < 1099511627776) : atU B (clampI t) = atU L (clampI t) := by
  rw [at_spec hB, at_spec hL, clampI_clampI]
  have hx : 0 ≤ min (clampI t) 1099511627775 ∧ min (clampI t) 1099511627775 < 1099511627776 := by have := clampI_bounds t; omega
  rw [h _ hx.1 hx.2, if_neg]
  rcases clamp_facts t with ⟨d, g⟩ | ⟨d, k, g⟩ | ⟨d, g⟩ <;> rcases clamp_facts f with ⟨a', b'⟩ | ⟨a', c', b'⟩ | ⟨a', b'⟩ <;> omega
theorem more_in {L B : List (Int × Int)} (hL : RightU L) (hB : RightU B) {f t n : Int} (h : MoreU L B f t n) (he : clampI f < clampI t) : atU B f = atU L f + n := by
  rw [at_spec hB, at_spec hL]
  have hx : 0 ≤ min (clampI f) 1099511627775 ∧ min (clampI f) 1099511627775 < 1099511627776 := by have := clampI_bounds f; omega
  rw [h _ hx.1 hx.2, if_pos]
  rcases clamp_facts t with ⟨d, g⟩ | ⟨d, k, g⟩ | ⟨d, g⟩ <;> rcases clamp_facts f with ⟨a', b'⟩ | ⟨a', c', b'⟩ | ⟨a', b'⟩ <;> omega
theorem more_same {L B : List (Int × Int)} (hL : RightU L) (hB : RightU B) {f t n : Int} (h : MoreU L B f t n) : B = L ↔ (n = 0 ∨ ¬ clampI f < clampI t) := by
  constructor
  · intro e
    by_cases he : clampI f < clampI t
    · left
      have := more_in hL hB h he
      rw [e] at this
      omega
    · exact .inr he
  · intro e
    refine right_same_steps hB hL fun x h0 h1 => ?_
    rw [h x h0 h1]
    split
    · rename_i hc
      rcases e with e | e
      · omega
      · exact absurd hc.1 e
    · rfl
theorem more_back {L B : List (Int × Int)} (hL : RightU L) (hB : RightU B) {f t n : Int} (h : MoreU L B f t n) (hs : ∀ x, 0 ≤ x → x < 1099511627776 → -100000 ≤ lvl 0 L x ∧ lvl 0 L x ≤ 100000) (hn : -99999 ≤ n ∧ n ≤ 99999) : changeU (addF (byU (-n))) B (f, t) = L := by
  have hc := change_right hB (addF_in (byU (-n))) f t
  refine right_same_steps hc.1 hL fun x h0 h1 => ?_
  have hx := hs x h0 h1
  rw [hc.2 x h0 h1, h x h0 h1]
  by_cases hi : clampI f < clampI t ∧ f ≤ x ∧ x < t
  · rw [if_pos hi, if_pos hi, add_small (by omega) (by omega)]
    omega
  · rw [if_neg hi, if_neg hi]
theorem at_small {L : List (Int × Int)} (hL : RightU L) {b : Int} (hs : ∀ x, 0 ≤ x → x < 1099511627776 → -b ≤ lvl 0 L x ∧ lvl 0 L x ≤ b) (t : Int) : -b ≤ atU L t ∧ atU L t ≤ b := by
  rw [at_spec hL]
  exact hs _ (by have := clampI_bounds t; omega) (by have := clampI_bounds t; omega)
theorem USt.other {w w' : World} {S M : Nat} {L K : List (Int × Int)} (h : USt w S L) (k : USt w M K) (hn : M ≠ S) (hf : Fr (fun b => b = S) w w') : USt w' M K := by
  obtain ⟨g, c, hg, hS, hc, hs, hr⟩ := k.at_
  obtain ⟨g0, c0, _, hS0, _⟩ := h.at_
  have h0 := cell_of_block (o := 0) hS0 rfl
  have hgS : g ≠ S := by
    rintro rfl
    have := (hr 0 k.pos).1
    rw [show 0 * 2 = 0 by omega, h0] at this
    cases this
  exact ⟨⟨g, c, hg, (hf.block M (Array.getElem?_eq_some_iff.1 hS).1 hn).trans hS, hc, Nat.lt_of_lt_of_le hs hf.size, hr.mono (hf.block g hs hgS)⟩, k.pos, k.len⟩
theorem pow_small {q : Nat} (h : q ≤ 16) : 3 ^ q ≤ 43046721 := Nat.le_trans (Nat.pow_le_pow_right (by decide) h) (by decide)
end Go.Proofs.YtdamemdfehopeaaDoor
namespace Go.Proofs.YtdamemdfehopeaaDoor
set_option linter.unusedVariables false
open Go.RowKit
/-- small levels, none below 0 -/
def SmallU (L : List (Int × Int)) (b : Int) : Prop := ∀ x, 0 ≤ x → x < 1099511627776 → 0 ≤ lvl 0 L x ∧ lvl 0 L x ≤ b
theorem area_small {L : List (Int × Int)} (hL : RightU L) (hs : SmallU L 1000) {F T : Int} (h0 : 0 ≤ F ∧ F ≤ 65536) (h1 : 0 ≤ T ∧ T ≤ 65536) : areaU L (F, T) = areaS (lvl 0 L) F T ∧ 0 ≤ areaS (lvl 0 L) F T ∧ areaS (lvl 0 L) F T ≤ 65536000 := by
  rw [area_eq hL, clampI_of h0.1 (by omega), clampI_of h1.1 (by omega)]
  have e : areaS (posL L) F T = areaS (lvl 0 L) F T := by
    unfold areaS
    refine sumS_congr fun x hx hx' => ?_
    have := hs x (by omega) (by omega)
    unfold posL maxU
    rw [if_neg (by omega)]
  have hb := sumS_bd (g := lvl 0 L) (f := F) (B := 1000) (n := (T - F).toNat) fun x hx hx' => hs x (by omega) (by omega)
  have hb' : 0 ≤ areaS (lvl 0 L) F T ∧ areaS (lvl 0 L) F T ≤ 65536000 := by unfold areaS; omega
  rw [e]
  unfold minU
  rw [if_pos (by omega)]
  exact ⟨rfl, hb'⟩
theorem areas_part {L : List (Int × Int)} (hL : RightU L) (hs : SmallU L 1000) {F T c : Int} (h0 : 0 ≤ F ∧ F ≤ 65535) (h1 : 0 ≤ T ∧ T ≤ 65535) (hc : (F ≤ c ∧ c ≤ T) ∨ (T ≤ F ∧ c = F)) : areaU L (F, T) = areaU L (F, c) + areaU L (c, T) := by
  rw [(area_small hL hs (by omega) (by omega)).1, (area_small hL hs (F := F) (T := c) (by omega) (by omega)).1, (area_small hL hs (F := c) (T := T) (by omega) (by omega)).1]
  rcases hc with ⟨a, b⟩ | ⟨a, rfl⟩
  · exact areaS_split _ a b
  · rw [areaS_none _ (Int.le_refl c), Int.zero_add]
theorem areas_more {L B : List (Int × Int)} (hL : RightU L) (hB : RightU B) (hs : SmallU L 100) {F T : Int} (h0 : 0 ≤ F ∧ F ≤ 65535) (h1 : 0 ≤ T ∧ T ≤ 65535) (h : MoreU L B F T 1) : areaU B (F, T) = areaU L (F, T) + lenI (F, T) := by
  have hsB : SmallU B 1000 := fun x a b => by have := hs x a b; rw [h x a b]; split <;> omega
  rw [(area_small hL (fun x a b => by have := hs x a b; omega) (by omega) (by omega)).1, (area_small hB hsB (by omega) (by omega)).1]
  unfold lenI
  simp only
  have e1 := clampI_of h0.1 (by omega)
  have e2 := clampI_of h1.1 (by omega)
  rw [e1, e2]
  by_cases hle : T ≤ F
  · rw [if_pos hle, areaS_none _ hle, areaS_none _ hle]; rfl
  · rw [if_neg hle]
    have es : subI T F = T - F := by
      unfold subI
      rw [e1, e2, if_neg (by omega), if_neg (by omega), clampI_of (by omega) (by omega)]
    rw [es]
    unfold areaS
    rw [sumS_more (g := lvl 0 L) (d := 1) fun x hx hx' => by rw [h x (by omega) (by omega), e1, e2, if_pos (by omega)]]
    omega
/-- what Forget leaves: ahead of the time its level, behind it the same -/
theorem forget_lvl {L : List (Int × Int)} (hL : RightU L) {c : Int} (h0 : 0 ≤ c) (h1 : c < 1099511627776) (x : Int) (hx : 0 ≤ x) (hx' : x < 1099511627776) : lvl 0 (forgetU L c) x = if x < c then lvl 0 L c else lvl 0 L x := by
  have ec := clampI_of h0 (by omega)
  have e0 : clampI 0 = 0 := by decide +kernel
  have ea : atU L c = lvl 0 L c := by rw [at_spec hL, ec, show min c 1099511627775 = c by omega]
  have hb : boundU (lvl 0 L c) = lvl 0 L c := by
    refine boundU_id ?_
    have : ∀ (l : List (Int × Int)) (d : Int), (-1000000 ≤ d ∧ d ≤ 1000000) → (∀ p ∈ l, -1000000 ≤ p.2 ∧ p.2 ≤ 1000000) → -1000000 ≤ lvl d l c ∧ lvl d l c ≤ 1000000 := by
      intro l
      induction l with
      | nil => intro d hd _; exact hd
      | cons p r ih =>
        intro d hd hp
        unfold lvl
        split
        · exact hd
        · exact ih _ (hp p List.mem_cons_self) fun q hq => hp q (List.mem_cons_of_mem _ hq)
    exact this L 0 (by omega) hL.bd
  unfold forgetU
  rw [ec, if_neg (by omega), ea, (change_right hL (fun _ => boundU_in _) 0 c).2 x hx hx', ec, e0, hb]
  by_cases hxc : x < c
  · rw [if_pos ⟨by omega, hx, hxc⟩, if_pos hxc]
  · rw [if_neg (by omega), if_neg hxc]
theorem forget_at {L : List (Int × Int)} (hL : RightU L) {c : Int} (h0 : 0 ≤ c) (h1 : c ≤ 65535) : atU (forgetU L c) 0 = atU L c ∧ atU (forgetU L c) c = atU L c ∧ atU (forgetU L c) (c + 9) = atU L (c + 9) ∧ chooseU maxU (forgetU L c) (0, c + 1) = atU L c := by
  have hR := forget_right hL c
  have e0 : clampI 0 = 0 := by decide +kernel
  have ec := clampI_of h0 (by omega)
  have e9 := clampI_of (show 0 ≤ c + 9 by omega) (by omega)
  have e1 := clampI_of (show 0 ≤ c + 1 by omega) (by omega)
  have hc : ∀ x, 0 ≤ x → x ≤ c → lvl 0 (forgetU L c) x = lvl 0 L c := fun x a b => by
    rw [forget_lvl hL h0 (by omega) x a (by omega)]
    split
    · rfl
    · rw [show x = c by omega]
  have ha : atU L c = lvl 0 L c := by rw [at_spec hL, ec, show min c 1099511627775 = c by omega]
  refine ⟨?_, ?_, ?_, ?_⟩
  · rw [at_spec hR, e0, ha]; exact hc _ (by omega) (by omega)
  · rw [at_spec hR, ec, ha, show min c 1099511627775 = c by omega]; exact hc _ h0 (by omega)
  · rw [at_spec hR, at_spec hL, e9, show min (c + 9) 1099511627775 = c + 9 by omega, forget_lvl hL h0 (by omega) _ (by omega) (by omega), if_neg (by omega)]
  · obtain ⟨⟨x, x0, x1, x2, x3, x4⟩, _⟩ := most_spec hR (f := 0) (t := c + 1) (by rw [e0, e1]; omega)
    rw [← x4, ha]
    exact hc x x0 (by rw [e1] at x3; omega)
end Go.Proofs.YtdamemdfehopeaaDoor
