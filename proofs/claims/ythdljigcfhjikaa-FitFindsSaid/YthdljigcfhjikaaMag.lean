/- Laws that belong together: Levels (layer 10): change. Condition: the lengths' bounds, and that some step comes of it.; Levels (layer 10): Flat, Add, Set. Condition: the lengths' bounds, and that some step comes of it.; Levels (layer 10): the area of a span; Forget. Condition: the lengths' bound.; Levels (layer 10), plainly: what a change leaves; steps that tell the same levels are the same. No condition but that the steps are right.; Levels (layer 10), plainly: the least and the greatest level of a span, the level at a time, by the level at each time. No condition but that the steps are right.; Levels (layer 10), plainly: the area of a span is the sum of its times' levels, of those above 0. No condition but that the steps are right.; Levels (layer 10): another one that is the same: slices.Clone of steps, List, Clone. Condition: the lengths' bound.; Levels (layer 10): whether two have the same; Forget. Condition: the lengths' bound.; Levels (layer 10): Add, Set, Forget over right steps. Condition: the lengths' bound.; Levels (layer 10): the law's own play; UsageNobody walked. No condition. -/
import Derived.Test.YthdljigcfhjikaaMaf
import Derived.Laws.EntriesVeiled
namespace Go.Proofs.Ythdljigcfhjikaa
set_option linter.unusedVariables false
open Go.ChangeShapes Go.WideShapes Go.ChangeAt Go.RowKit
attribute [local go_sem ↓] Go.wp_at_zero Go.wp_at_succ comesTo_value_eq comesTo_skip_eq comesTo_enter_eq

/-- the levels behind a change of a span's -/
def changeU (fn : Int → Int) (L : List (Int × Int)) (t : Int × Int) : List (Int × Int) := if clampI t.2 ≤ clampI t.1 then L else (runsU L).foldl (stepU t fn) []
theorem foldl_len (t : Int × Int) (fn : Int → Int) : ∀ (rs : List (Int × Int × Int)) (l : List (Int × Int)), (rs.foldl (stepU t fn) l).length ≤ l.length + 3 * rs.length
  | [], l => by simp
  | r :: rs, l => by
    have h1 := foldl_len t fn rs (stepU t fn l r)
    have h2 := stepU_len t fn l r
    simp only [List.foldl_cons, List.length_cons]
    omega
theorem changeU_len (fn : Int → Int) (L : List (Int × Int)) (t : Int × Int) : (changeU fn L t).length ≤ 3 * L.length := by
  unfold changeU
  split
  · omega
  · have := foldl_len t fn (runsU L) []
    have h2 : (runsU L).length = L.length := by unfold runsU; simp
    simp only [List.length_nil] at this
    omega
/-- runs under change -/
theorem runs_change {w : World} {z S g c : Nat} {L : List (Int × Int)} (hlen : L.length ≤ 1099511627776) (f t : Int) (bf : FuncId) (bc : Array Value) (fn : Int → Int) (hE : Go.Proofs.Enters Try.prog bf)
    (hF : ∀ a W', Below w.heap.size w W' → Calls Try.prog bf (#[.int .i64 a] ++ bc) W' fun e w' => e = .returned (.int .i64 (fn a)) ∧ W' = w')
    (hU : ∀ W, Below w.heap.size w W → W.cell? ⟨S, 0, none⟩ = some (.slice (some ⟨g, 0, none⟩) L.length c) ∧ URow W g L) (W : World) (hW : ChgU w W z f t bf bc []) :
    Calls Try.prog 62 #[.pointer (some ⟨S, 0, none⟩), .func (.func 84) #[] #[.pointer (some ⟨w.heap.size, 0, none⟩), .pointer (some ⟨z + 2, 0, none⟩), .pointer (some ⟨w.heap.size + 1, 0, none⟩)]] W
      fun e w' => (∃ v, e = .returned v) ∧ ChgU w w' z f t bf bc ((runsU L).foldl (stepU (f, t) fn) []) := by
  refine (runs_any (S := S) (g := g) (c := c) hlen 84 #[.pointer (some ⟨w.heap.size, 0, none⟩), .pointer (some ⟨z + 2, 0, none⟩), .pointer (some ⟨w.heap.size + 1, 0, none⟩)]
    (fun k W => ∃ l, ChgU w W z f t bf bc l ∧ l.length ≤ 3 * k ∧ ((runsU L).drop k).foldl (stepU (f, t) fn) l = (runsU L).foldl (stepU (f, t) fn) []) (fun _ => False) W
    (enters_of Try.func84 (by kernel_rfl) rfl) ⟨[], hW, by simp, rfl⟩ (fun k W' ⟨l, hc, _⟩ => hU W' hc.bel) (fun k W' W'' ⟨l, hc, hl, he⟩ hb => ⟨l, hc.below hb, hl, he⟩) ?_).mono ?_
  · intro k W' hk ⟨l, hc, hl, he⟩
    refine (visit_any hc (by omega) fn hE hF (L.getD k (0, 0)).1 (toU L k) (L.getD k (0, 0)).2).mono ?_
    rintro e W'' ⟨rfl, hc2⟩
    refine ⟨true, rfl, fun _ => ⟨_, hc2, ?_, ?_⟩, fun h => by cases h⟩
    · have := stepU_len (f, t) fn l ((L.getD k (0, 0)).1, toU L k, (L.getD k (0, 0)).2); omega
    · rw [runsU_drop hk] at he
      exact he
  · rintro e W' ⟨hv, hx | hx⟩
    · obtain ⟨l, hc, _, he⟩ := hx
      rw [runsU_end] at he
      exact ⟨hv, by rw [← he]; exact hc⟩
    · exact hx.elim
/-- the row of S's steps does not lie in block b -/
def RowNe (w : World) (S b : Nat) : Prop := ∃ g n c, w.heap[S]? = some (.cells #[.slice (some ⟨g, 0, none⟩) n c] 63 (0, 0)) ∧ g ≠ b
/-- of the blocks that were there just S may have turned, and its row lies in none of them, but where it lay -/
structure FrU (S : Nat) (w w' : World) : Prop extends Fr (fun b => b = S) w w' where
  row : ∀ b, b < w.heap.size → RowNe w S b → RowNe w' S b
theorem RowNe.below {w w' : World} {S b : Nat} (h : RowNe w S b) (hb : Below w.heap.size w w') : RowNe w' S b := by
  obtain ⟨g, n, c, h1, h2⟩ := h
  exact ⟨g, n, c, (hb.block _ (Array.getElem?_eq_some_iff.1 h1).1).trans h1, h2⟩
theorem FrU.of_below {S : Nat} {w w' : World} (h : Below w.heap.size w w') : FrU S w w' := ⟨Fr.of_below h, fun b _ hr => hr.below h⟩
theorem FrU.refl (S : Nat) (w : World) : FrU S w w := ⟨Fr.refl _ w, fun _ _ h => h⟩
theorem FrU.after {S : Nat} {w W w' : World} (hb : Below w.heap.size w W) (h : FrU S W w') : FrU S w w' :=
  ⟨Fr.trans (Fr.of_below hb) h.toFr fun j hj => .inl hj, fun b hlt hr => h.row b (Nat.lt_of_lt_of_le hlt hb.size) (hr.below hb)⟩
theorem USt.rowNe {w : World} {S : Nat} {L : List (Int × Int)} (h : USt w S L) {b : Nat} (hb : w.heap.size ≤ b) : RowNe w S b := by
  obtain ⟨g, c, hg, hS, hc, hs, hr⟩ := h.at_
  exact ⟨g, _, c, hS, by omega⟩
/-- levels stay where a block is written that is neither theirs nor their row's -/
theorem USt.wrote {w w' : World} {S B : Nat} {L : List (Int × Int)} (h : USt w S L) (hn : RowNe w S B) (hSB : S ≠ B) (hk : ∀ k, k ≠ B → w'.heap[k]? = w.heap[k]?) (hs : w.heap.size ≤ w'.heap.size) : USt w' S L ∧ RowNe w' S B := by
  obtain ⟨g, c, hg, hS, hc, hs', hr⟩ := h.at_
  obtain ⟨g2, n2, c2, h1, h2⟩ := hn
  rw [hS] at h1
  have e : g = g2 := by
    have := Option.some.inj h1
    injection this with e1
    have e2 : (Value.slice (some ⟨g, 0, none⟩) L.length c) = .slice (some ⟨g2, 0, none⟩) n2 c2 := by simpa using e1
    injection e2 with e3
    simpa using e3
  subst e
  exact ⟨⟨⟨g, c, hg, (hk S hSB).trans hS, hc, Nat.lt_of_lt_of_le hs' hs, hr.mono (hk g h2)⟩, h.pos, h.len⟩, ⟨g, _, c, (hk S hSB).trans hS, h2⟩⟩
set_option maxRecDepth 100000 in
set_option maxHeartbeats 8000000 in
theorem change_any {w : World} {S : Nat} {L : List (Int × Int)} (h : USt w S L) (f t : Int) (bf : FuncId) (bc : Array Value) (fn : Int → Int) (hE : Go.Proofs.Enters Try.prog bf)
    (hF : ∀ a W', Below w.heap.size w W' → Calls Try.prog bf (#[.int .i64 a] ++ bc) W' fun e w' => e = .returned (.int .i64 (fn a)) ∧ W' = w')
    (hlen' : (changeU fn L (f, t)).length ≤ 1099511627776) (hpos : 0 < (changeU fn L (f, t)).length) :
    Calls Try.prog 65 #[.pointer (some ⟨S, 0, none⟩), .agg #[.int .i64 f, .int .i64 t], .func (.func bf) #[] bc] w
      fun e w' => e = .returned (.int .i64 0) ∧ USt w' S (changeU fn L (f, t)) ∧ FrU S w w' := by
  obtain ⟨g, c, hg, hS, hc, hs, hr⟩ := h.at_
  have hSl := (Array.getElem?_eq_some_iff.1 hS).1
  have hlen := h.len
  have hU : ∀ W, Below w.heap.size w W → W.cell? ⟨S, 0, none⟩ = some (.slice (some ⟨g, 0, none⟩) L.length c) ∧ URow W g L := fun W hb => ⟨cell_of_block (o := 0) ((hb.block _ hSl).trans hS) rfl, hr.mono (hb.block _ hs)⟩
  have KR := Lib.hid (fun z W hW => runs_change (z := z) hlen f t bf bc fn hE hF hU W hW)
  have KT := Lib.hid (fun W (hb : Below w.heap.size w W) => there_any (h.below hb))
  have KE := Lib.hid (fun W => empty_any f t W)
  have HH := Lib.hid h
  have HU := Lib.hid hU
  have HS := Lib.hid hS
  clear hF hE hg hc hs hr hU hS h
  obtain ⟨res, hres⟩ : ∃ r, r = changeU fn L (f, t) := ⟨_, rfl⟩
  rw [← hres] at hlen' hpos ⊢
  have HR := Lib.hid hres
  clear hres
  have hb1 := below_alloc (Below.refl _ w) (.cells #[.int .i64 f, .int .i64 t] 25)
  have hb2 := below_alloc hb1 (.cells #[.func (.func bf) #[] bc] 98)
  have HB2 := Lib.hid hb2
  have n1 := World.alloc_heap_new w (.cells #[.int .i64 f, .int .i64 t] 25)
  have n2 := World.alloc_heap_new (w.alloc (.cells #[.int .i64 f, .int .i64 t] 25)) (.cells #[.func (.func bf) #[] bc] 98)
  rw [show (w.alloc (.cells #[.int .i64 f, .int .i64 t] 25)).heap.size = w.heap.size + 1 by simp] at n2
  have n1' := (((below_alloc (Below.refl _ (w.alloc (.cells #[.int .i64 f, .int .i64 t] 25))) (.cells #[.func (.func bf) #[] bc] 98)).block _ (by simp)).trans n1)
  have hs2 : ((w.alloc (.cells #[.int .i64 f, .int .i64 t] 25)).alloc (.cells #[.func (.func bf) #[] bc] 98)).heap.size = w.heap.size + 1 + 1 := by simp
  have N1 := Lib.hid n1'
  have N2 := Lib.hid n2
  clear n1 n2 n1' hb1 hb2
  go_enter Try.func65, Try.ntmps65
  go_upto_region 1 with fail
  generalize (w.alloc (.cells #[.int .i64 f, .int .i64 t] 25)).alloc (.cells #[.func (.func bf) #[] bc] 98) = W2 at *
  have s0 := cell_of_block (o := 0) N1.out rfl
  have s1 := cell_of_block (o := 1) N1.out rfl
  go_wp2_with fail
  refine (KT.out _ HB2.out).mono ?_
  rintro e w' ⟨rfl, rfl⟩
  go_wp2_with fail
  refine (KE.out _).mono ?_
  rintro e W3 ⟨rfl, hb3⟩
  have HB3 := Lib.hid (below_next HB2.out hb3)
  have M1 := Lib.hid ((hb3.block _ (Array.getElem?_eq_some_iff.1 N1.out).1).trans N1.out)
  have M2 := Lib.hid ((hb3.block _ (Array.getElem?_eq_some_iff.1 N2.out).1).trans N2.out)
  have hz2 : w.heap.size + 1 < W3.heap.size := by have := hb3.size; omega
  clear hb3 N1 N2 s0 s1 hs2 HB2
  cases hem : decide (clampI t ≤ clampI f) with
  | true =>
    have E := Lib.hid (show res = L by rw [HR.out]; unfold changeU; exact if_pos (of_decide_eq_true hem))
    go_wp2_with fail
    go_ret
    exact ⟨rfl, by rw [E.out]; exact HH.out.below HB3.out, FrU.of_below HB3.out⟩
  | false =>
    have E := Lib.hid (show res = (runsU L).foldl (stepU (f, t) fn) [] by rw [HR.out]; unfold changeU; exact if_neg (of_decide_eq_false hem))
    have hw2 : IntKind.i64.wrap ((L.length : Int) + 2) = ((L.length + 2 : Nat) : Int) := by rw [IntKind.wrap_i64]; omega
    have cS := (HU.out W3 HB3.out).1
    clear hem
    go_upto_region 5 with fail
    refine wp_region_lit ?_
    refine wpList_yield (w' := W3) (v := .pointer (some ⟨S, 0, none⟩)) rfl (by first | (go_simp; done) | (go_simp; rfl)) ?_
    refine wpList_yield (w' := W3) (v := .pointer (some ⟨S, 0, none⟩)) rfl (by first | (go_simp; done) | (go_simp; rfl)) ?_
    refine wpList_yield (w' := W3) (v := .pointer (some ⟨S, 0, none⟩)) rfl (by first | (go_simp; done) | (go_simp; rfl)) ?_
    refine wpList_yield (w' := W3) (v := .slice (some ⟨g, 0, none⟩) L.length c) rfl (by first | (go_simp; done) | (go_simp; rfl)) ?_
    refine wpList_yield (w' := W3) (v := .int .i64 (L.length : Int)) rfl (by first | (go_simp; done) | (go_simp; rfl)) ?_
    refine wpList_yield (w' := W3) (v := .int .i64 ((L.length + 2 : Nat) : Int)) rfl (by rw [← hw2]; first | (go_simp; done) | (go_simp; rfl)) ?_
    refine wpList_make_step rfl _ _ rfl (L.length + 2) (by go_simp) (by go_simp) (by omega) ?_
    intro cs ho
    have hb4 := below_alloc (Below.refl _ W3) (.cells cs 60)
    obtain ⟨z, hz⟩ : ∃ z, z = W3.heap.size := ⟨_, rfl⟩
    have hz4 : (W3.alloc (.cells cs 60)).heap.size = z + 1 := by rw [hz]; simp
    have HB4 := Lib.hid (below_next HB3.out hb4)
    have Q1 := Lib.hid ((hb4.block _ (Array.getElem?_eq_some_iff.1 M1.out).1).trans M1.out)
    have Q2 := Lib.hid ((hb4.block _ (Array.getElem?_eq_some_iff.1 M2.out).1).trans M2.out)
    rw [← hz] at ho hz2 ⊢
    clear hz hb4 HB3 M1 M2 cS
    generalize W3.alloc (.cells cs 60) = W4 at *
    go_upto_region 6 with fail
    have hb5 := below_alloc (Below.refl _ W4) (.cells #[.slice (some ⟨z, 0, none⟩) 0 (L.length + 2)] 55)
    have n5 := World.alloc_heap_new W4 (.cells #[.slice (some ⟨z, 0, none⟩) 0 (L.length + 2)] 55)
    rw [hz4] at n5
    have hz5 : (W4.alloc (.cells #[.slice (some ⟨z, 0, none⟩) 0 (L.length + 2)] 55)).heap.size = z + 1 + 1 := by simp [hz4]
    have ho5 := ho.below hb5
    have HB5 := Lib.hid (below_next HB4.out hb5)
    have R1 := Lib.hid ((hb5.block _ (Array.getElem?_eq_some_iff.1 Q1.out).1).trans Q1.out)
    have R2 := Lib.hid ((hb5.block _ (Array.getElem?_eq_some_iff.1 Q2.out).1).trans Q2.out)
    have N5 := Lib.hid n5
    clear hb5 n5 ho HB4 Q1 Q2 hz4
    generalize W4.alloc (.cells #[.slice (some ⟨z, 0, none⟩) 0 (L.length + 2)] 55) = W5 at *
    refine wp_region_lit ?_
    refine wpList_yield (w' := W5) (v := .func (.func 83) #[] #[.pointer (some ⟨z + 1, 0, none⟩)]) rfl (by first | (go_simp; done) | (go_simp; rfl)) ?_
    refine wpList_yield (w' := W5.alloc (.cells #[.nilFunc] 120)) (v := .pointer (some ⟨W5.heap.size, 0, none⟩)) rfl (by first | (go_simp; done) | (go_simp; rfl)) ?_
    have hb6 := below_alloc (Below.refl _ W5) (.cells #[.nilFunc] 120)
    have n6 := World.alloc_heap_new W5 (.cells #[.nilFunc] 120)
    rw [hz5] at n6 ⊢
    have ho6 := ho5.below hb6
    have HB6 := Lib.hid (below_next HB5.out hb6)
    have S1 := Lib.hid ((hb6.block _ (Array.getElem?_eq_some_iff.1 R1.out).1).trans R1.out)
    have S2 := Lib.hid ((hb6.block _ (Array.getElem?_eq_some_iff.1 R2.out).1).trans R2.out)
    have S5 := Lib.hid ((hb6.block _ (Array.getElem?_eq_some_iff.1 N5.out).1).trans N5.out)
    clear hb6 HB5 R1 R2 N5 ho5
    generalize W5.alloc (.cells #[.nilFunc] 120) = W6 at *
    have y0 := cell_of_block (o := 0) n6 rfl
    have z0 := free_of_block 0 n6
    have hw := (wrote_refl n6).set 0 (.func (.func 83) #[] #[.pointer (some ⟨z + 1, 0, none⟩)])
    have hCh : ChgU w (W6.setCell ⟨z + 1 + 1, 0, none⟩ (.func (.func 83) #[] #[.pointer (some ⟨z + 1, 0, none⟩)])) z f t bf bc [] :=
      ⟨(hw.rest _ (by omega)).trans S1.out, (hw.rest _ (by omega)).trans S2.out, ⟨_, (hw.rest _ (by omega)).trans S5.out, ho6.blockOf (fun k e => by have e' : z = k := Option.some.inj e; exact hw.rest k (by omega)), fun k e => by have e' : z = k := Option.some.inj e; exact .inl e'.symm⟩, hw.there, hw.below HB6.out (by omega), hz2⟩
    have HCH := Lib.hid hCh
    clear hCh hw ho6
    go_upto_region 7 with fail
    clear y0 z0 n6
    generalize W6.setCell ⟨z + 1 + 1, 0, none⟩ (.func (.func 83) #[] #[.pointer (some ⟨z + 1, 0, none⟩)]) = W7 at *
    go_wp2_with fail
    refine (KR.out z _ HCH.out).mono ?_
    rintro e W8 ⟨⟨v8, rfl⟩, hc8⟩
    rw [← E.out] at hc8
    obtain ⟨v, hv, hov, hvk⟩ := hc8.row
    obtain ⟨ad, cc, rfl, hcc, had⟩ := hov.form
    obtain ⟨g2, rfl, hg2, hg3⟩ := had hpos
    have S8 := Lib.hid ((hc8.bel.block _ hSl).trans HS.out)
    have v0 := cell_of_block (o := 0) hv rfl
    have c80 := cell_of_block (o := 0) S8.out rfl
    have f80 := free_of_block 0 S8.out
    have hwS := (wrote_refl S8.out).set 0 (.slice (some ⟨g2, 0, none⟩) res.length cc)
    have HFIN := Lib.hid (show USt (W8.setCell ⟨S, 0, none⟩ (.slice (some ⟨g2, 0, none⟩) res.length cc)) S res ∧ FrU S w (W8.setCell ⟨S, 0, none⟩ (.slice (some ⟨g2, 0, none⟩) res.length cc)) from by
      refine ⟨⟨⟨g2, cc, by omega, hwS.there, hcc, by rw [hwS.size]; exact hg3, hov.row.mono (hwS.rest _ (by omega))⟩, hpos, hlen'⟩, Fr.set (F := fun b => b = S) (Fr.of_below hc8.bel) (show (fun b => b = S) S from rfl) 0 _, fun b hb _ => ⟨g2, _, cc, hwS.there, by omega⟩⟩)
    clear hwS hv hov hvk hc8 had
    go_wp2_with fail
    go_ret
    exact ⟨rfl, HFIN.out.1, HFIN.out.2⟩
end Go.Proofs.Ythdljigcfhjikaa
namespace Go.Proofs.Ythdljigcfhjikaa
set_option linter.unusedVariables false
open Go.ChangeShapes Go.WideShapes Go.ChangeAt Go.RowKit
attribute [local go_sem ↓] Go.wp_at_zero Go.wp_at_succ comesTo_value_eq comesTo_skip_eq comesTo_enter_eq

/-- by how much a level may change at most -/
def byU (n : Int) : Int := if n < -2000000 then -2000000 else if 2000000 < n then 2000000 else n
def addF (by_ : Int) (a : Int) : Int := boundU (IntKind.i64.wrap (a + by_))
theorem add1_any {W : World} {b : Nat} {n : Int} (hc : W.cell? ⟨b, 0, none⟩ = some (.int .i64 n)) (a : Int) : Calls Try.prog 66 #[.int .i64 a, .pointer (some ⟨b, 0, none⟩)] W fun e w' => e = .returned (.int .i64 (addF n a)) ∧ W = w' := by
  have KB := Lib.hid (bound_any (IntKind.i64.wrap (a + n)) W)
  have E := Lib.hid (show addF n a = boundU (IntKind.i64.wrap (a + n)) from rfl)
  generalize hx : IntKind.i64.wrap (a + n) = x at *
  go_enter Try.func66, Try.ntmps66
  go_wp2_with (go_at_call 67; ((with_reducible refine KB.out.mono ?_)); rintro e w' ⟨rfl, rfl⟩)
  go_ret
  exact ⟨by rw [E.out]; rfl, rfl⟩
theorem set1_any {W : World} {b : Nat} {n : Int} (hc : W.cell? ⟨b, 0, none⟩ = some (.int .i64 n)) (a : Int) : Calls Try.prog 71 #[.int .i64 a, .pointer (some ⟨b, 0, none⟩)] W fun e w' => e = .returned (.int .i64 (boundU n)) ∧ W = w' := by
  have KB := Lib.hid (bound_any n W)
  go_enter Try.func71, Try.ntmps71
  go_wp2_with (go_at_call 67; ((with_reducible refine KB.out.mono ?_)); rintro e w' ⟨rfl, rfl⟩)
  go_ret
  exact ⟨rfl, rfl⟩
theorem Fr.after {F : Nat → Prop} {w W w' : World} (hb : Below w.heap.size w W) (h : Fr F W w') : Fr F w w' := Fr.trans (Fr.of_below hb) h fun j hj => .inl hj
set_option maxHeartbeats 1000000 in
theorem set_any {w : World} {S : Nat} {L : List (Int × Int)} (h : USt w S L) (f t n : Int) (hlen' : (changeU (fun _ => boundU n) L (f, t)).length ≤ 1099511627776) (hpos : 0 < (changeU (fun _ => boundU n) L (f, t)).length) :
    Calls Try.prog 30 #[.pointer (some ⟨S, 0, none⟩), .agg #[.int .i64 f, .int .i64 t], .int .i64 n] w fun e w' => e = .returned (.int .i64 0) ∧ USt w' S (changeU (fun _ => boundU n) L (f, t)) ∧ FrU S w w' := by
  have HB := below_alloc (below_alloc (Below.refl _ w) (.cells #[.int .i64 f, .int .i64 t] 25)) (.cells #[.int .i64 n] 3)
  have n2 := World.alloc_heap_new (w.alloc (.cells #[.int .i64 f, .int .i64 t] 25)) (.cells #[.int .i64 n] 3)
  rw [show (w.alloc (.cells #[.int .i64 f, .int .i64 t] 25)).heap.size = w.heap.size + 1 by simp] at n2
  have n1 := ((below_alloc (Below.refl _ (w.alloc (.cells #[.int .i64 f, .int .i64 t] 25))) (.cells #[.int .i64 n] 3)).block w.heap.size (by simp)).trans (World.alloc_heap_new w (.cells #[.int .i64 f, .int .i64 t] 25))
  have H := h.below HB
  clear h
  go_enter Try.func30, Try.ntmps30
  go_upto_region 1 with fail
  generalize (w.alloc (.cells #[.int .i64 f, .int .i64 t] 25)).alloc (.cells #[.int .i64 n] 3) = W at *
  have s0 := cell_of_block (o := 0) n1 rfl
  have s1 := cell_of_block (o := 1) n1 rfl
  have hlt := (Array.getElem?_eq_some_iff.1 n2).1
  have K := Lib.hid (change_any H f t 71 #[.pointer (some ⟨w.heap.size + 1, 0, none⟩)] (fun _ => boundU n) (enters_of Try.func71 (by kernel_rfl) rfl)
    (fun a W' hb => set1_any (cell_of_block (o := 0) ((hb.block _ hlt).trans n2) rfl) a) hlen' hpos)
  clear n1 n2 H hlt
  go_wp2_with fail
  refine K.out.mono ?_
  rintro e w' ⟨rfl, hu, hf⟩
  have HX := Lib.hid (And.intro hu hf)
  clear hu hf
  go_wp2_with fail
  go_ret
  exact ⟨rfl, HX.out.1, FrU.after HB HX.out.2⟩
set_option maxHeartbeats 1000000 in
theorem add_u {w : World} {S : Nat} {L : List (Int × Int)} (h : USt w S L) (f t n : Int) (hlen' : (changeU (addF (byU n)) L (f, t)).length ≤ 1099511627776) (hpos : 0 < (changeU (addF (byU n)) L (f, t)).length) :
    Calls Try.prog 22 #[.pointer (some ⟨S, 0, none⟩), .agg #[.int .i64 f, .int .i64 t], .int .i64 n] w fun e w' => e = .returned (.int .i64 0) ∧ USt w' S (changeU (addF (byU n)) L (f, t)) ∧ FrU S w w' := by
  have HB := below_alloc (below_alloc (Below.refl _ w) (.cells #[.int .i64 f, .int .i64 t] 25)) (.cells #[.int .i64 n] 3)
  have n2 := World.alloc_heap_new (w.alloc (.cells #[.int .i64 f, .int .i64 t] 25)) (.cells #[.int .i64 n] 3)
  rw [show (w.alloc (.cells #[.int .i64 f, .int .i64 t] 25)).heap.size = w.heap.size + 1 by simp] at n2
  have n1 := ((below_alloc (Below.refl _ (w.alloc (.cells #[.int .i64 f, .int .i64 t] 25))) (.cells #[.int .i64 n] 3)).block w.heap.size (by simp)).trans (World.alloc_heap_new w (.cells #[.int .i64 f, .int .i64 t] 25))
  have hm : (n < -2000000 ∧ byU n = -2000000) ∨ (-2000000 ≤ n ∧ 2000000 < n ∧ byU n = 2000000) ∨ (-2000000 ≤ n ∧ n ≤ 2000000 ∧ byU n = n) := by
    unfold byU
    by_cases h1 : n < -2000000
    · exact .inl ⟨h1, if_pos h1⟩
    · by_cases h2 : 2000000 < n
      · exact .inr (.inl ⟨by omega, h2, by rw [if_neg h1, if_pos h2]⟩)
      · exact .inr (.inr ⟨by omega, by omega, by rw [if_neg h1, if_neg h2]⟩)
  obtain ⟨m, hmm⟩ : ∃ m, m = byU n := ⟨_, rfl⟩
  rw [← hmm] at hm hlen' hpos ⊢
  clear hmm
  have H0 := Lib.hid h
  clear h
  go_enter Try.func22, Try.ntmps22
  go_upto_region 1 with fail
  generalize (w.alloc (.cells #[.int .i64 f, .int .i64 t] 25)).alloc (.cells #[.int .i64 n] 3) = W at *
  have hw := (wrote_refl n2).set 0 (.int .i64 m)
  have hbel := hw.below HB (by omega)
  have b0 := cell_of_block (o := 0) n2 rfl
  have z0 := free_of_block 0 n2
  have m1 := (hw.rest w.heap.size (by omega)).trans n1
  have m2 := hw.there
  have hS : USt (W.setCell ⟨w.heap.size + 1, 0, none⟩ (.int .i64 m)) S L := H0.out.below hbel
  clear n1 n2 hw
  rcases hm with ⟨h1, rfl⟩ | ⟨h1, h2, rfl⟩ | ⟨h1, h2, rfl⟩
  all_goals (
    go_upto_region 2 with fail
    clear b0 z0
    generalize W.setCell ⟨w.heap.size + 1, 0, none⟩ (.int .i64 _) = W9 at *
    have s0 := cell_of_block (o := 0) m1 rfl
    have s1 := cell_of_block (o := 1) m1 rfl
    have hlt := (Array.getElem?_eq_some_iff.1 m2).1
    have K := Lib.hid (change_any hS f t 66 #[.pointer (some ⟨w.heap.size + 1, 0, none⟩)] (addF _) (enters_of Try.func66 (by kernel_rfl) rfl)
      (fun a W' hb => add1_any (cell_of_block (o := 0) ((hb.block _ hlt).trans m2) rfl) a) hlen' hpos)
    clear m1 m2 hS hlt
    go_wp2_with fail
    refine K.out.mono ?_
    rintro e w' ⟨rfl, hu, hf⟩
    have HX := Lib.hid (And.intro hu hf)
    clear hu hf
    go_wp2_with fail
    go_ret
    exact ⟨rfl, HX.out.1, FrU.after hbel HX.out.2⟩)
/-- one level at all times -/
theorem flat_row (n : Int) (w : World) : Calls Try.prog 32 #[.int .i64 n] w fun e w' => ∃ S, e = .returned (.pointer (some ⟨S, 0, none⟩)) ∧ w.heap.size ≤ S ∧ USt w' S [(0, boundU n)] ∧ Below w.heap.size w w' ∧ ∀ b, b < w.heap.size → RowNe w' S b := by
  have KB := Lib.hid (bound_any n w)
  generalize boundU n = b at *
  go_enter Try.func32, Try.ntmps32
  go_wp2_with (go_at_call 67; ((with_reducible refine KB.out.mono ?_)); rintro e w' ⟨rfl, rfl⟩)
  have hb1 := below_alloc (Below.refl _ w) (.cells #[.int .i64 0, .int .i64 b] 60)
  have hb2 := below_alloc (Below.refl _ (w.alloc (.cells #[.int .i64 0, .int .i64 b] 60))) (.cells #[.slice (some ⟨w.heap.size, 0, none⟩) 1 1] 63)
  have n1 := (hb2.block w.heap.size (by simp)).trans (World.alloc_heap_new w (.cells #[.int .i64 0, .int .i64 b] 60))
  have n2 := World.alloc_heap_new (w.alloc (.cells #[.int .i64 0, .int .i64 b] 60)) (.cells #[.slice (some ⟨w.heap.size, 0, none⟩) 1 1] 63)
  have hs1 : (w.alloc (.cells #[.int .i64 0, .int .i64 b] 60)).heap.size = w.heap.size + 1 := by simp
  rw [hs1] at n2
  go_ret
  refine ⟨w.heap.size + 1, rfl, by omega, ⟨⟨w.heap.size, 1, by omega, n2, by simp, by have := (Array.getElem?_eq_some_iff.1 n1).1; exact this, fun k hk => ?_⟩, by simp, by simp⟩, below_next hb1 hb2, fun b hb => ⟨w.heap.size, 1, 1, n2, by omega⟩⟩
  obtain rfl : k = 0 := by simpa using hk
  exact ⟨cell_of_block (o := 0) n1 rfl, cell_of_block (o := 1) n1 rfl⟩
theorem flat_any (n : Int) (w : World) : Calls Try.prog 32 #[.int .i64 n] w fun e w' => ∃ S, e = .returned (.pointer (some ⟨S, 0, none⟩)) ∧ w.heap.size ≤ S ∧ USt w' S [(0, boundU n)] ∧ Below w.heap.size w w' :=
  (flat_row n w).mono fun _ _ ⟨S, h1, h2, h3, h4, _⟩ => ⟨S, h1, h2, h3, h4⟩
end Go.Proofs.Ythdljigcfhjikaa
namespace Go.Proofs.Ythdljigcfhjikaa
set_option linter.unusedVariables false
open Go.ChangeShapes Go.WideShapes Go.ChangeAt Go.RowKit
attribute [local go_sem ↓] Go.wp_at_zero Go.wp_at_succ comesTo_value_eq comesTo_skip_eq comesTo_enter_eq

/-- a sum behind one run more, as the machine reckons it -/
def areaStep (t : Int × Int) (s : Int) (r : Int × Int × Int) : Int :=
  wrap64 (s + wrap64 (wrap64 ((cutI (r.1, r.2.1) t).2 - (cutI (r.1, r.2.1) t).1) * maxU r.2.2 0))
def areaU (L : List (Int × Int)) (t : Int × Int) : Int := minU ((runsU L).foldl (areaStep t) 0) 1099511627776
structure ArU (w W : World) (f t s : Int) : Prop where
  span : W.heap[w.heap.size]? = some (.cells #[.int .i64 f, .int .i64 t] 25 (0, 0))
  sum : W.heap[w.heap.size + 1]? = some (.cells #[.int .i64 s] 23 (0, 0))
  bel : Below w.heap.size w W
theorem ArU.below {w W W' : World} {f t s : Int} (h : ArU w W f t s) (hb : Below W.heap.size W W') : ArU w W' f t s :=
  ⟨(hb.block _ (Array.getElem?_eq_some_iff.1 h.span).1).trans h.span, (hb.block _ (Array.getElem?_eq_some_iff.1 h.sum).1).trans h.sum, below_next h.bel hb⟩
theorem ArU.set {w W : World} {f t s : Int} (h : ArU w W f t s) (x : Int) : ArU w (W.setCell ⟨w.heap.size + 1, 0, none⟩ (.int .i64 x)) f t x := by
  have hw := (wrote_refl h.sum).set 0 (.int .i64 x)
  exact ⟨(hw.rest _ (by omega)).trans h.span, hw.there, hw.below h.bel (by omega)⟩
set_option maxRecDepth 100000 in
set_option maxHeartbeats 2000000 in
theorem area1_any {w W : World} {f t s : Int} (h : ArU w W f t s) (rf rt lv : Int) :
    Calls Try.prog 63 #[.agg #[.int .i64 rf, .int .i64 rt], .int .i64 lv, .pointer (some ⟨w.heap.size, 0, none⟩), .pointer (some ⟨w.heap.size + 1, 0, none⟩)] W
      fun e w' => e = .returned (.bool true) ∧ ArU w w' f t (areaStep (f, t) s (rf, rt, lv)) := by
  have KC := Lib.hid (fun W => cut_any rf rt f t W)
  obtain ⟨res, hres⟩ : ∃ r, r = areaStep (f, t) s (rf, rt, lv) := ⟨_, rfl⟩
  rw [← hres]
  have HR := Lib.hid (show res = wrap64 (s + wrap64 (wrap64 ((cutI (rf, rt) (f, t)).2 - (cutI (rf, rt) (f, t)).1) * maxU lv 0)) from hres)
  clear hres
  generalize cutI (rf, rt) (f, t) = ci at *
  obtain ⟨c1, c2⟩ := ci
  simp only at KC HR
  have hm : (lv < 0 ∧ maxU lv 0 = 0) ∨ (0 ≤ lv ∧ maxU lv 0 = lv) := by
    by_cases h : lv < 0
    · exact .inl ⟨h, if_pos h⟩
    · exact .inr ⟨by omega, if_neg h⟩
  have hA := below_alloc (Below.refl _ W) (.cells #[.int .i64 rf, .int .i64 rt] 25)
  have hN := World.alloc_heap_new W (.cells #[.int .i64 rf, .int .i64 rt] 25)
  have H1 := Lib.hid (h.below hA)
  clear h hA
  go_enter Try.func63, Try.ntmps63
  go_upto_region 1 with fail
  generalize W.alloc (.cells #[.int .i64 rf, .int .i64 rt] 25) = W1 at *
  obtain ⟨q, hq⟩ : ∃ q, q = W.heap.size := ⟨_, rfl⟩
  rw [← hq] at hN ⊢
  clear hq
  have s0 := cell_of_block (o := 0) H1.out.span rfl
  have s1 := cell_of_block (o := 1) H1.out.span rfl
  have r0 := cell_of_block (o := 0) hN rfl
  have r1 := cell_of_block (o := 1) hN rfl
  go_wp2_with fail
  refine (KC.out _).mono ?_
  rintro e W2 ⟨rfl, hb⟩
  have H2 := Lib.hid (H1.out.below hb)
  clear hb H1 s0 s1 r0 r1 hN
  have hA := below_alloc (Below.refl _ W2) (.cells #[.int .i64 c1, .int .i64 c2] 25)
  have hN := World.alloc_heap_new W2 (.cells #[.int .i64 c1, .int .i64 c2] 25)
  have H3 := Lib.hid (H2.out.below hA)
  clear hA H2
  go_upto_region 2 with fail
  generalize W2.alloc (.cells #[.int .i64 c1, .int .i64 c2] 25) = W3 at *
  have i0 := cell_of_block (o := 0) hN rfl
  have i1 := cell_of_block (o := 1) hN rfl
  have u0 := cell_of_block (o := 0) H3.out.sum rfl
  have v0 := free_of_block 0 H3.out.sum
  clear hN
  rcases hm with ⟨h1, h2⟩ | ⟨h1, h2⟩
  all_goals (
    go_wp2_with fail
    go_ret
    refine ⟨rfl, ?_⟩
    rw [HR.out, h2]
    first | exact H3.out.set _ | (rw [show wrap64 (s + wrap64 (wrap64 (c2 - c1) * 0)) = wrap64 s by rw [Int.mul_zero, show wrap64 0 = 0 by decide +kernel, Int.add_zero]]; exact H3.out.set _))
set_option maxRecDepth 100000 in
set_option maxHeartbeats 4000000 in
theorem area_any {w : World} {S : Nat} {L : List (Int × Int)} (h : USt w S L) (f t : Int) :
    Calls Try.prog 20 #[.pointer (some ⟨S, 0, none⟩), .agg #[.int .i64 f, .int .i64 t]] w fun e w' => e = .returned (.int .i64 (areaU L (f, t))) ∧ Below w.heap.size w w' := by
  obtain ⟨g, c, hg, hS, hc, hs, hr⟩ := h.at_
  have hSl := (Array.getElem?_eq_some_iff.1 hS).1
  have hlen := h.len
  have hU : ∀ W, Below w.heap.size w W → W.cell? ⟨S, 0, none⟩ = some (.slice (some ⟨g, 0, none⟩) L.length c) ∧ URow W g L := fun W hb => ⟨cell_of_block (o := 0) ((hb.block _ hSl).trans hS) rfl, hr.mono (hb.block _ hs)⟩
  obtain ⟨tot, htot⟩ : ∃ x, x = (runsU L).foldl (areaStep (f, t)) 0 := ⟨_, rfl⟩
  have hRUN : ∀ W, ArU w W f t 0 → Calls Try.prog 62 #[.pointer (some ⟨S, 0, none⟩), .func (.func 63) #[] #[.pointer (some ⟨w.heap.size, 0, none⟩), .pointer (some ⟨w.heap.size + 1, 0, none⟩)]] W fun e w' => (∃ v, e = .returned v) ∧ ArU w w' f t tot := by
    intro W hW
    refine (runs_any (S := S) (g := g) (c := c) hlen 63 #[.pointer (some ⟨w.heap.size, 0, none⟩), .pointer (some ⟨w.heap.size + 1, 0, none⟩)]
      (fun k W => ∃ s, ArU w W f t s ∧ ((runsU L).drop k).foldl (areaStep (f, t)) s = tot) (fun _ => False) W (enters_of Try.func63 (by kernel_rfl) rfl) ⟨0, hW, htot.symm⟩ (fun k W' ⟨s, hc, _⟩ => hU W' hc.bel) (fun k W' W'' ⟨s, hc, he⟩ hb => ⟨s, hc.below hb, he⟩) ?_).mono ?_
    · intro k W' hk ⟨s, hc, he⟩
      refine (area1_any hc (L.getD k (0, 0)).1 (toU L k) (L.getD k (0, 0)).2).mono ?_
      rintro e W'' ⟨rfl, hc2⟩
      refine ⟨true, rfl, fun _ => ⟨_, hc2, ?_⟩, fun h => by cases h⟩
      rw [runsU_drop hk] at he
      exact he
    · rintro e W' ⟨hv, hx | hx⟩
      · obtain ⟨s, hc, he⟩ := hx
        rw [runsU_end] at he
        exact ⟨hv, by rw [← he]; exact hc⟩
      · exact hx.elim
  have hm : (tot ≤ 1099511627776 ∧ areaU L (f, t) = tot) ∨ (1099511627776 < tot ∧ areaU L (f, t) = 1099511627776) := by
    unfold areaU
    rw [← htot]
    by_cases h : tot ≤ 1099511627776
    · exact .inl ⟨h, if_pos h⟩
    · exact .inr ⟨by omega, if_neg h⟩
  have KT := Lib.hid (fun W (hb : Below w.heap.size w W) => there_any (h.below hb))
  have KR := Lib.hid hRUN
  clear hRUN hU hg hS hc hs hr hSl h htot
  have hb1 := below_alloc (Below.refl _ w) (.cells #[.int .i64 f, .int .i64 t] 25)
  have n1 := World.alloc_heap_new w (.cells #[.int .i64 f, .int .i64 t] 25)
  have hs1 : (w.alloc (.cells #[.int .i64 f, .int .i64 t] 25)).heap.size = w.heap.size + 1 := by simp
  go_enter Try.func20, Try.ntmps20
  go_upto_region 1 with fail
  generalize w.alloc (.cells #[.int .i64 f, .int .i64 t] 25) = W1 at *
  go_wp2_with (go_at_call 55; ((with_reducible refine (KT.out _ hb1).mono ?_)); rintro e w' ⟨rfl, rfl⟩)
  have hb2 := below_alloc (Below.refl _ W1) (.cells #[.int .i64 0] 23)
  have n2 := World.alloc_heap_new W1 (.cells #[.int .i64 0] 23)
  rw [hs1] at n2
  have HA := Lib.hid (show ArU w (W1.alloc (.cells #[.int .i64 0] 23)) f t 0 from ⟨(hb2.block _ (by omega)).trans n1, n2, below_next hb1 hb2⟩)
  clear hb2 n2 hb1 n1 hs1
  generalize W1.alloc (.cells #[.int .i64 0] 23) = W2 at *
  refine (KR.out _ HA.out).mono ?_
  rintro e W3 ⟨⟨_, rfl⟩, h3⟩
  have c0 := cell_of_block (o := 0) h3.sum rfl
  have H3 := Lib.hid h3.bel
  clear h3 HA
  rcases hm with ⟨h1, h2⟩ | ⟨h1, h2⟩
  all_goals (
    go_wp2_with fail
    go_ret
    exact ⟨by rw [h2]; rfl, H3.out⟩)
end Go.Proofs.Ythdljigcfhjikaa
namespace Go.Proofs.Ythdljigcfhjikaa
set_option linter.unusedVariables false
open Go.RowKit
/-- the level of steps at a time; d: ahead of all -/
def lvl (d : Int) : List (Int × Int) → Int → Int
  | [], _ => d
  | p :: r, x => if x < p.1 then d else lvl p.2 r x
theorem lvl_snoc : ∀ (l : List (Int × Int)) (d T v x : Int), (∀ p ∈ l, p.1 < T) → lvl d (l ++ [(T, v)]) x = if x < T then lvl d l x else v
  | [], d, T, v, x, _ => rfl
  | p :: r, d, T, v, x, h => by
    have hp := h p (by simp)
    have ih := lvl_snoc r p.2 T v x fun q hq => h q (by simp [hq])
    simp only [List.cons_append, lvl, ih]
    by_cases h1 : x < p.1
    · rw [if_pos h1, if_pos (show x < T by omega), if_pos h1]
    · rw [if_neg h1, if_neg h1]
theorem lvl_last : ∀ (l : List (Int × Int)) (d x : Int), (∀ p ∈ l, p.1 ≤ x) → lvl d l x = (l.getLast?.map (·.2)).getD d
  | [], d, x, _ => rfl
  | p :: r, d, x, h => by
    have hp := h p (by simp)
    have ih := lvl_last r p.2 x fun q hq => h q (by simp [hq])
    simp only [lvl]
    rw [if_neg (by omega), ih]
    cases r with
    | nil => rfl
    | cons q s =>
      rw [List.getLast?_cons_cons, List.getLast?_eq_some_getLast (show q :: s ≠ [] by simp)]
      rfl
/-- steps that tell a function's levels up to a time -/
structure RepU (l : List (Int × Int)) (g : Int → Int) (T : Int) : Prop where
  nil : l = [] → T = 0
  head : ∀ p, l.head? = some p → p.1 = 0
  sorted : l.Pairwise (fun p q => p.1 < q.1)
  diff : ∀ (a b : List (Int × Int)) (p q : Int × Int), l = a ++ p :: q :: b → p.2 ≠ q.2
  hi : ∀ p ∈ l, p.1 < T
  val : ∀ x, 0 ≤ x → x < T → lvl 0 l x = g x
theorem RepU.lay {l : List (Int × Int)} {g : Int → Int} {T T' v : Int} (h : RepU l g T) (h0 : 0 ≤ T) (hT : T < T') (hg : ∀ x, T ≤ x → x < T' → g x = v) : RepU (layU l T v) g T' := by
  have hmem : ∀ p ∈ l, p.1 < T := h.hi
  unfold layU
  by_cases hl : l.getLast?.map (·.2) = some v
  · rw [if_pos hl]
    refine ⟨fun e => ?_, h.head, h.sorted, h.diff, fun p hp => by have := hmem p hp; omega, fun x hx hx' => ?_⟩
    · subst e; simp at hl
    · by_cases hlt : x < T
      · exact h.val x hx hlt
      · rw [lvl_last l 0 x (fun p hp => by have := hmem p hp; omega), hl, hg x (by omega) hx']; rfl
  · rw [if_neg hl]
    refine ⟨fun e => by simp at e, fun p hp => ?_, ?_, ?_, fun p hp => ?_, fun x hx hx' => ?_⟩
    · cases l with
      | nil => have := h.nil rfl; simp at hp; subst hp; exact this
      | cons q r => exact h.head p (by simpa using hp)
    · rw [List.pairwise_append]
      exact ⟨h.sorted, by simp, fun a ha b hb => by simp at hb; subst hb; exact hmem a ha⟩
    · intro a b p q e
      by_cases hb : b = []
      · subst hb
        have e2 : l ++ [(T, v)] = (a ++ [p]) ++ [q] := by rw [e]; simp
        obtain ⟨e3, e4⟩ := List.append_inj' e2 rfl
        have e5 : q = (T, v) := by simpa using e4.symm
        subst e5
        intro he
        apply hl
        rw [e3]
        simp [he]
      · obtain ⟨b', y, rfl⟩ : ∃ b' y, b = b' ++ [y] := ⟨b.dropLast, b.getLast hb, (List.dropLast_concat_getLast hb).symm⟩
        have e2 : l ++ [(T, v)] = (a ++ p :: q :: b') ++ [y] := by rw [e]; simp
        exact h.diff a b' p q (List.append_inj' e2 rfl).1
    · simp only [List.mem_append, List.mem_cons, List.not_mem_nil, or_false] at hp
      rcases hp with hp | rfl
      · have := hmem p hp; omega
      · exact hT
    · rw [lvl_snoc l 0 T v x hmem]
      by_cases hlt : x < T
      · rw [if_pos hlt]; exact h.val x hx hlt
      · rw [if_neg hlt, hg x (by omega) hx']
theorem RepU.step {l : List (Int × Int)} {g fn : Int → Int} {f t a b v : Int} (h : RepU l g a) (h0 : 0 ≤ a) (hab : a < b) (hb : b ≤ 1099511627776) (hft : clampI f < clampI t)
    (hg : ∀ x, a ≤ x → x < b → g x = if f ≤ x ∧ x < t then fn v else v) : RepU (stepU (f, t) fn l (a, b, v)) g b := by
  have cf : clampI f = if f < 0 then 0 else if 1099511627776 < f then 1099511627776 else f := rfl
  have ct : clampI t = if t < 0 then 0 else if 1099511627776 < t then 1099511627776 else t := rfl
  have ca : clampI a = a := by unfold clampI; rw [if_neg (by omega), if_neg (by omega)]
  have cb : clampI b = b := by unfold clampI; rw [if_neg (by omega), if_neg (by omega)]
  have hf1 : f < 1099511627776 := by rw [cf, ct] at hft; split at hft <;> (try split at hft) <;> (try split at hft) <;> (try split at hft) <;> omega
  have ht1 : 0 < t := by rw [cf, ct] at hft; split at hft <;> (try split at hft) <;> (try split at hft) <;> (try split at hft) <;> omega
  have hftt : f < t := by rw [cf, ct] at hft; split at hft <;> (try split at hft) <;> (try split at hft) <;> (try split at hft) <;> omega
  -- the first piece
  obtain ⟨T1, hT1, hr1⟩ : ∃ T1, T1 = (if a < f then min b f else a) ∧ RepU (step1 (f, t) l (a, b, v)) g T1 := by
    refine ⟨_, rfl, ?_⟩
    unfold step1
    by_cases h1 : a < f
    · simp only [h1, if_true]
      refine h.lay h0 (by omega) fun x hx hx' => ?_
      rw [hg x hx (by omega), if_neg (by omega)]
    · simp only [h1, if_false]; exact h
  have hcF : bothF (a, b) (f, t) = max a (clampI f) := by unfold bothF; simp only [ca]
  have hcT : bothT (a, b) (f, t) = min b (clampI t) := by unfold bothT; simp only [cb]
  have hcf0 : 0 ≤ clampI f ∧ clampI f ≤ 1099511627776 ∧ (0 ≤ f → clampI f = f) ∧ (f < 0 → clampI f = 0) := by
    rw [cf]; refine ⟨?_, ?_, fun h => ?_, fun h => ?_⟩ <;> (split <;> (try split) <;> omega)
  have hct0 : 0 ≤ clampI t ∧ clampI t ≤ 1099511627776 ∧ (t ≤ 1099511627776 → clampI t = t) ∧ (1099511627776 < t → clampI t = 1099511627776) := by
    rw [ct]; refine ⟨?_, ?_, fun h => ?_, fun h => ?_⟩ <;> (split <;> (try split) <;> omega)
  obtain ⟨F, hF⟩ : ∃ F, F = clampI f := ⟨_, rfl⟩
  obtain ⟨G, hG⟩ : ∃ G, G = clampI t := ⟨_, rfl⟩
  rw [← hF] at hcf0 hcF hft
  rw [← hG] at hct0 hcT hft
  obtain ⟨x1, x2, x3, x4⟩ := hcf0
  obtain ⟨y1, y2, y3, y4⟩ := hct0
  have hF' : (0 ≤ f ∧ F = f) ∨ (f < 0 ∧ F = 0) := by rcases Int.lt_or_le f 0 with h | h; exact .inr ⟨h, x4 h⟩; exact .inl ⟨h, x3 h⟩
  have hG' : (t ≤ 1099511627776 ∧ G = t) ∨ (1099511627776 < t ∧ G = 1099511627776) := by rcases Int.lt_or_le 1099511627776 t with h | h; exact .inr ⟨h, y4 h⟩; exact .inl ⟨h, y3 h⟩
  clear x3 x4 y3 y4 cf ct hF hG
  obtain ⟨T2, hT2, hr2⟩ : ∃ T2, T2 = (if max a F < min b G then min b G else T1) ∧ RepU (step2 (f, t) fn (step1 (f, t) l (a, b, v)) (a, b, v)) g T2 := by
    refine ⟨_, rfl, ?_⟩
    unfold step2
    have hcut : cutI (a, b) (f, t) = if min b G ≤ max a F then (0, 0) else (max a F, min b G) := by unfold cutI; rw [hcF, hcT]
    simp only [hcut]
    by_cases h1 : max a F < min b G
    · rw [if_neg (by omega : ¬ min b G ≤ max a F), if_pos h1]
      have e1 : clampI (max a F) = max a F := by unfold clampI; rw [if_neg (by omega), if_neg (by omega)]
      have e2 : clampI (min b G) = min b G := by unfold clampI; rw [if_neg (by omega), if_neg (by omega)]
      rw [e1, e2, if_neg (by omega)]
      have hT : T1 = max a F := by rw [hT1]; split <;> omega
      rw [← hT]
      refine hr1.lay (by omega) (by omega) fun x hx hx' => ?_
      rw [hg x (by omega) (by omega), if_pos (by omega)]
    · rw [if_pos (by omega : min b G ≤ max a F), if_neg h1]
      have e0 : clampI 0 = 0 := rfl
      simp only [e0]
      rw [if_pos (Int.le_refl _)]
      exact hr1
  unfold stepU step3
  by_cases h3 : t < b
  · simp only [h3, if_true]
    have hT : T2 = maxU a t := by
      unfold maxU
      rw [hT2, hT1]
      split <;> (try split) <;> (try split) <;> omega
    rw [← hT]
    have hT' : T2 = max a t := by rw [hT]; unfold maxU; split <;> omega
    refine hr2.lay (by omega) (by omega) fun x hx hx' => ?_
    rw [hg x (by omega) hx', if_neg (by omega)]
  · simp only [h3, if_false]
    have hT : T2 = b := by rw [hT2, hT1]; split <;> (try split) <;> omega
    exact hT ▸ hr2

/-- right steps -/
structure RightU (L : List (Int × Int)) : Prop where
  head : ∃ v r, L = (0, v) :: r
  sorted : L.Pairwise (fun p q => p.1 < q.1)
  diff : ∀ (a b : List (Int × Int)) (p q : Int × Int), L = a ++ p :: q :: b → p.2 ≠ q.2
  hi : ∀ p ∈ L, p.1 < 1099511627776
  bd : ∀ p ∈ L, -1000000 ≤ p.2 ∧ p.2 ≤ 1000000
/-- the level at a time that lies in a step -/
theorem lvl_at {L : List (Int × Int)} (hs : L.Pairwise (fun p q => p.1 < q.1)) : ∀ (d : Int) (k : Nat) (x : Int), k < L.length → (L.getD k (0, 0)).1 ≤ x → (k + 1 < L.length → x < (L.getD (k + 1) (0, 0)).1) → lvl d L x = (L.getD k (0, 0)).2 := by
  induction L with
  | nil => intro d k x h; simp at h
  | cons p r ih =>
    intro d k x h h1 h2
    obtain ⟨hp, hr⟩ := List.pairwise_cons.1 hs
    cases k with
    | zero =>
      simp only [List.getD_cons_zero] at h1
      simp only [lvl, List.getD_cons_zero]
      rw [if_neg (by omega)]
      cases r with
      | nil => rfl
      | cons q s =>
        have := h2 (by simp)
        simp at this
        simp only [lvl]
        rw [if_pos this]
    | succ k =>
      have hk : k < r.length := by simpa using h
      simp only [List.getD_cons_succ] at h1 h2
      have hmem : r.getD k (0, 0) ∈ r := by rw [List.getD_eq_getElem?_getD, List.getElem?_eq_getElem hk]; exact List.getElem_mem hk
      have := hp _ hmem
      simp only [lvl, List.getD_cons_succ]
      rw [if_neg (by omega)]
      exact ih hr p.2 k x hk h1 fun hk' => h2 (by simpa using hk')
theorem toU_le {L : List (Int × Int)} (h : RightU L) {k : Nat} (hk : k < L.length) : 0 ≤ (L.getD k (0, 0)).1 ∧ (L.getD k (0, 0)).1 < toU L k ∧ toU L k ≤ 1099511627776 := by
  have hget : ∀ j, j < L.length → L.getD j (0, 0) ∈ L := fun j hj => by rw [List.getD_eq_getElem?_getD, List.getElem?_eq_getElem hj]; exact List.getElem_mem hj
  have h0 : 0 ≤ (L.getD k (0, 0)).1 := by
    obtain ⟨v, r, e⟩ := h.head
    cases k with
    | zero => rw [e]; simp
    | succ k =>
      have hs := h.sorted
      rw [e] at hs hk ⊢
      obtain ⟨hp, _⟩ := List.pairwise_cons.1 hs
      have hkr : k < r.length := by simpa using hk
      have hm : r.getD k (0, 0) ∈ r := by rw [List.getD_eq_getElem?_getD, List.getElem?_eq_getElem hkr]; exact List.getElem_mem hkr
      have h9 : 0 < (r.getD k (0, 0)).1 := hp _ hm
      simp only [List.getD_cons_succ]
      omega
  refine ⟨h0, ?_, ?_⟩
  · unfold toU
    split
    · rename_i hk1
      have := List.pairwise_iff_getElem.1 h.sorted k (k + 1) hk hk1 (by omega)
      rw [List.getD_eq_getElem?_getD, List.getD_eq_getElem?_getD, List.getElem?_eq_getElem hk, List.getElem?_eq_getElem hk1]
      exact this
    · exact h.hi _ (hget k hk)
  · unfold toU
    split
    · rename_i hk1
      have := h.hi _ (hget (k + 1) hk1); omega
    · omega
theorem runsU_drop' {L : List (Int × Int)} {k : Nat} (h : k < L.length) : (runsU L).drop k = ((L.getD k (0, 0)).1, toU L k, (L.getD k (0, 0)).2) :: (runsU L).drop (k + 1) := by
  have hl : k < (runsU L).length := by unfold runsU; simpa using h
  rw [List.drop_eq_getElem_cons hl]
  congr 1
  unfold runsU
  simp
/-- what a change leaves: the function's levels in the span, the others outside of it -/
theorem change_rep {L : List (Int × Int)} (h : RightU L) {fn : Int → Int} {f t : Int} (hft : clampI f < clampI t) : RepU ((runsU L).foldl (stepU (f, t) fn) []) (fun x => if f ≤ x ∧ x < t then fn (lvl 0 L x) else lvl 0 L x) 1099511627776 := by
  have key : ∀ (m k : Nat) (l : List (Int × Int)), k + m = L.length → (k < L.length → RepU l (fun x => if f ≤ x ∧ x < t then fn (lvl 0 L x) else lvl 0 L x) (L.getD k (0, 0)).1) → (k = L.length → RepU l (fun x => if f ≤ x ∧ x < t then fn (lvl 0 L x) else lvl 0 L x) 1099511627776) → RepU (((runsU L).drop k).foldl (stepU (f, t) fn) l) (fun x => if f ≤ x ∧ x < t then fn (lvl 0 L x) else lvl 0 L x) 1099511627776 := by
    intro m
    induction m with
    | zero =>
      intro k l hk _ h2
      have : (runsU L).drop k = [] := by apply List.drop_eq_nil_of_le; unfold runsU; simp; omega
      rw [this]
      exact h2 (by omega)
    | succ m ih =>
      intro k l hk h1 _
      have hkl : k < L.length := by omega
      rw [runsU_drop' hkl]
      obtain ⟨b0, b1, b2⟩ := toU_le h hkl
      have hstep := (h1 hkl).step (fn := fn) (f := f) (t := t) (b := toU L k) (v := (L.getD k (0, 0)).2) b0 b1 b2 hft (fun x hx hx' => by
        have hl : lvl 0 L x = (L.getD k (0, 0)).2 := lvl_at h.sorted 0 k x hkl hx fun hk1 => by unfold toU at hx'; rw [if_pos hk1] at hx'; exact hx'
        simp only [hl])
      refine ih (k + 1) _ (by omega) (fun hk1 => ?_) (fun hk1 => ?_)
      · have : toU L k = (L.getD (k + 1) (0, 0)).1 := by unfold toU; rw [if_pos hk1]
        rw [← this]; exact hstep
      · have : toU L k = 1099511627776 := by unfold toU; rw [if_neg (by omega)]
        rw [← this]; exact hstep
  have := key L.length 0 [] (by omega) (fun h0 => ?_) (fun h0 => ?_)
  · simpa using this
  · obtain ⟨v, r, e⟩ := h.head
    have : (L.getD 0 (0, 0)).1 = 0 := by rw [e]; rfl
    rw [this]
    exact ⟨fun _ => rfl, fun p hp => by simp at hp, List.Pairwise.nil, fun a b p q e => by simp at e, fun p hp => by simp at hp, fun x h1 h2 => by omega⟩
  · obtain ⟨v, r, e⟩ := h.head
    rw [e] at h0; simp at h0

theorem mem_at {L : List (Int × Int)} {p : Int × Int} (h : p ∈ L) : ∃ k, k < L.length ∧ L.getD k (0, 0) = p := by
  obtain ⟨k, hk, rfl⟩ := List.getElem_of_mem h
  exact ⟨k, hk, by rw [List.getD_eq_getElem?_getD, List.getElem?_eq_getElem hk]; rfl⟩
theorem rep_right {l : List (Int × Int)} {g : Int → Int} (h : RepU l g 1099511627776) (hg : ∀ x, 0 ≤ x → x < 1099511627776 → -1000000 ≤ g x ∧ g x ≤ 1000000) : RightU l := by
  have h0 : ∀ p ∈ l, 0 ≤ p.1 := by
    intro p hp
    cases l with
    | nil => simp at hp
    | cons q r =>
      have hq := h.head q rfl
      obtain ⟨hs, _⟩ := List.pairwise_cons.1 h.sorted
      rcases List.mem_cons.1 hp with rfl | hp
      · omega
      · have := hs p hp; omega
  refine ⟨?_, h.sorted, h.diff, h.hi, fun p hp => ?_⟩
  · cases l with
    | nil => have := h.nil rfl; omega
    | cons q r =>
      have hq := h.head q rfl
      exact ⟨q.2, r, by rw [← hq]⟩
  · obtain ⟨k, hk, rfl⟩ := mem_at hp
    have hv := lvl_at h.sorted 0 k (l.getD k (0, 0)).1 hk (Int.le_refl _) fun hk1 => by
      have := List.pairwise_iff_getElem.1 h.sorted k (k + 1) hk hk1 (by omega)
      rw [List.getD_eq_getElem?_getD, List.getD_eq_getElem?_getD, List.getElem?_eq_getElem hk, List.getElem?_eq_getElem hk1]
      exact this
    rw [← hv, h.val _ (h0 _ hp) (h.hi _ hp)]
    exact hg _ (h0 _ hp) (h.hi _ hp)
theorem diff_tail {p : Int × Int} {r : List (Int × Int)} (h : ∀ (a b : List (Int × Int)) (u v : Int × Int), p :: r = a ++ u :: v :: b → u.2 ≠ v.2) : ∀ (a b : List (Int × Int)) (u v : Int × Int), r = a ++ u :: v :: b → u.2 ≠ v.2 := fun a b u v e => h (p :: a) b u v (by rw [e]; rfl)
theorem same_from : ∀ (r s : List (Int × Int)) (a x y d e : Int), (∀ p ∈ (a, x) :: r, p.1 < 1099511627776) → (∀ p ∈ (a, y) :: s, p.1 < 1099511627776) → ((a, x) :: r).Pairwise (fun p q => p.1 < q.1) → ((a, y) :: s).Pairwise (fun p q => p.1 < q.1) →
    (∀ (c b : List (Int × Int)) (u v : Int × Int), (a, x) :: r = c ++ u :: v :: b → u.2 ≠ v.2) → (∀ (c b : List (Int × Int)) (u v : Int × Int), (a, y) :: s = c ++ u :: v :: b → u.2 ≠ v.2) →
    (∀ z, a ≤ z → z < 1099511627776 → lvl d ((a, x) :: r) z = lvl e ((a, y) :: s) z) → (a, x) :: r = (a, y) :: s := by
  intro r
  induction r with
  | nil =>
    intro s a x y d e hr hs pr ps dr ds hv
    have ha : a < 1099511627776 := hr (a, x) (by simp)
    cases s with
    | nil =>
      have := hv a (Int.le_refl _) ha
      simp [lvl] at this
      rw [this]
    | cons q s =>
      have hq : q.1 < 1099511627776 := hs q (by simp)
      have haq : a < q.1 := (List.pairwise_cons.1 ps).1 q (by simp)
      have h1 := hv a (Int.le_refl _) ha
      have h2 := hv q.1 (by omega) hq
      simp only [lvl, Int.lt_irrefl, if_false] at h1 h2
      rw [if_pos haq] at h1
      rw [if_neg (by omega), if_neg (by omega)] at h2
      have hn : lvl q.2 s q.1 = q.2 := by
        cases s with
        | nil => rfl
        | cons u w =>
          have : q.1 < u.1 := (List.pairwise_cons.1 (List.pairwise_cons.1 ps).2).1 u (by simp)
          simp only [lvl]; rw [if_pos this]
      rw [hn] at h2
      exact absurd (h1.symm.trans h2) (ds [] s (a, y) q rfl)
  | cons p r ih =>
    intro s a x y d e hr hs pr ps dr ds hv
    have ha : a < 1099511627776 := hr (a, x) (by simp)
    have hp : p.1 < 1099511627776 := hr p (by simp)
    have hap : a < p.1 := (List.pairwise_cons.1 pr).1 p (by simp)
    have hn : ∀ (p : Int × Int) (r : List (Int × Int)), (p :: r).Pairwise (fun p q => p.1 < q.1) → lvl p.2 r p.1 = p.2 := fun p r h => by
      cases r with
      | nil => rfl
      | cons u w =>
        have : p.1 < u.1 := (List.pairwise_cons.1 h).1 u (by simp)
        simp only [lvl]; rw [if_pos this]
    have h1 := hv a (Int.le_refl _) ha
    cases s with
    | nil =>
      have h2 := hv p.1 (by omega) hp
      simp only [lvl, Int.lt_irrefl, if_false] at h1 h2
      rw [if_pos hap] at h1
      rw [if_neg (by omega), if_neg (by omega)] at h2
      rw [hn p r (List.pairwise_cons.1 pr).2] at h2
      exact absurd (h1.trans h2.symm) (dr [] r (a, x) p rfl)
    | cons q s =>
      have hq : q.1 < 1099511627776 := hs q (by simp)
      have haq : a < q.1 := (List.pairwise_cons.1 ps).1 q (by simp)
      simp only [lvl, Int.lt_irrefl, if_false] at h1
      rw [if_pos hap, if_pos haq] at h1
      subst h1
      have hpq : p.1 = q.1 := by
        rcases Int.lt_trichotomy p.1 q.1 with h | h | h
        · have h2 := hv p.1 (by omega) hp
          simp only [lvl, Int.lt_irrefl, if_false] at h2
          rw [if_neg (by omega), if_neg (by omega), if_pos h, hn p r (List.pairwise_cons.1 pr).2] at h2
          exact absurd h2.symm (dr [] r (a, x) p rfl)
        · exact h
        · have h2 := hv q.1 (by omega) hq
          simp only [lvl, Int.lt_irrefl, if_false] at h2
          rw [if_neg (by omega), if_pos h, if_neg (by omega), hn q s (List.pairwise_cons.1 ps).2] at h2
          exact absurd h2 (ds [] s (a, x) q rfl)
      obtain ⟨p1, p2⟩ := p
      obtain ⟨q1, q2⟩ := q
      simp only at hpq
      subst hpq
      have := ih s p1 p2 q2 x x (fun u hu => hr u (by simp only [List.mem_cons] at hu ⊢; exact .inr hu)) (fun u hu => hs u (by simp only [List.mem_cons] at hu ⊢; exact .inr hu)) (List.pairwise_cons.1 pr).2 (List.pairwise_cons.1 ps).2 (diff_tail dr) (diff_tail ds) (fun z hz hz' => by
        have hz2 : ¬ z < a := by simp only at hap; omega
        have h3 : (if z < a then d else lvl x ((p1, p2) :: r) z) = (if z < a then e else lvl x ((p1, q2) :: s) z) := hv z (by omega) hz'
        rw [if_neg hz2, if_neg hz2] at h3
        exact h3)
      rw [this]
/-- right steps of the same levels are the same -/
theorem right_same_steps {L M : List (Int × Int)} (h : RightU L) (k : RightU M) (hv : ∀ x, 0 ≤ x → x < 1099511627776 → lvl 0 L x = lvl 0 M x) : L = M := by
  obtain ⟨v, r, e⟩ := h.head
  obtain ⟨u, s, e'⟩ := k.head
  subst e e'
  exact same_from r s 0 v u 0 0 h.hi k.hi h.sorted k.sorted h.diff k.diff hv
theorem change_right {L : List (Int × Int)} (h : RightU L) {fn : Int → Int} (hfn : ∀ x, -1000000 ≤ fn x ∧ fn x ≤ 1000000) (f t : Int) : RightU (changeU fn L (f, t)) ∧ ∀ x, 0 ≤ x → x < 1099511627776 → lvl 0 (changeU fn L (f, t)) x = if clampI f < clampI t ∧ f ≤ x ∧ x < t then fn (lvl 0 L x) else lvl 0 L x := by
  unfold changeU
  by_cases hft : clampI t ≤ clampI f
  · simp only [hft, if_true]
    exact ⟨h, fun x _ _ => by rw [if_neg (by omega)]⟩
  · simp only [hft, if_false]
    have hrep := change_rep h (fn := fn) (f := f) (t := t) (by omega)
    refine ⟨rep_right hrep fun x h0 h1 => ?_, fun x h0 h1 => ?_⟩
    · split
      · exact hfn _
      · have hb : ∀ (l : List (Int × Int)) (d : Int), (∀ p ∈ l, -1000000 ≤ p.2 ∧ p.2 ≤ 1000000) → -1000000 ≤ d ∧ d ≤ 1000000 → -1000000 ≤ lvl d l x ∧ lvl d l x ≤ 1000000 := by
          intro l
          induction l with
          | nil => intro d _ hd; exact hd
          | cons p r ih =>
            intro d hp hd
            simp only [lvl]
            split
            · exact hd
            · exact ih p.2 (fun q hq => hp q (by simp [hq])) (hp p (by simp))
        exact hb L 0 h.bd (by omega)
    · rw [hrep.val x h0 h1]
      by_cases hx : f ≤ x ∧ x < t
      · rw [if_pos hx, if_pos ⟨by omega, hx.1, hx.2⟩]
      · rw [if_neg hx, if_neg (fun hh => hx hh.2)]
end Go.Proofs.Ythdljigcfhjikaa
namespace Go.Proofs.Ythdljigcfhjikaa
set_option linter.unusedVariables false
open Go.RowKit
/-- what has been chosen of the times up to T -/
structure ChoV (L : List (Int × Int)) (f t : Int) (rel : Int → Int → Prop) (T : Int) (st : Int × Bool) : Prop where
  no : st.2 = false → ∀ x, 0 ≤ x → x < T → ¬ (clampI f ≤ x ∧ x < clampI t)
  ex : st.2 = true → ∃ x, 0 ≤ x ∧ x < T ∧ clampI f ≤ x ∧ x < clampI t ∧ lvl 0 L x = st.1
  all : st.2 = true → ∀ x, 0 ≤ x → x < T → clampI f ≤ x → x < clampI t → rel st.1 (lvl 0 L x)
theorem clampI_bounds (n : Int) : 0 ≤ clampI n ∧ clampI n ≤ 1099511627776 := by unfold clampI; split <;> (try split) <;> omega
theorem clampI_of {n : Int} (h : 0 ≤ n) (h' : n ≤ 1099511627776) : clampI n = n := by unfold clampI; rw [if_neg (by omega), if_neg (by omega)]
theorem choose_spec {L : List (Int × Int)} (h : RightU L) (bt : Int → Int → Int) (rel : Int → Int → Prop) (hrefl : ∀ a, rel a a) (htrans : ∀ a b c, rel a b → rel b c → rel a c) (hb1 : ∀ a b, rel (bt a b) a ∧ rel (bt a b) b) (hb2 : ∀ a b, bt a b = a ∨ bt a b = b) (f t : Int) :
    ChoV L f t rel 1099511627776 (chooseGo bt (f, t) (runsU L) (0, false)) := by
  have key : ∀ (m k : Nat) (st : Int × Bool), k + m = L.length → (k < L.length → ChoV L f t rel (L.getD k (0, 0)).1 st) → (k = L.length → ChoV L f t rel 1099511627776 st) → ChoV L f t rel 1099511627776 (chooseGo bt (f, t) ((runsU L).drop k) st) := by
    intro m
    induction m with
    | zero =>
      intro k st hk _ h2
      have : (runsU L).drop k = [] := by apply List.drop_eq_nil_of_le; unfold runsU; simp; omega
      rw [this]
      exact h2 (by omega)
    | succ m ih =>
      intro k st hk h1 _
      have hkl : k < L.length := by omega
      rw [runsU_drop' hkl]
      obtain ⟨b0, b1, b2⟩ := toU_le h hkl
      have hl : ∀ x, (L.getD k (0, 0)).1 ≤ x → x < toU L k → lvl 0 L x = (L.getD k (0, 0)).2 := fun x hx hx' => lvl_at h.sorted 0 k x hkl hx fun hk1 => by unfold toU at hx'; rw [if_pos hk1] at hx'; exact hx'
      have H := h1 hkl
      generalize hA : (L.getD k (0, 0)).1 = A at *
      generalize hV : (L.getD k (0, 0)).2 = V at *
      have hm : meetsU (A, toU L k) (f, t) = decide (max A (clampI f) < min (toU L k) (clampI t)) := by
        unfold meetsU bothT bothF
        simp only
        rw [clampI_of b0 (by omega), clampI_of (show 0 ≤ toU L k by omega) b2]
        rw [Bool.eq_iff_iff]
        simp only [Bool.not_eq_true', decide_eq_false_iff_not, decide_eq_true_eq]
        omega
      have hst : ChoV L f t rel (toU L k) (if meetsU (A, toU L k) (f, t) then (if st.2 then (bt st.1 V, true) else (bt V V, true)) else st) := by
        rw [hm]
        by_cases hmm : max A (clampI f) < min (toU L k) (clampI t)
        · rw [decide_eq_true hmm]
          simp only [if_true]
          have hx0 := hl (max A (clampI f)) (by omega) (by omega)
          cases h2 : st.2 with
          | true =>
            simp only [if_true]
            obtain ⟨x, x0, x1, x2, x3, x4⟩ := H.ex h2
            refine ⟨fun hh => by simp at hh, fun _ => ?_, fun _ y y0 y1 y2 y3 => ?_⟩
            · rcases hb2 st.1 V with e | e
              · exact ⟨x, x0, by omega, x2, x3, x4.trans e.symm⟩
              · exact ⟨max A (clampI f), by omega, by omega, by omega, by omega, hx0.trans e.symm⟩
            · by_cases hy : y < A
              · exact htrans _ _ _ (hb1 st.1 V).1 (H.all h2 y y0 hy y2 y3)
              · rw [hl y (by omega) y1]; exact (hb1 st.1 V).2
          | false =>
            simp only [Bool.false_eq_true, if_false]
            have eVV : bt V V = V := by rcases hb2 V V with e | e <;> exact e
            rw [eVV]
            refine ⟨fun hh => by simp at hh, fun _ => ⟨max A (clampI f), by omega, by omega, by omega, by omega, hx0⟩, fun _ y y0 y1 y2 y3 => ?_⟩
            by_cases hy : y < A
            · exact absurd ⟨y2, y3⟩ (H.no h2 y y0 hy)
            · rw [hl y (by omega) y1]; exact hrefl _
        · rw [decide_eq_false hmm]
          simp only [Bool.false_eq_true, if_false]
          refine ⟨fun h2 y y0 y1 hy => ?_, fun h2 => ?_, fun h2 y y0 y1 y2 y3 => ?_⟩
          · by_cases hyA : y < A
            · exact H.no h2 y y0 hyA hy
            · omega
          · obtain ⟨x, x0, x1, x2⟩ := H.ex h2
            exact ⟨x, x0, by omega, x2⟩
          · by_cases hyA : y < A
            · exact H.all h2 y y0 hyA y2 y3
            · omega
      unfold chooseGo
      simp only
      by_cases hs : toU L k < t
      · rw [if_pos hs]
        refine ih (k + 1) _ (by omega) (fun hk1 => ?_) (fun hk1 => ?_)
        · have e : toU L k = (L.getD (k + 1) (0, 0)).1 := by unfold toU; rw [if_pos hk1]
          rw [← e]; exact hst
        · have e : toU L k = 1099511627776 := by unfold toU; rw [if_neg (by omega)]
          rw [← e]
          have := hst
          rw [e] at this ⊢
          exact this
      · rw [if_neg hs]
        have hct : clampI t ≤ toU L k := by unfold clampI; split <;> (try split) <;> omega
        exact ⟨fun h2 y y0 _ hy => hst.no h2 y y0 (by omega) hy, fun h2 => by obtain ⟨x, x0, x1, x2⟩ := hst.ex h2; exact ⟨x, x0, by omega, x2⟩, fun h2 y y0 _ y2 y3 => hst.all h2 y y0 (by omega) y2 y3⟩
  have := key L.length 0 (0, false) (by omega) (fun h0 => ?_) (fun h0 => ?_)
  · simpa using this
  · obtain ⟨v, r, e⟩ := h.head
    have : (L.getD 0 (0, 0)).1 = 0 := by rw [e]; rfl
    rw [this]
    exact ⟨fun _ x h1 h2 => by omega, fun hh => by simp at hh, fun hh => by simp at hh⟩
  · obtain ⟨v, r, e⟩ := h.head
    rw [e] at h0; simp at h0
theorem minU_rel : (∀ a b : Int, minU a b ≤ a ∧ minU a b ≤ b) ∧ ∀ a b : Int, minU a b = a ∨ minU a b = b := by
  constructor
  · intro a b; unfold minU; split <;> omega
  · intro a b; unfold minU; split <;> simp
theorem maxU_rel : (∀ a b : Int, a ≤ maxU a b ∧ b ≤ maxU a b) ∧ ∀ a b : Int, maxU a b = a ∨ maxU a b = b := by
  constructor
  · intro a b; unfold maxU; split <;> omega
  · intro a b; unfold maxU; split <;> simp
/-- the least level of a span that is not empty -/
theorem least_spec {L : List (Int × Int)} (h : RightU L) {f t : Int} (hft : clampI f < clampI t) : (∃ x, 0 ≤ x ∧ x < 1099511627776 ∧ clampI f ≤ x ∧ x < clampI t ∧ lvl 0 L x = chooseU minU L (f, t)) ∧ ∀ x, 0 ≤ x → x < 1099511627776 → clampI f ≤ x → x < clampI t → chooseU minU L (f, t) ≤ lvl 0 L x := by
  have hs := choose_spec h minU (fun a b => a ≤ b) (fun a => Int.le_refl a) (fun a b c => Int.le_trans) minU_rel.1 minU_rel.2 f t
  have hc := clampI_bounds f
  have hc2 := clampI_bounds t
  have h2 : (chooseGo minU (f, t) (runsU L) (0, false)).2 = true := by
    cases hh : (chooseGo minU (f, t) (runsU L) (0, false)).2 with
    | true => rfl
    | false => exact absurd ⟨Int.le_refl _, hft⟩ (hs.no hh (clampI f) hc.1 (by omega))
  exact ⟨hs.ex h2, hs.all h2⟩
theorem most_spec {L : List (Int × Int)} (h : RightU L) {f t : Int} (hft : clampI f < clampI t) : (∃ x, 0 ≤ x ∧ x < 1099511627776 ∧ clampI f ≤ x ∧ x < clampI t ∧ lvl 0 L x = chooseU maxU L (f, t)) ∧ ∀ x, 0 ≤ x → x < 1099511627776 → clampI f ≤ x → x < clampI t → lvl 0 L x ≤ chooseU maxU L (f, t) := by
  have hs := choose_spec h maxU (fun a b => b ≤ a) (fun a => Int.le_refl a) (fun a b c h1 h2 => Int.le_trans h2 h1) maxU_rel.1 maxU_rel.2 f t
  have hc := clampI_bounds f
  have hc2 := clampI_bounds t
  have h2 : (chooseGo maxU (f, t) (runsU L) (0, false)).2 = true := by
    cases hh : (chooseGo maxU (f, t) (runsU L) (0, false)).2 with
    | true => rfl
    | false => exact absurd ⟨Int.le_refl _, hft⟩ (hs.no hh (clampI f) hc.1 (by omega))
  exact ⟨hs.ex h2, hs.all h2⟩
/-- the level at a time -/
theorem at_spec {L : List (Int × Int)} (h : RightU L) (t : Int) : atU L t = lvl 0 L (min (clampI t) 1099511627775) := by
  have hc := clampI_bounds t
  have hm : minU (clampI t) 1099511627775 = min (clampI t) 1099511627775 := by unfold minU; split <;> omega
  unfold atU
  rw [hm]
  generalize hx : min (clampI t) 1099511627775 = x at *
  have hx0 : 0 ≤ x ∧ x ≤ 1099511627775 := by omega
  have e1 : clampI x = x := clampI_of hx0.1 (by omega)
  have e2 : addI x 1 = x + 1 := by unfold addI; rw [e1, show clampI 1 = 1 from rfl]; exact clampI_of (by omega) (by omega)
  rw [e1, e2]
  have e3 : clampI (x + 1) = x + 1 := clampI_of (by omega) (by omega)
  obtain ⟨⟨y, y0, y1, y2, y3, y4⟩, _⟩ := least_spec h (f := x) (t := x + 1) (by rw [e1, e3]; omega)
  rw [e1] at y2
  rw [e3] at y3
  have : y = x := by omega
  rw [← y4, this]
end Go.Proofs.Ythdljigcfhjikaa
namespace Go.Proofs.Ythdljigcfhjikaa
set_option linter.unusedVariables false
open Go.ChangeShapes Go.WideShapes Go.ChangeAt Go.RowKit
theorem w64_in (n : Int) (h : -9223372036854775808 ≤ n ∧ n ≤ 9223372036854775807) : wrap64 n = n := by unfold wrap64; omega

/-- the sum of g over n times from f on -/
def sumS (g : Int → Int) (f : Int) : Nat → Int
  | 0 => 0
  | n + 1 => sumS g f n + g (f + n)
theorem sumS_add (g : Int → Int) (f : Int) (a : Nat) : ∀ b : Nat, sumS g f (a + b) = sumS g f a + sumS g (f + a) b
  | 0 => by simp [sumS]
  | b + 1 => by
    have h := sumS_add g f a b
    show sumS g f (a + b) + g (f + ((a + b : Nat) : Int)) = sumS g f a + (sumS g (f + a) b + g (f + a + b))
    rw [h, show f + ((a + b : Nat) : Int) = f + a + b by omega]
    omega
theorem sumS_congr {g k : Int → Int} {f : Int} : ∀ {n : Nat}, (∀ x, f ≤ x → x < f + n → g x = k x) → sumS g f n = sumS k f n
  | 0, _ => rfl
  | n + 1, h => by
    show sumS g f n + g (f + n) = sumS k f n + k (f + n)
    rw [sumS_congr (n := n) fun x h0 h1 => h x h0 (by omega), h (f + n) (by omega) (by omega)]
theorem sumS_const {g : Int → Int} {f v : Int} : ∀ {n : Nat}, (∀ x, f ≤ x → x < f + n → g x = v) → sumS g f n = n * v
  | 0, _ => by simp [sumS]
  | n + 1, h => by
    show sumS g f n + g (f + n) = ((n + 1 : Nat) : Int) * v
    rw [sumS_const (n := n) (v := v) fun x h0 h1 => h x h0 (by omega), h (f + n) (by omega) (by omega), Int.natCast_add, Int.add_mul]
    simp
theorem sumS_bd {g : Int → Int} {f B : Int} : ∀ {n : Nat}, (∀ x, f ≤ x → x < f + n → 0 ≤ g x ∧ g x ≤ B) → 0 ≤ sumS g f n ∧ sumS g f n ≤ n * B
  | 0, _ => by simp [sumS]
  | n + 1, h => by
    have h1 := sumS_bd (n := n) (B := B) fun x h0 h1 => h x h0 (by omega)
    have h2 := h (f + n) (by omega) (by omega)
    show 0 ≤ sumS g f n + g (f + n) ∧ sumS g f n + g (f + n) ≤ ((n + 1 : Nat) : Int) * B
    rw [Int.natCast_add, Int.add_mul]
    simp only [Int.natCast_one, Int.one_mul]
    omega
theorem sumS_more {g k : Int → Int} {f d : Int} : ∀ {n : Nat}, (∀ x, f ≤ x → x < f + n → k x = g x + d) → sumS k f n = sumS g f n + n * d
  | 0, _ => by simp [sumS]
  | n + 1, h => by
    show sumS k f n + k (f + n) = sumS g f n + g (f + n) + ((n + 1 : Nat) : Int) * d
    rw [sumS_more (n := n) (d := d) (g := g) fun x h0 h1 => h x h0 (by omega), h (f + n) (by omega) (by omega), Int.natCast_add, Int.add_mul]
    simp only [Int.natCast_one, Int.one_mul]
    omega
/-- the sum over the times from a to b -/
def areaS (g : Int → Int) (a b : Int) : Int := sumS g a (b - a).toNat
theorem areaS_split (g : Int → Int) {a b c : Int} (h1 : a ≤ b) (h2 : b ≤ c) : areaS g a c = areaS g a b + areaS g b c := by
  unfold areaS
  rw [show (c - a).toNat = (b - a).toNat + (c - b).toNat by omega, sumS_add, show a + ((b - a).toNat : Int) = b by omega]
theorem areaS_none (g : Int → Int) {a b : Int} (h : b ≤ a) : areaS g a b = 0 := by
  unfold areaS
  rw [show (b - a).toNat = 0 by omega]
  rfl
/-- the level, if it is above 0 -/
def posL (L : List (Int × Int)) (x : Int) : Int := maxU (lvl 0 L x) 0
theorem area_sum {L : List (Int × Int)} (h : RightU L) (f t : Int) : (runsU L).foldl (areaStep (f, t)) 0 = areaS (posL L) (clampI f) (clampI t) := by
  have hF := clampI_bounds f
  have hT := clampI_bounds t
  have key : ∀ (m k : Nat) (s T0 : Int), k + m = L.length → (k < L.length → T0 = (L.getD k (0, 0)).1) → (k = L.length → T0 = 1099511627776) → 0 ≤ T0 → T0 ≤ 1099511627776 → s = areaS (posL L) (clampI f) (min (clampI t) T0) → 0 ≤ s ∧ s ≤ 1000000 * T0 → ((runsU L).drop k).foldl (areaStep (f, t)) s = areaS (posL L) (clampI f) (clampI t) := by
    intro m
    induction m with
    | zero =>
      intro k s T0 hk _ h2 _ _ hs _
      have : (runsU L).drop k = [] := by apply List.drop_eq_nil_of_le; unfold runsU; simp; omega
      rw [this, List.foldl_nil, hs, h2 (by omega), show min (clampI t) 1099511627776 = clampI t by omega]
    | succ m ih =>
      intro k s T0 hk h1 _ hT0 _ hs hsb
      have hkl : k < L.length := by omega
      rw [runsU_drop' hkl, List.foldl_cons]
      obtain ⟨b0, b1, b2⟩ := toU_le h hkl
      have hl : ∀ x, (L.getD k (0, 0)).1 ≤ x → x < toU L k → lvl 0 L x = (L.getD k (0, 0)).2 := fun x hx hx' => lvl_at h.sorted 0 k x hkl hx fun hk1 => by unfold toU at hx'; rw [if_pos hk1] at hx'; exact hx'
      have hget : L.getD k (0, 0) ∈ L := by rw [List.getD_eq_getElem?_getD, List.getElem?_eq_getElem hkl]; exact List.getElem_mem hkl
      have hbd := h.bd _ hget
      have e0 := h1 hkl
      generalize hA : (L.getD k (0, 0)).1 = A at *
      generalize hV : (L.getD k (0, 0)).2 = V at *
      subst e0
      have hm0 : 0 ≤ maxU V 0 ∧ maxU V 0 ≤ 1000000 := by unfold maxU; split <;> omega
      have hposl : ∀ x, T0 ≤ x → x < toU L k → posL L x = maxU V 0 := fun x hx hx' => by unfold posL; rw [hl x hx hx']
      generalize maxU V 0 = U at *
      have hstep : areaStep (f, t) s (T0, toU L k, V) = areaS (posL L) (clampI f) (min (clampI t) (toU L k)) ∧ 0 ≤ areaStep (f, t) s (T0, toU L k, V) ∧ areaStep (f, t) s (T0, toU L k, V) ≤ 1000000 * toU L k := by
        have hU : maxU V 0 = U := by have := hposl T0 (by omega) (by omega); unfold posL at this; rw [hl T0 (by omega) (by omega)] at this; exact this
        unfold areaStep
        simp only
        rw [hU]
        have hcut : (cutI (T0, toU L k) (f, t)).2 - (cutI (T0, toU L k) (f, t)).1 = if min (toU L k) (clampI t) ≤ max T0 (clampI f) then 0 else min (toU L k) (clampI t) - max T0 (clampI f) := by
          unfold cutI bothT bothF
          simp only
          rw [clampI_of b0 (by omega), clampI_of (show 0 ≤ toU L k by omega) b2]
          split <;> simp
        rw [hcut]
        by_cases hmm : min (toU L k) (clampI t) ≤ max T0 (clampI f)
        · rw [if_pos hmm]
          have e1 : wrap64 (s + wrap64 (wrap64 0 * U)) = s := by
            rw [show wrap64 0 = 0 by decide +kernel, Int.zero_mul, show wrap64 0 = 0 by decide +kernel, Int.add_zero]
            exact w64_in _ ⟨by omega, by omega⟩
          rw [e1]
          refine ⟨?_, by omega, by omega⟩
          rw [hs]
          by_cases hle : clampI t ≤ T0
          · rw [show min (clampI t) T0 = clampI t by omega, show min (clampI t) (toU L k) = clampI t by omega]
          · rw [areaS_none _ (by omega), areaS_none _ (by omega)]
        · rw [if_neg hmm]
          generalize hd : min (toU L k) (clampI t) - max T0 (clampI f) = D
          have hD : 0 < D ∧ D ≤ toU L k - T0 := by omega
          have hDU : 0 ≤ D * U ∧ D * U ≤ D * 1000000 := ⟨Int.mul_nonneg (by omega) hm0.1, Int.mul_le_mul_of_nonneg_left hm0.2 (by omega)⟩
          have e1 : wrap64 (s + wrap64 (wrap64 D * U)) = s + D * U := by
            rw [w64_in D ⟨by omega, by omega⟩, w64_in (D * U) ⟨by omega, by omega⟩]
            exact w64_in _ ⟨by omega, by omega⟩
          rw [e1]
          refine ⟨?_, by omega, by omega⟩
          have hc : areaS (posL L) (max T0 (clampI f)) (min (clampI t) (toU L k)) = D * U := by
            unfold areaS
            rw [show (min (clampI t) (toU L k) - max T0 (clampI f)).toNat = D.toNat by omega]
            rw [sumS_const (v := U) fun x h0 h1 => hposl x (by omega) (by omega)]
            rw [show ((D.toNat : Nat) : Int) = D by omega]
          by_cases hle : clampI f ≤ T0
          · rw [areaS_split (posL L) hle (show T0 ≤ min (clampI t) (toU L k) by omega), hs, show min (clampI t) T0 = T0 by omega]
            rw [show max T0 (clampI f) = T0 by omega] at hc
            rw [hc]
          · rw [show max T0 (clampI f) = clampI f by omega] at hc
            rw [hc, hs, areaS_none _ (by omega), Int.zero_add]
      refine ih (k + 1) _ (toU L k) (by omega) (fun hk1 => by unfold toU; rw [if_pos hk1]) (fun hk1 => by unfold toU; rw [if_neg (by omega)]) (by omega) b2 hstep.1 hstep.2
  have h0 := key L.length 0 0 0 (by omega) (fun h0 => by obtain ⟨v, r, e⟩ := h.head; rw [e]; rfl) (fun h0 => by obtain ⟨v, r, e⟩ := h.head; rw [e] at h0; simp at h0) (by omega) (by omega) (by rw [areaS_none _ (by omega)]) (by omega)
  rw [List.drop_zero] at h0
  exact h0
theorem area_eq {L : List (Int × Int)} (h : RightU L) (f t : Int) : areaU L (f, t) = minU (areaS (posL L) (clampI f) (clampI t)) 1099511627776 := by
  unfold areaU
  rw [area_sum h]
end Go.Proofs.Ythdljigcfhjikaa
namespace Go.Proofs.Ythdljigcfhjikaa
set_option linter.unusedVariables false
open Go.ChangeShapes Go.WideShapes Go.ChangeAt Go.RowKit
attribute [local go_sem ↓] Go.wp_at_zero Go.wp_at_succ comesTo_value_eq comesTo_skip_eq comesTo_enter_eq

theorem OwnU.made (w : World) : OwnU (w.alloc (.cells #[] 60)) w.heap.size (.slice (some ⟨w.heap.size, 0, none⟩) 0 0) [] :=
  ⟨rfl, .inr ⟨w.heap.size, 0, #[], rfl, Nat.le_refl _, World.alloc_heap_new w _, Nat.le_refl _, by unfold maxLen; omega, rfl, rfl⟩⟩
section
variable {ops : Array Oper} {rest : List Oper} {o : Oper} {a : Act} {w : World} {Q : Exit → Act → World → Prop}
/-- APPEND of a row of steps -/
theorem wpList_append_steps (hgd : o.guard = none) (s x : Operand)
    (ho : o.op = .call { callee := .builtin .append, args := #[s, x], argTypes := #[55, 55] })
    (B : Nat) (v : Value) (l m : List (Int × Int)) (hs : a.eval s = v) (hown : OwnU w B v l) (g c : Nat) (hx : a.eval x = .slice (some ⟨g, 0, none⟩) m.length c) (hr : URow w g m) (h63 : l.length + m.length ≤ 4398046511104) (hB : B ≤ w.heap.size)
    (h : ∀ (v' : Value) (w' : World), OwnU w' B v' (l ++ m) → w.grownBy w' v.ownBlock → (v'.ownBlock = v.ownBlock ∨ v'.ownBlock = some w.heap.size) → wpList Try.prog ops Q rest (a.put o.dst v') w') : wpList Try.prog ops Q (o :: rest) a w := by
  obtain ⟨i0, hi, hz0, hz1, hz2⟩ := info_parts3 info_step
  refine wpList_append_own_at w hgd s x 55 ho B 60 i0 (.agg #[.int .i64 0, .int .i64 0]) 2 16 Try.underlying55 hi hz0 hz1 hz2 rfl (by decide) v l.length (flatU l) hs hown
      ⟨g, 0, none⟩ m.length c (flatU m) hx (flatU_length m) (fun j u hj => ?_) (fun u hu => flatU_one _ u hu) (by unfold maxLen; omega) (by omega) hB (fun v' w' h1 h2 _ h4 => ?_)
  · have hlt : j < (flatU m).length := by
      rcases Nat.lt_or_ge j (flatU m).length with h | h
      · exact h
      · rw [List.getElem?_eq_none h] at hj; cases hj
    rw [flatU_length] at hlt
    obtain ⟨k, hk⟩ : ∃ k, j = k * 2 ∨ j = k * 2 + 1 := ⟨j / 2, by omega⟩
    have hkl : k < m.length := by omega
    have h1 := flatU_get m k hkl
    have h2 := hr k hkl
    have ha : ∀ i : Nat, (⟨g, 0, none⟩ : Addr).add i = ⟨g, i, none⟩ := fun i => by
      unfold Addr.add
      by_cases h : i = 0
      · simp [h]
      · simp [h]
    rw [ha]
    rcases hk with rfl | rfl
    · rw [h1.1] at hj; rw [← hj]; exact h2.1
    · rw [h1.2] at hj; rw [← hj]; exact h2.2
  · exact h v' w' (by unfold OwnU; rw [List.length_append, flatU_append]; exact h1) h2 h4
end
set_option maxRecDepth 100000 in
set_option maxHeartbeats 1000000 in
theorem clone_row {w : World} {g c : Nat} {L : List (Int × Int)} (hr : URow w g L) (hg : g < w.heap.size) (hp : 0 < L.length) (hl : L.length ≤ 1099511627776) :
    Calls Try.prog 68 #[.slice (some ⟨g, 0, none⟩) L.length c] w fun e w' => ∃ g' c', e = .returned (.slice (some ⟨g', 0, none⟩) L.length c') ∧ w.heap.size ≤ g' ∧ g' < w'.heap.size ∧ L.length ≤ c' ∧ URow w' g' L ∧ Below w.heap.size w w' := by
  have hne : ∀ W, Sem.run Try.prog (binOp .eql 55 (.slice (some ⟨g, 0, none⟩) L.length c) (.slice none 0 0)) W = .ok (.bool false) W := fun W => by kernel_rfl
  go_enter Try.func68, Try.ntmps68
  go_upto_region 3 with fail
  refine wp_region_lit ?_
  refine wpList_yield (w' := w.alloc (.cells #[] 60)) (v := .slice (some ⟨w.heap.size, 0, none⟩) 0 0) rfl (by first | (go_simp; done) | (go_simp; rfl)) ?_
  have hb := below_alloc (Below.refl _ w) (.cells #[] 60)
  have hO := OwnU.made w
  have hr1 := hr.mono (hb.block _ hg)
  have hs1 : w.heap.size < (w.alloc (.cells #[] 60)).heap.size := by simp
  generalize w.alloc (.cells #[] 60) = W1 at *
  refine wpList_yield (w' := W1) (v := .slice (some ⟨g, 0, none⟩) L.length c) rfl (by first | (go_simp; done) | (go_simp; rfl)) ?_
  refine wpList_append_steps rfl _ _ rfl w.heap.size (.slice (some ⟨w.heap.size, 0, none⟩) 0 0) [] L (by go_simp) hO g c (by go_simp) hr1 (by simp; omega) (by omega) ?_
  intro v' W2 ho' hg2 hn
  rw [List.nil_append] at ho'
  obtain ⟨ad, c', rfl, hc', had⟩ := ho'.form
  obtain ⟨g', rfl, h1, h2⟩ := had hp
  have hb2 : Below w.heap.size w W2 := hb.grown hg2 hb.size (fun k e => by have e' : w.heap.size = k := Option.some.inj e; omega)
  have hrow := ho'.row
  go_wp2_with fail
  go_ret
  exact ⟨g', c', rfl, h1, h2, hc', hrow, hb2⟩
set_option maxRecDepth 100000 in
set_option maxHeartbeats 1000000 in
theorem list_any {w : World} {S : Nat} {L : List (Int × Int)} (h : USt w S L) :
    Calls Try.prog 28 #[.pointer (some ⟨S, 0, none⟩)] w fun e w' => ∃ g' c', e = .returned (.slice (some ⟨g', 0, none⟩) L.length c') ∧ w.heap.size ≤ g' ∧ g' < w'.heap.size ∧ L.length ≤ c' ∧ URow w' g' L ∧ Below w.heap.size w w' := by
  obtain ⟨g, c, hg, hS, hc, hs, hr⟩ := h.at_
  have c0 := cell_of_block (o := 0) hS rfl
  have KC := Lib.hid (clone_row (c := c) hr hs h.pos h.len)
  have KT := Lib.hid (there_any h)
  clear h hr hS
  go_enter Try.func28, Try.ntmps28
  go_wp2_with fail
  refine KT.out.mono ?_
  rintro e w' ⟨rfl, rfl⟩
  go_wp2_with fail
  refine KC.out.mono ?_
  rintro e w1 ⟨g', c', rfl, h1, h2, h3, h4, h5⟩
  have HX := Lib.hid (And.intro h4 h5)
  clear h4 h5
  go_wp2_with fail
  go_ret
  exact ⟨g', c', rfl, h1, h2, h3, HX.out.1, HX.out.2⟩
set_option maxRecDepth 100000 in
set_option maxHeartbeats 1000000 in
theorem clone_any {w : World} {S : Nat} {L : List (Int × Int)} (h : USt w S L) :
    Calls Try.prog 23 #[.pointer (some ⟨S, 0, none⟩)] w fun e w' => ∃ S', e = .returned (.pointer (some ⟨S', 0, none⟩)) ∧ w.heap.size ≤ S' ∧ USt w' S' L ∧ Below w.heap.size w w' := by
  obtain ⟨g, c, hg, hS, hc, hs, hr⟩ := h.at_
  have c0 := cell_of_block (o := 0) hS rfl
  have KC := Lib.hid (clone_row (c := c) hr hs h.pos h.len)
  have KT := Lib.hid (there_any h)
  have hpos := h.pos
  have hlen := h.len
  clear h hr hS
  go_enter Try.func23, Try.ntmps23
  go_wp2_with fail
  refine KT.out.mono ?_
  rintro e w' ⟨rfl, rfl⟩
  go_wp2_with fail
  refine KC.out.mono ?_
  rintro e w1 ⟨g', c', rfl, h1, h2, h3, h4, h5⟩
  have hb := below_alloc (Below.refl _ w1) (.cells #[.slice (some ⟨g', 0, none⟩) L.length c'] 63)
  have hn := World.alloc_heap_new w1 (.cells #[.slice (some ⟨g', 0, none⟩) L.length c'] 63)
  have HX := Lib.hid (show USt (w1.alloc (.cells #[.slice (some ⟨g', 0, none⟩) L.length c'] 63)) w1.heap.size L from ⟨⟨g', c', by omega, hn, h3, by simp; omega, h4.mono (hb.block _ h2)⟩, hpos, hlen⟩)
  have HB := Lib.hid (below_next h5 hb)
  have hsz := h5.size
  clear h4 h5 hb hn
  go_wp2_with fail
  go_ret
  exact ⟨w1.heap.size, rfl, hsz, HX.out, HB.out⟩
end Go.Proofs.Ythdljigcfhjikaa
namespace Go.Proofs.Ythdljigcfhjikaa
set_option linter.unusedVariables false
open Go.ChangeShapes Go.WideShapes Go.ChangeAt Go.RowKit
attribute [local go_sem ↓] Go.wp_at_zero Go.wp_at_succ comesTo_value_eq comesTo_skip_eq comesTo_enter_eq

theorem take_same {L M : List (Int × Int)} {k : Nat} (hk : k < L.length) (hm : k < M.length) (h : L.take k = M.take k) (e : L.getD k (0, 0) = M.getD k (0, 0)) : L.take (k + 1) = M.take (k + 1) := by
  rw [List.take_add_one (l := L), List.take_add_one (l := M), h, List.getElem?_eq_getElem hk, List.getElem?_eq_getElem hm]
  rw [List.getD_eq_getElem?_getD, List.getD_eq_getElem?_getD, List.getElem?_eq_getElem hk, List.getElem?_eq_getElem hm] at e
  have e' : L[k] = M[k] := e
  rw [e']
set_option maxRecDepth 100000 in
set_option maxHeartbeats 2000000 in
theorem equal_rows {w : World} {g c h d : Nat} {L M : List (Int × Int)} (hL : URow w g L) (hM : URow w h M) (hl : L.length ≤ 1099511627776) (hm : M.length ≤ 1099511627776) :
    Calls Try.prog 69 #[.slice (some ⟨g, 0, none⟩) L.length c, .slice (some ⟨h, 0, none⟩) M.length d] w fun e w' => e = .returned (.bool (decide (L = M))) ∧ Below w.heap.size w w' := by
  have hmx : Try.prog.follows .mixedOrders = true := by kernel_rfl
  by_cases hln : L.length = M.length
  case neg =>
    have E := Lib.hid (show decide (L = M) = false from decide_eq_false fun e => hln (by rw [e]))
    have hd : ((L.length : Int) != (M.length : Int)) = true := by rw [bne_iff_ne]; omega
    go_enter Try.func69, Try.ntmps69
    go_wp2
    go_ret
    exact ⟨by rw [E.out]; rfl, Below.refl _ _⟩
  case pos =>
  have HL := Lib.hid hL
  have HM := Lib.hid hM
  clear hL hM
  obtain ⟨n, hn⟩ : ∃ n, n = L.length := ⟨_, rfl⟩
  have hn2 : n = M.length := by omega
  rw [← hn, ← hn2]
  have HN := Lib.hid (And.intro hn hn2)
  have hnl : n ≤ 1099511627776 := by omega
  clear hn hn2 hln hl hm
  go_enter Try.func69, Try.ntmps69
  go_wp2_with fail
  go_loopw [13] (fun i wr => ∃ k : Nat, k ≤ n ∧ i = .int .i64 k ∧ Below w.heap.size w wr ∧ L.take k = M.take k ∧ URow wr g L ∧ URow wr h M) (fun i _ => n - (intOf i).toNat)
  case atStart => exact ⟨0, Nat.zero_le _, rfl, Below.refl _ _, rfl, HL.out, HM.out⟩
  case round =>
    obtain ⟨k, hk, rfl, hb, ht, hL, hM⟩ := hrel
    have HT := Lib.hid ht
    have HB := Lib.hid hb
    clear ht hb HL HM
    by_cases hlt : k < n
    · have hd : decide (k < n) = true := decide_eq_true hlt
      have hkl : (k : Int) < (n : Int) := by omega
      have hw1 : IntKind.i64.wrap ((k : Int) + 1) = (k : Int) + 1 := by rw [IntKind.wrap_i64]; omega
      have l0 := (hL k (by have := HN.out; omega)).1
      have l1 := (hL k (by have := HN.out; omega)).2
      have m0 := (hM k (by have := HN.out; omega)).1
      have m1 := (hM k (by have := HN.out; omega)).2
      have HL := Lib.hid hL
      have HM := Lib.hid hM
      have HEQ := Lib.hid (show L.getD k (0, 0) = M.getD k (0, 0) ↔ (L.getD k (0, 0)).1 = (M.getD k (0, 0)).1 ∧ (L.getD k (0, 0)).2 = (M.getD k (0, 0)).2 from ⟨fun e => by rw [e]; exact ⟨rfl, rfl⟩, fun ⟨a, b⟩ => Prod.ext a b⟩)
      clear hL hM
      have HX := Lib.hid (fun (e : L.getD k (0, 0) = M.getD k (0, 0)) => take_same (by have := HN.out; omega) (by have := HN.out; omega) HT.out e)
      have HNE := Lib.hid (fun (e : L = M) => show L.getD k (0, 0) = M.getD k (0, 0) by rw [e])
      generalize (L.getD k (0, 0)).1 = a1 at *
      generalize (L.getD k (0, 0)).2 = a2 at *
      generalize (M.getD k (0, 0)).1 = b1 at *
      generalize (M.getD k (0, 0)).2 = b2 at *
      by_cases he1 : a1 = b1
      · by_cases he2 : a2 = b2
        · have hee := HX.out (HEQ.out.2 ⟨he1, he2⟩)
          have HE := Lib.hid hee
          clear hee
          go_upto_region 6 with fail
          go_region
          go_wp2_with fail
          go_roundw
          case rel => exact ⟨k + 1, by omega, by go_num, HB.out.drew, HE.out, fun j hj => HL.out j hj, fun j hj => HM.out j hj⟩
          case measure => simp [intOf]; omega
        · have E := Lib.hid (show decide (L = M) = false from decide_eq_false fun e => he2 (HEQ.out.1 (HNE.out e)).2)
          go_upto_region 6 with fail
          go_region
          go_wp2_with fail
          go_ret
          exact ⟨by rw [E.out]; rfl, HB.out.drew⟩
      · have E := Lib.hid (show decide (L = M) = false from decide_eq_false fun e => he1 (HEQ.out.1 (HNE.out e)).1)
        go_upto_region 6 with fail
        go_region
        go_wp2_with fail
        go_ret
        exact ⟨by rw [E.out]; rfl, HB.out.drew⟩
    · obtain rfl : k = n := by omega
      have E := Lib.hid (show decide (L = M) = true from decide_eq_true (by have h1 := HT.out; have h2 := HN.out; rw [List.take_of_length_le (by omega), List.take_of_length_le (by omega)] at h1; exact h1))
      have hd : decide (k < k) = false := decide_eq_false (by omega)
      go_wp2_with fail
      go_ret
      exact ⟨by rw [E.out]; rfl, HB.out⟩
set_option maxRecDepth 100000 in
set_option maxHeartbeats 2000000 in
theorem same_any {w : World} {S R : Nat} {L M : List (Int × Int)} (h : USt w S L) (k : USt w R M) :
    Calls Try.prog 27 #[.pointer (some ⟨S, 0, none⟩), .pointer (some ⟨R, 0, none⟩)] w fun e w' => e = .returned (.bool (decide (L = M))) ∧ Below w.heap.size w w' := by
  have KL := Lib.hid (list_any h)
  have KM := Lib.hid (fun W (hb : Below w.heap.size w W) => list_any (k.below hb))
  have hl := h.len
  have hm := k.len
  clear h k
  go_enter Try.func27, Try.ntmps27
  go_wp2_with fail
  refine KL.out.mono ?_
  rintro e w1 ⟨g, c, rfl, g1, g2, g3, g4, hb1⟩
  go_wp2_with fail
  refine (KM.out _ hb1).mono ?_
  rintro e w2 ⟨h, d, rfl, h1, h2, h3, h4, hb2⟩
  have KE := Lib.hid (equal_rows (c := c) (d := d) (g4.mono (hb2.block _ g2)) h4 hl hm)
  have HB := Lib.hid (below_next hb1 hb2)
  clear g4 h4 hb1 hb2
  go_wp2_with fail
  refine KE.out.mono ?_
  rintro e w3 ⟨rfl, hb3⟩
  have HB3 := Lib.hid (below_next HB.out hb3)
  clear hb3
  go_wp2_with fail
  go_ret
  exact ⟨rfl, HB3.out⟩
end Go.Proofs.Ythdljigcfhjikaa
namespace Go.Proofs.Ythdljigcfhjikaa
set_option linter.unusedVariables false
open Go.ChangeShapes Go.WideShapes Go.ChangeAt Go.RowKit
attribute [local go_sem ↓] Go.wp_at_zero Go.wp_at_succ comesTo_value_eq comesTo_skip_eq comesTo_enter_eq

theorem RightU.pos {L : List (Int × Int)} (h : RightU L) : 0 < L.length := by
  obtain ⟨v, r, e⟩ := h.head
  rw [e]; simp
theorem addF_in (n : Int) : ∀ x, -1000000 ≤ addF n x ∧ addF n x ≤ 1000000 := fun x => boundU_in _
theorem right_flat (n : Int) : RightU [(0, boundU n)] :=
  ⟨⟨_, _, rfl⟩, by simp, fun a b p q e => by have := congrArg List.length e; simp at this; omega, fun p hp => by simp at hp; subst hp; show (0 : Int) < 1099511627776; decide, fun p hp => by simp at hp; subst hp; exact boundU_in n⟩
theorem add_r {w : World} {S : Nat} {L : List (Int × Int)} (h : USt w S L) (hr : RightU L) (hl : 3 * L.length ≤ 1099511627776) (f t n : Int) :
    Calls Try.prog 22 #[.pointer (some ⟨S, 0, none⟩), .agg #[.int .i64 f, .int .i64 t], .int .i64 n] w fun e w' => e = .returned (.int .i64 0) ∧ USt w' S (changeU (addF (byU n)) L (f, t)) ∧ FrU S w w' :=
  add_u h f t n (by have := changeU_len (addF (byU n)) L (f, t); omega) (change_right hr (addF_in (byU n)) f t).1.pos
theorem set_r {w : World} {S : Nat} {L : List (Int × Int)} (h : USt w S L) (hr : RightU L) (hl : 3 * L.length ≤ 1099511627776) (f t n : Int) :
    Calls Try.prog 30 #[.pointer (some ⟨S, 0, none⟩), .agg #[.int .i64 f, .int .i64 t], .int .i64 n] w fun e w' => e = .returned (.int .i64 0) ∧ USt w' S (changeU (fun _ => boundU n) L (f, t)) ∧ FrU S w w' :=
  set_any h f t n (by have := changeU_len (fun _ => boundU n) L (f, t); omega) (change_right hr (fun _ => boundU_in n) f t).1.pos
/-- the levels behind a forgetting -/
def forgetU (L : List (Int × Int)) (t : Int) : List (Int × Int) := if clampI t = 1099511627776 then L else changeU (fun _ => boundU (atU L (clampI t))) L (0, clampI t)
theorem forget_right {L : List (Int × Int)} (h : RightU L) (t : Int) : RightU (forgetU L t) := by
  unfold forgetU
  split
  · exact h
  · exact (change_right h (fun _ => boundU_in _) 0 (clampI t)).1
theorem forgetU_len (L : List (Int × Int)) (t : Int) : (forgetU L t).length ≤ 3 * L.length := by
  unfold forgetU
  split
  · omega
  · exact changeU_len _ _ _
set_option maxRecDepth 100000 in
set_option maxHeartbeats 1000000 in
theorem forget_any {w : World} {S : Nat} {L : List (Int × Int)} (h : USt w S L) (hr : RightU L) (hl : 3 * L.length ≤ 1099511627776) (t : Int) :
    Calls Try.prog 31 #[.pointer (some ⟨S, 0, none⟩), .int .i64 t] w fun e w' => e = .returned (.int .i64 0) ∧ USt w' S (forgetU L t) ∧ FrU S w w' := by
  have KT := Lib.hid (there_any h)
  have KC := Lib.hid (fun W => clamp_any t W)
  have KA := Lib.hid (fun W x (hb : Below w.heap.size w W) => at_any (h.below hb) x)
  have KS := Lib.hid (fun W x y (hb : Below w.heap.size w W) => set_r (h.below hb) hr hl 0 x y)
  have HH := Lib.hid h
  obtain ⟨res, hres⟩ : ∃ r, r = forgetU L t := ⟨_, rfl⟩
  rw [← hres]
  have HR := Lib.hid (show res = if clampI t = 1099511627776 then L else changeU (fun _ => boundU (atU L (clampI t))) L (0, clampI t) from hres)
  clear h hres
  generalize clampI t = c at *
  by_cases hc : c = 1099511627776
  · have E := Lib.hid (show res = L by rw [HR.out, if_pos hc])
    have hd : (c == 1099511627776) = true := beq_iff_eq.2 hc
    go_enter Try.func31, Try.ntmps31
    go_wp2_with fail
    refine KT.out.mono ?_
    rintro e w' ⟨rfl, rfl⟩
    go_wp2_with fail
    refine (KC.out _).mono ?_
    rintro e w' ⟨rfl, rfl⟩
    go_wp2_with fail
    go_ret
    exact ⟨rfl, by rw [E.out]; exact HH.out, FrU.refl _ _⟩
  · have E := Lib.hid (show res = changeU (fun _ => boundU (atU L c)) L (0, c) by rw [HR.out, if_neg hc])
    have hd : (c == 1099511627776) = false := beq_eq_false_iff_ne.2 hc
    go_enter Try.func31, Try.ntmps31
    go_wp2_with fail
    refine KT.out.mono ?_
    rintro e w' ⟨rfl, rfl⟩
    go_wp2_with fail
    refine (KC.out _).mono ?_
    rintro e w' ⟨rfl, rfl⟩
    go_wp2_with fail
    refine (KA.out _ c (Below.refl _ _)).mono ?_
    rintro e w1 ⟨rfl, hb1⟩
    go_wp2_with fail
    refine (KS.out _ c (atU L c) hb1).mono ?_
    rintro e w2 ⟨rfl, hu, hf⟩
    have HX := Lib.hid (And.intro hu (FrU.after hb1 hf))
    clear hu hf hb1
    go_wp2_with fail
    go_ret
    exact ⟨rfl, by rw [E.out]; exact HX.out.1, HX.out.2⟩
end Go.Proofs.Ythdljigcfhjikaa
namespace Go.Proofs.Ythdljigcfhjikaa
set_option linter.unusedVariables false
open Go.ChangeShapes Go.WideShapes Go.ChangeAt Go.RowKit
attribute [local go_sem ↓] Go.wp_at_zero Go.wp_at_succ comesTo_value_eq comesTo_skip_eq comesTo_enter_eq

def oneL : List (Int × Int) := [(0, 0), (3, 2), (7, 0)]
theorem one_change : changeU (addF (byU 2)) [(0, boundU 0)] (3, 7) = oneL := by decide +kernel
theorem one_at3 : atU oneL 3 = 2 := by decide +kernel
theorem one_at7 : atU oneL 7 = 0 := by decide +kernel
theorem one_most : chooseU maxU oneL (0, 9) = 2 := by decide +kernel
theorem one_area : areaU oneL (0, 9) = 8 := by decide +kernel
set_option maxRecDepth 100000 in
set_option maxHeartbeats 2000000 in
theorem usage_one (w : World) : Calls Try.prog 21 #[] w fun e w' => e = .returned (.bool true) ∧ Below w.heap.size w w' := by
  have KF := Lib.hid (flat_any 0 w)
  have KA := Lib.hid (fun W S (h : USt W S [(0, boundU 0)]) => (show Calls Try.prog 22 #[.pointer (some ⟨S, 0, none⟩), .agg #[.int .i64 3, .int .i64 7], .int .i64 2] W fun e w' => e = .returned (.int .i64 0) ∧ USt w' S oneL ∧ FrU S W w' by
    have := add_u h 3 7 2 (by rw [one_change]; decide) (by rw [one_change]; decide)
    rwa [one_change] at this))
  have K3 := Lib.hid (fun W S (h : USt W S oneL) => (show Calls Try.prog 16 #[.pointer (some ⟨S, 0, none⟩), .int .i64 3] W fun e w' => e = .returned (.int .i64 2) ∧ Below W.heap.size W w' from one_at3 ▸ at_any h 3))
  have K7 := Lib.hid (fun W S (h : USt W S oneL) => (show Calls Try.prog 16 #[.pointer (some ⟨S, 0, none⟩), .int .i64 7] W fun e w' => e = .returned (.int .i64 0) ∧ Below W.heap.size W w' from one_at7 ▸ at_any h 7))
  have KM := Lib.hid (fun W S (h : USt W S oneL) => (show Calls Try.prog 19 #[.pointer (some ⟨S, 0, none⟩), .agg #[.int .i64 0, .int .i64 9]] W fun e w' => e = .returned (.int .i64 2) ∧ Below W.heap.size W w' from one_most ▸ most_any h 0 9))
  have KR := Lib.hid (fun W S (h : USt W S oneL) => (show Calls Try.prog 20 #[.pointer (some ⟨S, 0, none⟩), .agg #[.int .i64 0, .int .i64 9]] W fun e w' => e = .returned (.int .i64 8) ∧ Below W.heap.size W w' from one_area ▸ area_any h 0 9))
  go_enter Try.func21, Try.ntmps21
  go_wp2_with fail
  refine KF.out.mono ?_
  rintro e W1 ⟨S, rfl, hS, hu1, hb1⟩
  have HU1 := Lib.hid hu1
  clear hu1
  go_wp2_with fail
  refine (KA.out _ _ HU1.out).mono ?_
  rintro e W2 ⟨rfl, hu2, hf2⟩
  have HU2 := Lib.hid hu2
  have HB2 := Lib.hid (hb1.trans (hf2.below hb1.size (fun j hj => by subst hj; exact hS)))
  clear hu2 hf2 hb1
  go_wp2_with fail
  refine (K3.out _ _ HU2.out).mono ?_
  rintro e W3 ⟨rfl, hb3⟩
  have HU3 := Lib.hid (HU2.out.below hb3)
  have HB3 := Lib.hid (below_next HB2.out hb3)
  clear hb3
  go_wp2_with fail
  refine (K7.out _ _ HU3.out).mono ?_
  rintro e W4 ⟨rfl, hb3⟩
  have HU4 := Lib.hid (HU3.out.below hb3)
  have HB4 := Lib.hid (below_next HB3.out hb3)
  clear hb3
  go_wp2_with fail
  refine (KM.out _ _ HU4.out).mono ?_
  rintro e W5 ⟨rfl, hb3⟩
  have HU5 := Lib.hid (HU4.out.below hb3)
  have HB5 := Lib.hid (below_next HB4.out hb3)
  clear hb3
  go_wp2_with fail
  refine (KR.out _ _ HU5.out).mono ?_
  rintro e W6 ⟨rfl, hb3⟩
  have HB6 := Lib.hid (below_next HB5.out hb3)
  clear hb3
  go_wp2_with fail
  go_ret
  exact ⟨rfl, HB6.out⟩
set_option maxHeartbeats 1000000 in
theorem add_no {w : World} {v : Value} (h : NoU w v) (f t n : Int) : Calls Try.prog 22 #[v, .agg #[.int .i64 f, .int .i64 t], .int .i64 n] w fun e w' => e = .returned (.int .i64 1) ∧ Below w.heap.size w w' := by
  have HB := below_alloc (below_alloc (Below.refl _ w) (.cells #[.int .i64 f, .int .i64 t] 25)) (.cells #[.int .i64 n] 3)
  have n2 := World.alloc_heap_new (w.alloc (.cells #[.int .i64 f, .int .i64 t] 25)) (.cells #[.int .i64 n] 3)
  rw [show (w.alloc (.cells #[.int .i64 f, .int .i64 t] 25)).heap.size = w.heap.size + 1 by simp] at n2
  have n1 := ((below_alloc (Below.refl _ (w.alloc (.cells #[.int .i64 f, .int .i64 t] 25))) (.cells #[.int .i64 n] 3)).block w.heap.size (by simp)).trans (World.alloc_heap_new w (.cells #[.int .i64 f, .int .i64 t] 25))
  have hm : (n < -2000000 ∧ byU n = -2000000) ∨ (-2000000 ≤ n ∧ 2000000 < n ∧ byU n = 2000000) ∨ (-2000000 ≤ n ∧ n ≤ 2000000 ∧ byU n = n) := by
    unfold byU
    by_cases h1 : n < -2000000
    · exact .inl ⟨h1, if_pos h1⟩
    · by_cases h2 : 2000000 < n
      · exact .inr (.inl ⟨by omega, h2, by rw [if_neg h1, if_pos h2]⟩)
      · exact .inr (.inr ⟨by omega, by omega, by rw [if_neg h1, if_neg h2]⟩)
  obtain ⟨m, hmm⟩ : ∃ m, m = byU n := ⟨_, rfl⟩
  rw [← hmm] at hm
  clear hmm
  have H0 := Lib.hid h
  clear h
  go_enter Try.func22, Try.ntmps22
  go_upto_region 1 with fail
  generalize (w.alloc (.cells #[.int .i64 f, .int .i64 t] 25)).alloc (.cells #[.int .i64 n] 3) = W at *
  have hw := (wrote_refl n2).set 0 (.int .i64 m)
  have hbel := hw.below HB (by omega)
  have b0 := cell_of_block (o := 0) n2 rfl
  have z0 := free_of_block 0 n2
  have m1 := (hw.rest w.heap.size (by omega)).trans n1
  have KC := Lib.hid (fun fn caps => change_none (H0.out.below hbel) f t fn caps)
  clear n1 n2 hw
  rcases hm with ⟨h1, rfl⟩ | ⟨h1, h2, rfl⟩ | ⟨h1, h2, rfl⟩
  all_goals (
    go_upto_region 2 with fail
    clear b0 z0
    generalize W.setCell ⟨w.heap.size + 1, 0, none⟩ (.int .i64 _) = W9 at *
    have s0 := cell_of_block (o := 0) m1 rfl
    have s1 := cell_of_block (o := 1) m1 rfl
    clear m1
    go_wp2_with fail
    refine (KC.out _ _).mono ?_
    rintro e w' ⟨rfl, hb⟩
    go_wp2_with fail
    go_ret
    exact ⟨rfl, below_next hbel hb⟩)
theorem equal_nil (w : World) : Calls Try.prog 69 #[.slice none 0 0, .slice none 0 0] w fun e w' => e = .returned (.bool true) ∧ w = w' := by
  go_enter Try.func69, Try.ntmps69
  go_wp2_with fail
  go_loopw [13] (fun i wr => i = .int .i64 0 ∧ wr = w) (fun _ _ => 0)
  case atStart => exact ⟨rfl, rfl⟩
  case round =>
    obtain ⟨rfl, rfl⟩ := hrel
    go_wp2
    go_ret
    exact ⟨rfl, rfl⟩
theorem same_no {w : World} {v : Value} (h : NoU w v) : Calls Try.prog 27 #[v, .pointer none] w fun e w' => e = .returned (.bool true) ∧ Below w.heap.size w w' := by
  have KL := Lib.hid (list_no h)
  have KN := Lib.hid (fun W => list_no (w := W) (v := .pointer none) (.inl rfl))
  clear h
  go_enter Try.func27, Try.ntmps27
  go_wp2_with fail
  refine KL.out.mono ?_
  rintro e W1 ⟨rfl, hb1⟩
  go_wp2_with fail
  refine (KN.out _).mono ?_
  rintro e W2 ⟨rfl, hb2⟩
  go_wp2_with fail
  refine (equal_nil _).mono ?_
  rintro e W3 ⟨rfl, rfl⟩
  go_wp2_with fail
  go_ret
  exact ⟨rfl, below_next hb1 hb2⟩
set_option maxRecDepth 100000 in
set_option maxHeartbeats 8000000 in
theorem usage_nobody (kd f t n : Int) (w : World) : Calls Try.prog 6 #[.agg #[.int .i64 kd, .int .i64 f, .int .i64 t, .int .i64 n]] w fun e w' => e = .returned (.bool true) ∧ Below w.heap.size w w' := by
  have K1 := Lib.hid usage_one
  have hb0 := below_alloc (Below.refl _ w) (.cells #[.int .i64 kd, .int .i64 f, .int .i64 t, .int .i64 n] 49)
  have n0 := World.alloc_heap_new w (.cells #[.int .i64 kd, .int .i64 f, .int .i64 t, .int .i64 n] 49)
  have HB0 := Lib.hid hb0
  have HN0 := Lib.hid n0
  clear hb0 n0
  go_enter Try.func6, Try.ntmps6
  go_upto_region 1 with fail
  generalize w.alloc (.cells #[.int .i64 kd, .int .i64 f, .int .i64 t, .int .i64 n] 49) = W0 at *
  go_wp2_with fail
  go_loopw [3] (fun i wr => ∃ k : Nat, k ≤ 2 ∧ i = .int .i64 k ∧ Below w.heap.size w wr ∧ wr.heap[w.heap.size]? = some (.cells #[.int .i64 kd, .int .i64 f, .int .i64 t, .int .i64 n] 49 (0, 0))) (fun i _ => 2 - (intOf i).toNat)
  case atStart => exact ⟨0, by omega, rfl, HB0.out, HN0.out⟩
  case round =>
    obtain ⟨k, hk, rfl, hb, hn⟩ := hrel
    have HB := Lib.hid hb
    have HN := Lib.hid hn
    clear hb hn HB0 HN0
    by_cases h2 : k = 2
    case pos =>
      subst h2
      go_wp2_with fail
      refine (K1.out _).mono ?_
      rintro e W1 ⟨rfl, hb1⟩
      have HX := Lib.hid (below_next HB.out hb1)
      clear hb1
      go_wp2_with fail
      go_ret
      exact ⟨rfl, HX.out⟩
    case neg =>
    have hd : decide ((k : Int) < 2) = true := decide_eq_true (by omega)
    have hA := below_alloc (Below.refl _ wr) (.cells #[.slice none 0 0] 63)
    have hNn := World.alloc_heap_new wr (.cells #[.slice none 0 0] 63)
    have HBa := Lib.hid (below_next HB.out hA)
    have HNa := Lib.hid ((hA.block _ (Array.getElem?_eq_some_iff.1 HN.out).1).trans HN.out)
    have HV0 := Lib.hid (show NoU (wr.alloc (.cells #[.slice none 0 0] 63)) (.pointer (some ⟨wr.heap.size, 0, none⟩)) from .inr ⟨_, rfl, hNn⟩)
    have HV1 := Lib.hid (show NoU (wr.alloc (.cells #[.slice none 0 0] 63)) (.pointer none) from .inl rfl)
    have hw1 : IntKind.i64.wrap ((k : Int) + 1) = (k : Int) + 1 := by rw [IntKind.wrap_i64]; omega
    clear hA hNn HB HN
    go_upto_region 5 with fail
    generalize wr.alloc (.cells #[.slice none 0 0] 63) = W0a at *
    rcases (show k = 0 ∨ k = 1 by omega) with rfl | rfl
    · have GV0 := HV0
      have GB0 := HBa
      have GN0 := HNa
      clear HV0 HV1 HBa HNa
      have p0 := cell_of_block (o := 1) GN0.out rfl
      have p1 := cell_of_block (o := 2) GN0.out rfl
      have p2 := cell_of_block (o := 3) GN0.out rfl
      go_wp2_with fail
      refine (add_no GV0.out f t n).mono ?_
      rintro e Wn0 ⟨rfl, hb⟩
      have GV1 := Lib.hid (GV0.out.below hb)
      have GB1 := Lib.hid (below_next GB0.out hb)
      have GN1 := Lib.hid ((hb.block _ (Array.getElem?_eq_some_iff.1 GN0.out).1).trans GN0.out)
      clear hb p0 p1 p2 GV0 GB0 GN0
      have p0 := cell_of_block (o := 1) GN1.out rfl
      have p1 := cell_of_block (o := 2) GN1.out rfl
      have p2 := cell_of_block (o := 3) GN1.out rfl
      go_wp2_with fail
      refine (set_no GV1.out f t n).mono ?_
      rintro e Wn1 ⟨rfl, hb⟩
      have GV2 := Lib.hid (GV1.out.below hb)
      have GB2 := Lib.hid (below_next GB1.out hb)
      have GN2 := Lib.hid ((hb.block _ (Array.getElem?_eq_some_iff.1 GN1.out).1).trans GN1.out)
      clear hb p0 p1 p2 GV1 GB1 GN1
      have p0 := cell_of_block (o := 1) GN2.out rfl
      have p1 := cell_of_block (o := 2) GN2.out rfl
      have p2 := cell_of_block (o := 3) GN2.out rfl
      go_wp2_with fail
      refine (forget_no GV2.out f).mono ?_
      rintro e Wn2 ⟨rfl, hb⟩
      have GV3 := Lib.hid (GV2.out.below hb)
      have GB3 := Lib.hid (below_next GB2.out hb)
      have GN3 := Lib.hid ((hb.block _ (Array.getElem?_eq_some_iff.1 GN2.out).1).trans GN2.out)
      clear hb p0 p1 p2 GV2 GB2 GN2
      have p0 := cell_of_block (o := 1) GN3.out rfl
      have p1 := cell_of_block (o := 2) GN3.out rfl
      have p2 := cell_of_block (o := 3) GN3.out rfl
      go_wp2_with fail
      refine (at_no GV3.out f).mono ?_
      rintro e Wn3 ⟨rfl, hb⟩
      have GV4 := Lib.hid (GV3.out.below hb)
      have GB4 := Lib.hid (below_next GB3.out hb)
      have GN4 := Lib.hid ((hb.block _ (Array.getElem?_eq_some_iff.1 GN3.out).1).trans GN3.out)
      clear hb p0 p1 p2 GV3 GB3 GN3
      have p0 := cell_of_block (o := 1) GN4.out rfl
      have p1 := cell_of_block (o := 2) GN4.out rfl
      have p2 := cell_of_block (o := 3) GN4.out rfl
      go_wp2_with fail
      refine (least_no GV4.out f t).mono ?_
      rintro e Wn4 ⟨rfl, hb⟩
      have GV5 := Lib.hid (GV4.out.below hb)
      have GB5 := Lib.hid (below_next GB4.out hb)
      have GN5 := Lib.hid ((hb.block _ (Array.getElem?_eq_some_iff.1 GN4.out).1).trans GN4.out)
      clear hb p0 p1 p2 GV4 GB4 GN4
      have p0 := cell_of_block (o := 1) GN5.out rfl
      have p1 := cell_of_block (o := 2) GN5.out rfl
      have p2 := cell_of_block (o := 3) GN5.out rfl
      go_wp2_with fail
      refine (most_no GV5.out f t).mono ?_
      rintro e Wn5 ⟨rfl, hb⟩
      have GV6 := Lib.hid (GV5.out.below hb)
      have GB6 := Lib.hid (below_next GB5.out hb)
      have GN6 := Lib.hid ((hb.block _ (Array.getElem?_eq_some_iff.1 GN5.out).1).trans GN5.out)
      clear hb p0 p1 p2 GV5 GB5 GN5
      have p0 := cell_of_block (o := 1) GN6.out rfl
      have p1 := cell_of_block (o := 2) GN6.out rfl
      have p2 := cell_of_block (o := 3) GN6.out rfl
      go_wp2_with fail
      refine (area_no GV6.out f t).mono ?_
      rintro e Wn6 ⟨rfl, hb⟩
      have GV7 := Lib.hid (GV6.out.below hb)
      have GB7 := Lib.hid (below_next GB6.out hb)
      have GN7 := Lib.hid ((hb.block _ (Array.getElem?_eq_some_iff.1 GN6.out).1).trans GN6.out)
      clear hb p0 p1 p2 GV6 GB6 GN6
      have p0 := cell_of_block (o := 1) GN7.out rfl
      have p1 := cell_of_block (o := 2) GN7.out rfl
      have p2 := cell_of_block (o := 3) GN7.out rfl
      go_wp2_with fail
      refine (list_no GV7.out ).mono ?_
      rintro e Wn7 ⟨rfl, hb⟩
      have GV8 := Lib.hid (GV7.out.below hb)
      have GB8 := Lib.hid (below_next GB7.out hb)
      have GN8 := Lib.hid ((hb.block _ (Array.getElem?_eq_some_iff.1 GN7.out).1).trans GN7.out)
      clear hb p0 p1 p2 GV7 GB7 GN7
      have p0 := cell_of_block (o := 1) GN8.out rfl
      have p1 := cell_of_block (o := 2) GN8.out rfl
      have p2 := cell_of_block (o := 3) GN8.out rfl
      go_wp2_with fail
      refine (clone_no GV8.out ).mono ?_
      rintro e Wn8 ⟨rfl, hb⟩
      have GV9 := Lib.hid (GV8.out.below hb)
      have GB9 := Lib.hid (below_next GB8.out hb)
      have GN9 := Lib.hid ((hb.block _ (Array.getElem?_eq_some_iff.1 GN8.out).1).trans GN8.out)
      clear hb p0 p1 p2 GV8 GB8 GN8
      have p0 := cell_of_block (o := 1) GN9.out rfl
      have p1 := cell_of_block (o := 2) GN9.out rfl
      have p2 := cell_of_block (o := 3) GN9.out rfl
      go_wp2_with fail
      refine (same_no GV9.out ).mono ?_
      rintro e Wn9 ⟨rfl, hb⟩
      have GV10 := Lib.hid (GV9.out.below hb)
      have GB10 := Lib.hid (below_next GB9.out hb)
      have GN10 := Lib.hid ((hb.block _ (Array.getElem?_eq_some_iff.1 GN9.out).1).trans GN9.out)
      clear hb p0 p1 p2 GV9 GB9 GN9
      have p0 := cell_of_block (o := 1) GN10.out rfl
      have p1 := cell_of_block (o := 2) GN10.out rfl
      have p2 := cell_of_block (o := 3) GN10.out rfl
      go_wp2_with fail
      go_roundw
      case rel => exact ⟨1, by omega, by go_num, GB10.out, GN10.out⟩
      case measure => simp [intOf]
    · have GV0 := HV1
      have GB0 := HBa
      have GN0 := HNa
      clear HV0 HV1 HBa HNa
      have p0 := cell_of_block (o := 1) GN0.out rfl
      have p1 := cell_of_block (o := 2) GN0.out rfl
      have p2 := cell_of_block (o := 3) GN0.out rfl
      go_wp2_with fail
      refine (add_no GV0.out f t n).mono ?_
      rintro e Wn0 ⟨rfl, hb⟩
      have GV1 := Lib.hid (GV0.out.below hb)
      have GB1 := Lib.hid (below_next GB0.out hb)
      have GN1 := Lib.hid ((hb.block _ (Array.getElem?_eq_some_iff.1 GN0.out).1).trans GN0.out)
      clear hb p0 p1 p2 GV0 GB0 GN0
      have p0 := cell_of_block (o := 1) GN1.out rfl
      have p1 := cell_of_block (o := 2) GN1.out rfl
      have p2 := cell_of_block (o := 3) GN1.out rfl
      go_wp2_with fail
      refine (set_no GV1.out f t n).mono ?_
      rintro e Wn1 ⟨rfl, hb⟩
      have GV2 := Lib.hid (GV1.out.below hb)
      have GB2 := Lib.hid (below_next GB1.out hb)
      have GN2 := Lib.hid ((hb.block _ (Array.getElem?_eq_some_iff.1 GN1.out).1).trans GN1.out)
      clear hb p0 p1 p2 GV1 GB1 GN1
      have p0 := cell_of_block (o := 1) GN2.out rfl
      have p1 := cell_of_block (o := 2) GN2.out rfl
      have p2 := cell_of_block (o := 3) GN2.out rfl
      go_wp2_with fail
      refine (forget_no GV2.out f).mono ?_
      rintro e Wn2 ⟨rfl, hb⟩
      have GV3 := Lib.hid (GV2.out.below hb)
      have GB3 := Lib.hid (below_next GB2.out hb)
      have GN3 := Lib.hid ((hb.block _ (Array.getElem?_eq_some_iff.1 GN2.out).1).trans GN2.out)
      clear hb p0 p1 p2 GV2 GB2 GN2
      have p0 := cell_of_block (o := 1) GN3.out rfl
      have p1 := cell_of_block (o := 2) GN3.out rfl
      have p2 := cell_of_block (o := 3) GN3.out rfl
      go_wp2_with fail
      refine (at_no GV3.out f).mono ?_
      rintro e Wn3 ⟨rfl, hb⟩
      have GV4 := Lib.hid (GV3.out.below hb)
      have GB4 := Lib.hid (below_next GB3.out hb)
      have GN4 := Lib.hid ((hb.block _ (Array.getElem?_eq_some_iff.1 GN3.out).1).trans GN3.out)
      clear hb p0 p1 p2 GV3 GB3 GN3
      have p0 := cell_of_block (o := 1) GN4.out rfl
      have p1 := cell_of_block (o := 2) GN4.out rfl
      have p2 := cell_of_block (o := 3) GN4.out rfl
      go_wp2_with fail
      refine (least_no GV4.out f t).mono ?_
      rintro e Wn4 ⟨rfl, hb⟩
      have GV5 := Lib.hid (GV4.out.below hb)
      have GB5 := Lib.hid (below_next GB4.out hb)
      have GN5 := Lib.hid ((hb.block _ (Array.getElem?_eq_some_iff.1 GN4.out).1).trans GN4.out)
      clear hb p0 p1 p2 GV4 GB4 GN4
      have p0 := cell_of_block (o := 1) GN5.out rfl
      have p1 := cell_of_block (o := 2) GN5.out rfl
      have p2 := cell_of_block (o := 3) GN5.out rfl
      go_wp2_with fail
      refine (most_no GV5.out f t).mono ?_
      rintro e Wn5 ⟨rfl, hb⟩
      have GV6 := Lib.hid (GV5.out.below hb)
      have GB6 := Lib.hid (below_next GB5.out hb)
      have GN6 := Lib.hid ((hb.block _ (Array.getElem?_eq_some_iff.1 GN5.out).1).trans GN5.out)
      clear hb p0 p1 p2 GV5 GB5 GN5
      have p0 := cell_of_block (o := 1) GN6.out rfl
      have p1 := cell_of_block (o := 2) GN6.out rfl
      have p2 := cell_of_block (o := 3) GN6.out rfl
      go_wp2_with fail
      refine (area_no GV6.out f t).mono ?_
      rintro e Wn6 ⟨rfl, hb⟩
      have GV7 := Lib.hid (GV6.out.below hb)
      have GB7 := Lib.hid (below_next GB6.out hb)
      have GN7 := Lib.hid ((hb.block _ (Array.getElem?_eq_some_iff.1 GN6.out).1).trans GN6.out)
      clear hb p0 p1 p2 GV6 GB6 GN6
      have p0 := cell_of_block (o := 1) GN7.out rfl
      have p1 := cell_of_block (o := 2) GN7.out rfl
      have p2 := cell_of_block (o := 3) GN7.out rfl
      go_wp2_with fail
      refine (list_no GV7.out ).mono ?_
      rintro e Wn7 ⟨rfl, hb⟩
      have GV8 := Lib.hid (GV7.out.below hb)
      have GB8 := Lib.hid (below_next GB7.out hb)
      have GN8 := Lib.hid ((hb.block _ (Array.getElem?_eq_some_iff.1 GN7.out).1).trans GN7.out)
      clear hb p0 p1 p2 GV7 GB7 GN7
      have p0 := cell_of_block (o := 1) GN8.out rfl
      have p1 := cell_of_block (o := 2) GN8.out rfl
      have p2 := cell_of_block (o := 3) GN8.out rfl
      go_wp2_with fail
      refine (clone_no GV8.out ).mono ?_
      rintro e Wn8 ⟨rfl, hb⟩
      have GV9 := Lib.hid (GV8.out.below hb)
      have GB9 := Lib.hid (below_next GB8.out hb)
      have GN9 := Lib.hid ((hb.block _ (Array.getElem?_eq_some_iff.1 GN8.out).1).trans GN8.out)
      clear hb p0 p1 p2 GV8 GB8 GN8
      have p0 := cell_of_block (o := 1) GN9.out rfl
      have p1 := cell_of_block (o := 2) GN9.out rfl
      have p2 := cell_of_block (o := 3) GN9.out rfl
      go_wp2_with fail
      refine (same_no GV9.out ).mono ?_
      rintro e Wn9 ⟨rfl, hb⟩
      have GV10 := Lib.hid (GV9.out.below hb)
      have GB10 := Lib.hid (below_next GB9.out hb)
      have GN10 := Lib.hid ((hb.block _ (Array.getElem?_eq_some_iff.1 GN9.out).1).trans GN9.out)
      clear hb p0 p1 p2 GV9 GB9 GN9
      have p0 := cell_of_block (o := 1) GN10.out rfl
      have p1 := cell_of_block (o := 2) GN10.out rfl
      have p2 := cell_of_block (o := 3) GN10.out rfl
      go_wp2_with fail
      go_roundw
      case rel => exact ⟨2, by omega, by go_num, GB10.out, GN10.out⟩
      case measure => simp [intOf]
end Go.Proofs.Ythdljigcfhjikaa
