/- Laws that belong together: Levels (layer 10): change. Condition: the lengths' bounds, and that some step comes of it.; Levels (layer 10): Flat, Add, Set. Condition: the lengths' bounds, and that some step comes of it.; Levels (layer 10): the area of a span; Forget. Condition: the lengths' bound.; Levels (layer 10): another one that is the same: slices.Clone of steps, List, Clone. Condition: the lengths' bound.; Reservations in memory (layer 18): rows, the list's block, what is asked of them. No condition.; Reservations (layer 18): those of which a thing holds, whatever the visitor. What it does is told by an invariant. Condition: the length's bound.; Levels (layer 10), plainly: what a change leaves; steps that tell the same levels are the same. No condition but that the steps are right.; Reservations (layer 18): visitors that only look; Lower. Conditions: the lengths' bounds.; Levels (layer 10), plainly: the least and the greatest level of a span, the level at a time, by the level at each time. No condition but that the steps are right.; Levels (layer 10): whether two have the same; Forget. Condition: the lengths' bound.; Levels (layer 10): Add, Set, Forget over right steps. Condition: the lengths' bound. -/
import Derived.Test.YtbhnjmdlagjfbaaMaf
import Derived.Laws.EntriesVeiled
import Derived.Test.YtbhnjmdlagjfbaaMab
import Derived.Test.YtbhnjmdlagjfbaaMFr
import Derived.Test.YtbhnjmdlagjfbaaMah
import Derived.Test.YtbhnjmdlagjfbaaMad
import Derived.Shelf.Abstract
namespace Go.Proofs.Ytbhnjmdlagjfbaa
set_option linter.unusedVariables false
open Go.ChangeShapes Go.WideShapes Go.ChangeAt Go.RowKit
attribute [local go_sem ↓] Go.wp_at_zero Go.wp_at_succ comesTo_value_eq comesTo_skip_eq comesTo_enter_eq

/-- the levels behind a change of a span's -/
def changeU (fn : Int → Int) (L : List (Int × Int)) (t : Int × Int) : List (Int × Int) := if clampI t.2 ≤ clampI t.1 then L else (runsU L).foldl (stepU t fn) []
theorem foldl_len (t : Int × Int) (fn : Int → Int) : ∀ (rs : List (Int × Int × Int)) (l : List (Int × Int)), (rs.foldl (stepU t fn) l).length ≤ l.length + 3 * rs.length
  | [], l => by simp
  | r :: rs, l => by
    have h1 := foldl_len t fn rs (stepU t fn l r)
    have h2 := stepU_len t fn l r
    simp only [List.foldl_cons, List.length_cons]
    omega
theorem changeU_len (fn : Int → Int) (L : List (Int × Int)) (t : Int × Int) : (changeU fn L t).length ≤ 3 * L.length := by
  unfold changeU
  split
  · omega
  · have := foldl_len t fn (runsU L) []
    have h2 : (runsU L).length = L.length := by unfold runsU; simp
    simp only [List.length_nil] at this
    omega
/-- runs under change -/
theorem runs_change {w : World} {z S g c : Nat} {L : List (Int × Int)} (hlen : L.length ≤ 1099511627776) (f t : Int) (bf : FuncId) (bc : Array Value) (fn : Int → Int) (hE : Go.Proofs.Enters Try.prog bf)
    (hF : ∀ a W', Below w.heap.size w W' → Calls Try.prog bf (#[.int .i64 a] ++ bc) W' fun e w' => e = .returned (.int .i64 (fn a)) ∧ W' = w')
    (hU : ∀ W, Below w.heap.size w W → W.cell? ⟨S, 0, none⟩ = some (.slice (some ⟨g, 0, none⟩) L.length c) ∧ URow W g L) (W : World) (hW : ChgU w W z f t bf bc []) :
    Calls Try.prog 139 #[.pointer (some ⟨S, 0, none⟩), .func (.func 142) #[] #[.pointer (some ⟨w.heap.size, 0, none⟩), .pointer (some ⟨z + 2, 0, none⟩), .pointer (some ⟨w.heap.size + 1, 0, none⟩)]] W
      fun e w' => (∃ v, e = .returned v) ∧ ChgU w w' z f t bf bc ((runsU L).foldl (stepU (f, t) fn) []) := by
  refine (runs_any (S := S) (g := g) (c := c) hlen 142 #[.pointer (some ⟨w.heap.size, 0, none⟩), .pointer (some ⟨z + 2, 0, none⟩), .pointer (some ⟨w.heap.size + 1, 0, none⟩)]
    (fun k W => ∃ l, ChgU w W z f t bf bc l ∧ l.length ≤ 3 * k ∧ ((runsU L).drop k).foldl (stepU (f, t) fn) l = (runsU L).foldl (stepU (f, t) fn) []) (fun _ => False) W
    (enters_of Try.func142 (by kernel_rfl) rfl) ⟨[], hW, by simp, rfl⟩ (fun k W' ⟨l, hc, _⟩ => hU W' hc.bel) (fun k W' W'' ⟨l, hc, hl, he⟩ hb => ⟨l, hc.below hb, hl, he⟩) ?_).mono ?_
  · intro k W' hk ⟨l, hc, hl, he⟩
    refine (visit_any hc (by omega) fn hE hF (L.getD k (0, 0)).1 (toU L k) (L.getD k (0, 0)).2).mono ?_
    rintro e W'' ⟨rfl, hc2⟩
    refine ⟨true, rfl, fun _ => ⟨_, hc2, ?_, ?_⟩, fun h => by cases h⟩
    · have := stepU_len (f, t) fn l ((L.getD k (0, 0)).1, toU L k, (L.getD k (0, 0)).2); omega
    · rw [runsU_drop hk] at he
      exact he
  · rintro e W' ⟨hv, hx | hx⟩
    · obtain ⟨l, hc, _, he⟩ := hx
      rw [runsU_end] at he
      exact ⟨hv, by rw [← he]; exact hc⟩
    · exact hx.elim
/-- the row of S's steps does not lie in block b -/
def RowNe (w : World) (S b : Nat) : Prop := ∃ g n c, w.heap[S]? = some (.cells #[.slice (some ⟨g, 0, none⟩) n c] 162 (0, 0)) ∧ g ≠ b
/-- of the blocks that were there just S may have turned, and its row lies in none of them, but where it lay -/
structure FrU (S : Nat) (w w' : World) : Prop extends Fr (fun b => b = S) w w' where
  row : ∀ b, b < w.heap.size → RowNe w S b → RowNe w' S b
theorem RowNe.below {w w' : World} {S b : Nat} (h : RowNe w S b) (hb : Below w.heap.size w w') : RowNe w' S b := by
  obtain ⟨g, n, c, h1, h2⟩ := h
  exact ⟨g, n, c, (hb.block _ (Array.getElem?_eq_some_iff.1 h1).1).trans h1, h2⟩
theorem FrU.of_below {S : Nat} {w w' : World} (h : Below w.heap.size w w') : FrU S w w' := ⟨Fr.of_below h, fun b _ hr => hr.below h⟩
theorem FrU.refl (S : Nat) (w : World) : FrU S w w := ⟨Fr.refl _ w, fun _ _ h => h⟩
theorem FrU.after {S : Nat} {w W w' : World} (hb : Below w.heap.size w W) (h : FrU S W w') : FrU S w w' :=
  ⟨Fr.trans (Fr.of_below hb) h.toFr fun j hj => .inl hj, fun b hlt hr => h.row b (Nat.lt_of_lt_of_le hlt hb.size) (hr.below hb)⟩
theorem USt.rowNe {w : World} {S : Nat} {L : List (Int × Int)} (h : USt w S L) {b : Nat} (hb : w.heap.size ≤ b) : RowNe w S b := by
  obtain ⟨g, c, hg, hS, hc, hs, hr⟩ := h.at_
  exact ⟨g, _, c, hS, by omega⟩
/-- levels stay where a block is written that is neither theirs nor their row's -/
theorem USt.wrote {w w' : World} {S B : Nat} {L : List (Int × Int)} (h : USt w S L) (hn : RowNe w S B) (hSB : S ≠ B) (hk : ∀ k, k ≠ B → w'.heap[k]? = w.heap[k]?) (hs : w.heap.size ≤ w'.heap.size) : USt w' S L ∧ RowNe w' S B := by
  obtain ⟨g, c, hg, hS, hc, hs', hr⟩ := h.at_
  obtain ⟨g2, n2, c2, h1, h2⟩ := hn
  rw [hS] at h1
  have e : g = g2 := by
    have := Option.some.inj h1
    injection this with e1
    have e2 : (Value.slice (some ⟨g, 0, none⟩) L.length c) = .slice (some ⟨g2, 0, none⟩) n2 c2 := by simpa using e1
    injection e2 with e3
    simpa using e3
  subst e
  exact ⟨⟨⟨g, c, hg, (hk S hSB).trans hS, hc, Nat.lt_of_lt_of_le hs' hs, hr.mono (hk g h2)⟩, h.pos, h.len⟩, ⟨g, _, c, (hk S hSB).trans hS, h2⟩⟩
set_option maxRecDepth 100000 in
set_option maxHeartbeats 8000000 in
theorem change_any {w : World} {S : Nat} {L : List (Int × Int)} (h : USt w S L) (f t : Int) (bf : FuncId) (bc : Array Value) (fn : Int → Int) (hE : Go.Proofs.Enters Try.prog bf)
    (hF : ∀ a W', Below w.heap.size w W' → Calls Try.prog bf (#[.int .i64 a] ++ bc) W' fun e w' => e = .returned (.int .i64 (fn a)) ∧ W' = w')
    (hlen' : (changeU fn L (f, t)).length ≤ 1099511627776) (hpos : 0 < (changeU fn L (f, t)).length) :
    Calls Try.prog 103 #[.pointer (some ⟨S, 0, none⟩), .agg #[.int .i64 f, .int .i64 t], .func (.func bf) #[] bc] w
      fun e w' => e = .returned (.int .i64 0) ∧ USt w' S (changeU fn L (f, t)) ∧ FrU S w w' := by
  obtain ⟨g, c, hg, hS, hc, hs, hr⟩ := h.at_
  have hSl := (Array.getElem?_eq_some_iff.1 hS).1
  have hlen := h.len
  have hU : ∀ W, Below w.heap.size w W → W.cell? ⟨S, 0, none⟩ = some (.slice (some ⟨g, 0, none⟩) L.length c) ∧ URow W g L := fun W hb => ⟨cell_of_block (o := 0) ((hb.block _ hSl).trans hS) rfl, hr.mono (hb.block _ hs)⟩
  have KR := Lib.hid (fun z W hW => runs_change (z := z) hlen f t bf bc fn hE hF hU W hW)
  have KT := Lib.hid (fun W (hb : Below w.heap.size w W) => there_any (h.below hb))
  have KE := Lib.hid (fun W => empty_any f t W)
  have HH := Lib.hid h
  have HU := Lib.hid hU
  have HS := Lib.hid hS
  clear hF hE hg hc hs hr hU hS h
  obtain ⟨res, hres⟩ : ∃ r, r = changeU fn L (f, t) := ⟨_, rfl⟩
  rw [← hres] at hlen' hpos ⊢
  have HR := Lib.hid hres
  clear hres
  have hb1 := below_alloc (Below.refl _ w) (.cells #[.int .i64 f, .int .i64 t] 39)
  have hb2 := below_alloc hb1 (.cells #[.func (.func bf) #[] bc] 160)
  have HB2 := Lib.hid hb2
  have n1 := World.alloc_heap_new w (.cells #[.int .i64 f, .int .i64 t] 39)
  have n2 := World.alloc_heap_new (w.alloc (.cells #[.int .i64 f, .int .i64 t] 39)) (.cells #[.func (.func bf) #[] bc] 160)
  rw [show (w.alloc (.cells #[.int .i64 f, .int .i64 t] 39)).heap.size = w.heap.size + 1 by simp] at n2
  have n1' := (((below_alloc (Below.refl _ (w.alloc (.cells #[.int .i64 f, .int .i64 t] 39))) (.cells #[.func (.func bf) #[] bc] 160)).block _ (by simp)).trans n1)
  have hs2 : ((w.alloc (.cells #[.int .i64 f, .int .i64 t] 39)).alloc (.cells #[.func (.func bf) #[] bc] 160)).heap.size = w.heap.size + 1 + 1 := by simp
  have N1 := Lib.hid n1'
  have N2 := Lib.hid n2
  clear n1 n2 n1' hb1 hb2
  go_enter Try.func103, Try.ntmps103
  go_upto_region 1 with fail
  generalize (w.alloc (.cells #[.int .i64 f, .int .i64 t] 39)).alloc (.cells #[.func (.func bf) #[] bc] 160) = W2 at *
  have s0 := cell_of_block (o := 0) N1.out rfl
  have s1 := cell_of_block (o := 1) N1.out rfl
  go_wp2_with fail
  refine (KT.out _ HB2.out).mono ?_
  rintro e w' ⟨rfl, rfl⟩
  go_wp2_with fail
  refine (KE.out _).mono ?_
  rintro e W3 ⟨rfl, hb3⟩
  have HB3 := Lib.hid (below_next HB2.out hb3)
  have M1 := Lib.hid ((hb3.block _ (Array.getElem?_eq_some_iff.1 N1.out).1).trans N1.out)
  have M2 := Lib.hid ((hb3.block _ (Array.getElem?_eq_some_iff.1 N2.out).1).trans N2.out)
  have hz2 : w.heap.size + 1 < W3.heap.size := by have := hb3.size; omega
  clear hb3 N1 N2 s0 s1 hs2 HB2
  cases hem : decide (clampI t ≤ clampI f) with
  | true =>
    have E := Lib.hid (show res = L by rw [HR.out]; unfold changeU; exact if_pos (of_decide_eq_true hem))
    go_wp2_with fail
    go_ret
    exact ⟨rfl, by rw [E.out]; exact HH.out.below HB3.out, FrU.of_below HB3.out⟩
  | false =>
    have E := Lib.hid (show res = (runsU L).foldl (stepU (f, t) fn) [] by rw [HR.out]; unfold changeU; exact if_neg (of_decide_eq_false hem))
    have hw2 : IntKind.i64.wrap ((L.length : Int) + 2) = ((L.length + 2 : Nat) : Int) := by rw [IntKind.wrap_i64]; omega
    have cS := (HU.out W3 HB3.out).1
    clear hem
    go_upto_region 5 with fail
    refine wp_region_lit ?_
    refine wpList_yield (w' := W3) (v := .pointer (some ⟨S, 0, none⟩)) rfl (by first | (go_simp; done) | (go_simp; rfl)) ?_
    refine wpList_yield (w' := W3) (v := .pointer (some ⟨S, 0, none⟩)) rfl (by first | (go_simp; done) | (go_simp; rfl)) ?_
    refine wpList_yield (w' := W3) (v := .pointer (some ⟨S, 0, none⟩)) rfl (by first | (go_simp; done) | (go_simp; rfl)) ?_
    refine wpList_yield (w' := W3) (v := .slice (some ⟨g, 0, none⟩) L.length c) rfl (by first | (go_simp; done) | (go_simp; rfl)) ?_
    refine wpList_yield (w' := W3) (v := .int .i64 (L.length : Int)) rfl (by first | (go_simp; done) | (go_simp; rfl)) ?_
    refine wpList_yield (w' := W3) (v := .int .i64 ((L.length + 2 : Nat) : Int)) rfl (by rw [← hw2]; first | (go_simp; done) | (go_simp; rfl)) ?_
    refine wpList_make_step rfl _ _ rfl (L.length + 2) (by go_simp) (by go_simp) (by omega) ?_
    intro cs ho
    have hb4 := below_alloc (Below.refl _ W3) (.cells cs 140)
    obtain ⟨z, hz⟩ : ∃ z, z = W3.heap.size := ⟨_, rfl⟩
    have hz4 : (W3.alloc (.cells cs 140)).heap.size = z + 1 := by rw [hz]; simp
    have HB4 := Lib.hid (below_next HB3.out hb4)
    have Q1 := Lib.hid ((hb4.block _ (Array.getElem?_eq_some_iff.1 M1.out).1).trans M1.out)
    have Q2 := Lib.hid ((hb4.block _ (Array.getElem?_eq_some_iff.1 M2.out).1).trans M2.out)
    rw [← hz] at ho hz2 ⊢
    clear hz hb4 HB3 M1 M2 cS
    generalize W3.alloc (.cells cs 140) = W4 at *
    go_upto_region 6 with fail
    have hb5 := below_alloc (Below.refl _ W4) (.cells #[.slice (some ⟨z, 0, none⟩) 0 (L.length + 2)] 135)
    have n5 := World.alloc_heap_new W4 (.cells #[.slice (some ⟨z, 0, none⟩) 0 (L.length + 2)] 135)
    rw [hz4] at n5
    have hz5 : (W4.alloc (.cells #[.slice (some ⟨z, 0, none⟩) 0 (L.length + 2)] 135)).heap.size = z + 1 + 1 := by simp [hz4]
    have ho5 := ho.below hb5
    have HB5 := Lib.hid (below_next HB4.out hb5)
    have R1 := Lib.hid ((hb5.block _ (Array.getElem?_eq_some_iff.1 Q1.out).1).trans Q1.out)
    have R2 := Lib.hid ((hb5.block _ (Array.getElem?_eq_some_iff.1 Q2.out).1).trans Q2.out)
    have N5 := Lib.hid n5
    clear hb5 n5 ho HB4 Q1 Q2 hz4
    generalize W4.alloc (.cells #[.slice (some ⟨z, 0, none⟩) 0 (L.length + 2)] 135) = W5 at *
    refine wp_region_lit ?_
    refine wpList_yield (w' := W5) (v := .func (.func 141) #[] #[.pointer (some ⟨z + 1, 0, none⟩)]) rfl (by first | (go_simp; done) | (go_simp; rfl)) ?_
    refine wpList_yield (w' := W5.alloc (.cells #[.nilFunc] 201)) (v := .pointer (some ⟨W5.heap.size, 0, none⟩)) rfl (by first | (go_simp; done) | (go_simp; rfl)) ?_
    have hb6 := below_alloc (Below.refl _ W5) (.cells #[.nilFunc] 201)
    have n6 := World.alloc_heap_new W5 (.cells #[.nilFunc] 201)
    rw [hz5] at n6 ⊢
    have ho6 := ho5.below hb6
    have HB6 := Lib.hid (below_next HB5.out hb6)
    have S1 := Lib.hid ((hb6.block _ (Array.getElem?_eq_some_iff.1 R1.out).1).trans R1.out)
    have S2 := Lib.hid ((hb6.block _ (Array.getElem?_eq_some_iff.1 R2.out).1).trans R2.out)
    have S5 := Lib.hid ((hb6.block _ (Array.getElem?_eq_some_iff.1 N5.out).1).trans N5.out)
    clear hb6 HB5 R1 R2 N5 ho5
    generalize W5.alloc (.cells #[.nilFunc] 201) = W6 at *
    have y0 := cell_of_block (o := 0) n6 rfl
    have z0 := free_of_block 0 n6
    have hw := (wrote_refl n6).set 0 (.func (.func 141) #[] #[.pointer (some ⟨z + 1, 0, none⟩)])
    have hCh : ChgU w (W6.setCell ⟨z + 1 + 1, 0, none⟩ (.func (.func 141) #[] #[.pointer (some ⟨z + 1, 0, none⟩)])) z f t bf bc [] :=
      ⟨(hw.rest _ (by omega)).trans S1.out, (hw.rest _ (by omega)).trans S2.out, ⟨_, (hw.rest _ (by omega)).trans S5.out, ho6.blockOf (fun k e => by have e' : z = k := Option.some.inj e; exact hw.rest k (by omega)), fun k e => by have e' : z = k := Option.some.inj e; exact .inl e'.symm⟩, hw.there, hw.below HB6.out (by omega), hz2⟩
    have HCH := Lib.hid hCh
    clear hCh hw ho6
    go_upto_region 7 with fail
    clear y0 z0 n6
    generalize W6.setCell ⟨z + 1 + 1, 0, none⟩ (.func (.func 141) #[] #[.pointer (some ⟨z + 1, 0, none⟩)]) = W7 at *
    go_wp2_with fail
    refine (KR.out z _ HCH.out).mono ?_
    rintro e W8 ⟨⟨v8, rfl⟩, hc8⟩
    rw [← E.out] at hc8
    obtain ⟨v, hv, hov, hvk⟩ := hc8.row
    obtain ⟨ad, cc, rfl, hcc, had⟩ := hov.form
    obtain ⟨g2, rfl, hg2, hg3⟩ := had hpos
    have S8 := Lib.hid ((hc8.bel.block _ hSl).trans HS.out)
    have v0 := cell_of_block (o := 0) hv rfl
    have c80 := cell_of_block (o := 0) S8.out rfl
    have f80 := free_of_block 0 S8.out
    have hwS := (wrote_refl S8.out).set 0 (.slice (some ⟨g2, 0, none⟩) res.length cc)
    have HFIN := Lib.hid (show USt (W8.setCell ⟨S, 0, none⟩ (.slice (some ⟨g2, 0, none⟩) res.length cc)) S res ∧ FrU S w (W8.setCell ⟨S, 0, none⟩ (.slice (some ⟨g2, 0, none⟩) res.length cc)) from by
      refine ⟨⟨⟨g2, cc, by omega, hwS.there, hcc, by rw [hwS.size]; exact hg3, hov.row.mono (hwS.rest _ (by omega))⟩, hpos, hlen'⟩, Fr.set (F := fun b => b = S) (Fr.of_below hc8.bel) (show (fun b => b = S) S from rfl) 0 _, fun b hb _ => ⟨g2, _, cc, hwS.there, by omega⟩⟩)
    clear hwS hv hov hvk hc8 had
    go_wp2_with fail
    go_ret
    exact ⟨rfl, HFIN.out.1, HFIN.out.2⟩
end Go.Proofs.Ytbhnjmdlagjfbaa
namespace Go.Proofs.Ytbhnjmdlagjfbaa
set_option linter.unusedVariables false
open Go.ChangeShapes Go.WideShapes Go.ChangeAt Go.RowKit
attribute [local go_sem ↓] Go.wp_at_zero Go.wp_at_succ comesTo_value_eq comesTo_skip_eq comesTo_enter_eq

/-- by how much a level may change at most -/
def byU (n : Int) : Int := if n < -2000000 then -2000000 else if 2000000 < n then 2000000 else n
def addF (by_ : Int) (a : Int) : Int := boundU (IntKind.i64.wrap (a + by_))
theorem add1_any {W : World} {b : Nat} {n : Int} (hc : W.cell? ⟨b, 0, none⟩ = some (.int .i64 n)) (a : Int) : Calls Try.prog 104 #[.int .i64 a, .pointer (some ⟨b, 0, none⟩)] W fun e w' => e = .returned (.int .i64 (addF n a)) ∧ W = w' := by
  have KB := Lib.hid (bound_any (IntKind.i64.wrap (a + n)) W)
  have E := Lib.hid (show addF n a = boundU (IntKind.i64.wrap (a + n)) from rfl)
  generalize hx : IntKind.i64.wrap (a + n) = x at *
  go_enter Try.func104, Try.ntmps104
  go_wp2_with (go_at_call 100; ((with_reducible refine KB.out.mono ?_)); rintro e w' ⟨rfl, rfl⟩)
  go_ret
  exact ⟨by rw [E.out]; rfl, rfl⟩
theorem set1_any {W : World} {b : Nat} {n : Int} (hc : W.cell? ⟨b, 0, none⟩ = some (.int .i64 n)) (a : Int) : Calls Try.prog 111 #[.int .i64 a, .pointer (some ⟨b, 0, none⟩)] W fun e w' => e = .returned (.int .i64 (boundU n)) ∧ W = w' := by
  have KB := Lib.hid (bound_any n W)
  go_enter Try.func111, Try.ntmps111
  go_wp2_with (go_at_call 100; ((with_reducible refine KB.out.mono ?_)); rintro e w' ⟨rfl, rfl⟩)
  go_ret
  exact ⟨rfl, rfl⟩
theorem Fr.after {F : Nat → Prop} {w W w' : World} (hb : Below w.heap.size w W) (h : Fr F W w') : Fr F w w' := Fr.trans (Fr.of_below hb) h fun j hj => .inl hj
set_option maxHeartbeats 1000000 in
theorem set_any {w : World} {S : Nat} {L : List (Int × Int)} (h : USt w S L) (f t n : Int) (hlen' : (changeU (fun _ => boundU n) L (f, t)).length ≤ 1099511627776) (hpos : 0 < (changeU (fun _ => boundU n) L (f, t)).length) :
    Calls Try.prog 52 #[.pointer (some ⟨S, 0, none⟩), .agg #[.int .i64 f, .int .i64 t], .int .i64 n] w fun e w' => e = .returned (.int .i64 0) ∧ USt w' S (changeU (fun _ => boundU n) L (f, t)) ∧ FrU S w w' := by
  have HB := below_alloc (below_alloc (Below.refl _ w) (.cells #[.int .i64 f, .int .i64 t] 39)) (.cells #[.int .i64 n] 3)
  have n2 := World.alloc_heap_new (w.alloc (.cells #[.int .i64 f, .int .i64 t] 39)) (.cells #[.int .i64 n] 3)
  rw [show (w.alloc (.cells #[.int .i64 f, .int .i64 t] 39)).heap.size = w.heap.size + 1 by simp] at n2
  have n1 := ((below_alloc (Below.refl _ (w.alloc (.cells #[.int .i64 f, .int .i64 t] 39))) (.cells #[.int .i64 n] 3)).block w.heap.size (by simp)).trans (World.alloc_heap_new w (.cells #[.int .i64 f, .int .i64 t] 39))
  have H := h.below HB
  clear h
  go_enter Try.func52, Try.ntmps52
  go_upto_region 1 with fail
  generalize (w.alloc (.cells #[.int .i64 f, .int .i64 t] 39)).alloc (.cells #[.int .i64 n] 3) = W at *
  have s0 := cell_of_block (o := 0) n1 rfl
  have s1 := cell_of_block (o := 1) n1 rfl
  have hlt := (Array.getElem?_eq_some_iff.1 n2).1
  have K := Lib.hid (change_any H f t 111 #[.pointer (some ⟨w.heap.size + 1, 0, none⟩)] (fun _ => boundU n) (enters_of Try.func111 (by kernel_rfl) rfl)
    (fun a W' hb => set1_any (cell_of_block (o := 0) ((hb.block _ hlt).trans n2) rfl) a) hlen' hpos)
  clear n1 n2 H hlt
  go_wp2_with fail
  refine K.out.mono ?_
  rintro e w' ⟨rfl, hu, hf⟩
  have HX := Lib.hid (And.intro hu hf)
  clear hu hf
  go_wp2_with fail
  go_ret
  exact ⟨rfl, HX.out.1, FrU.after HB HX.out.2⟩
set_option maxHeartbeats 1000000 in
theorem add_u {w : World} {S : Nat} {L : List (Int × Int)} (h : USt w S L) (f t n : Int) (hlen' : (changeU (addF (byU n)) L (f, t)).length ≤ 1099511627776) (hpos : 0 < (changeU (addF (byU n)) L (f, t)).length) :
    Calls Try.prog 44 #[.pointer (some ⟨S, 0, none⟩), .agg #[.int .i64 f, .int .i64 t], .int .i64 n] w fun e w' => e = .returned (.int .i64 0) ∧ USt w' S (changeU (addF (byU n)) L (f, t)) ∧ FrU S w w' := by
  have HB := below_alloc (below_alloc (Below.refl _ w) (.cells #[.int .i64 f, .int .i64 t] 39)) (.cells #[.int .i64 n] 3)
  have n2 := World.alloc_heap_new (w.alloc (.cells #[.int .i64 f, .int .i64 t] 39)) (.cells #[.int .i64 n] 3)
  rw [show (w.alloc (.cells #[.int .i64 f, .int .i64 t] 39)).heap.size = w.heap.size + 1 by simp] at n2
  have n1 := ((below_alloc (Below.refl _ (w.alloc (.cells #[.int .i64 f, .int .i64 t] 39))) (.cells #[.int .i64 n] 3)).block w.heap.size (by simp)).trans (World.alloc_heap_new w (.cells #[.int .i64 f, .int .i64 t] 39))
  have hm : (n < -2000000 ∧ byU n = -2000000) ∨ (-2000000 ≤ n ∧ 2000000 < n ∧ byU n = 2000000) ∨ (-2000000 ≤ n ∧ n ≤ 2000000 ∧ byU n = n) := by
    unfold byU
    by_cases h1 : n < -2000000
    · exact .inl ⟨h1, if_pos h1⟩
    · by_cases h2 : 2000000 < n
      · exact .inr (.inl ⟨by omega, h2, by rw [if_neg h1, if_pos h2]⟩)
      · exact .inr (.inr ⟨by omega, by omega, by rw [if_neg h1, if_neg h2]⟩)
  obtain ⟨m, hmm⟩ : ∃ m, m = byU n := ⟨_, rfl⟩
  rw [← hmm] at hm hlen' hpos ⊢
  clear hmm
  have H0 := Lib.hid h
  clear h
  go_enter Try.func44, Try.ntmps44
  go_upto_region 1 with fail
  generalize (w.alloc (.cells #[.int .i64 f, .int .i64 t] 39)).alloc (.cells #[.int .i64 n] 3) = W at *
  have hw := (wrote_refl n2).set 0 (.int .i64 m)
  have hbel := hw.below HB (by omega)
  have b0 := cell_of_block (o := 0) n2 rfl
  have z0 := free_of_block 0 n2
  have m1 := (hw.rest w.heap.size (by omega)).trans n1
  have m2 := hw.there
  have hS : USt (W.setCell ⟨w.heap.size + 1, 0, none⟩ (.int .i64 m)) S L := H0.out.below hbel
  clear n1 n2 hw
  rcases hm with ⟨h1, rfl⟩ | ⟨h1, h2, rfl⟩ | ⟨h1, h2, rfl⟩
  all_goals (
    go_upto_region 2 with fail
    clear b0 z0
    generalize W.setCell ⟨w.heap.size + 1, 0, none⟩ (.int .i64 _) = W9 at *
    have s0 := cell_of_block (o := 0) m1 rfl
    have s1 := cell_of_block (o := 1) m1 rfl
    have hlt := (Array.getElem?_eq_some_iff.1 m2).1
    have K := Lib.hid (change_any hS f t 104 #[.pointer (some ⟨w.heap.size + 1, 0, none⟩)] (addF _) (enters_of Try.func104 (by kernel_rfl) rfl)
      (fun a W' hb => add1_any (cell_of_block (o := 0) ((hb.block _ hlt).trans m2) rfl) a) hlen' hpos)
    clear m1 m2 hS hlt
    go_wp2_with fail
    refine K.out.mono ?_
    rintro e w' ⟨rfl, hu, hf⟩
    have HX := Lib.hid (And.intro hu hf)
    clear hu hf
    go_wp2_with fail
    go_ret
    exact ⟨rfl, HX.out.1, FrU.after hbel HX.out.2⟩)
/-- one level at all times -/
theorem flat_row (n : Int) (w : World) : Calls Try.prog 42 #[.int .i64 n] w fun e w' => ∃ S, e = .returned (.pointer (some ⟨S, 0, none⟩)) ∧ w.heap.size ≤ S ∧ USt w' S [(0, boundU n)] ∧ Below w.heap.size w w' ∧ ∀ b, b < w.heap.size → RowNe w' S b := by
  have KB := Lib.hid (bound_any n w)
  generalize boundU n = b at *
  go_enter Try.func42, Try.ntmps42
  go_wp2_with (go_at_call 100; ((with_reducible refine KB.out.mono ?_)); rintro e w' ⟨rfl, rfl⟩)
  have hb1 := below_alloc (Below.refl _ w) (.cells #[.int .i64 0, .int .i64 b] 140)
  have hb2 := below_alloc (Below.refl _ (w.alloc (.cells #[.int .i64 0, .int .i64 b] 140))) (.cells #[.slice (some ⟨w.heap.size, 0, none⟩) 1 1] 162)
  have n1 := (hb2.block w.heap.size (by simp)).trans (World.alloc_heap_new w (.cells #[.int .i64 0, .int .i64 b] 140))
  have n2 := World.alloc_heap_new (w.alloc (.cells #[.int .i64 0, .int .i64 b] 140)) (.cells #[.slice (some ⟨w.heap.size, 0, none⟩) 1 1] 162)
  have hs1 : (w.alloc (.cells #[.int .i64 0, .int .i64 b] 140)).heap.size = w.heap.size + 1 := by simp
  rw [hs1] at n2
  go_ret
  refine ⟨w.heap.size + 1, rfl, by omega, ⟨⟨w.heap.size, 1, by omega, n2, by simp, by have := (Array.getElem?_eq_some_iff.1 n1).1; exact this, fun k hk => ?_⟩, by simp, by simp⟩, below_next hb1 hb2, fun b hb => ⟨w.heap.size, 1, 1, n2, by omega⟩⟩
  obtain rfl : k = 0 := by simpa using hk
  exact ⟨cell_of_block (o := 0) n1 rfl, cell_of_block (o := 1) n1 rfl⟩
theorem flat_any (n : Int) (w : World) : Calls Try.prog 42 #[.int .i64 n] w fun e w' => ∃ S, e = .returned (.pointer (some ⟨S, 0, none⟩)) ∧ w.heap.size ≤ S ∧ USt w' S [(0, boundU n)] ∧ Below w.heap.size w w' :=
  (flat_row n w).mono fun _ _ ⟨S, h1, h2, h3, h4, _⟩ => ⟨S, h1, h2, h3, h4⟩
end Go.Proofs.Ytbhnjmdlagjfbaa
namespace Go.Proofs.Ytbhnjmdlagjfbaa
set_option linter.unusedVariables false
open Go.ChangeShapes Go.WideShapes Go.ChangeAt Go.RowKit
attribute [local go_sem ↓] Go.wp_at_zero Go.wp_at_succ comesTo_value_eq comesTo_skip_eq comesTo_enter_eq

/-- a sum behind one run more, as the machine reckons it -/
def areaStep (t : Int × Int) (s : Int) (r : Int × Int × Int) : Int :=
  wrap64 (s + wrap64 (wrap64 ((cutI (r.1, r.2.1) t).2 - (cutI (r.1, r.2.1) t).1) * maxU r.2.2 0))
def areaU (L : List (Int × Int)) (t : Int × Int) : Int := minU ((runsU L).foldl (areaStep t) 0) 1099511627776
structure ArU (w W : World) (f t s : Int) : Prop where
  span : W.heap[w.heap.size]? = some (.cells #[.int .i64 f, .int .i64 t] 39 (0, 0))
  sum : W.heap[w.heap.size + 1]? = some (.cells #[.int .i64 s] 37 (0, 0))
  bel : Below w.heap.size w W
theorem ArU.below {w W W' : World} {f t s : Int} (h : ArU w W f t s) (hb : Below W.heap.size W W') : ArU w W' f t s :=
  ⟨(hb.block _ (Array.getElem?_eq_some_iff.1 h.span).1).trans h.span, (hb.block _ (Array.getElem?_eq_some_iff.1 h.sum).1).trans h.sum, below_next h.bel hb⟩
theorem ArU.set {w W : World} {f t s : Int} (h : ArU w W f t s) (x : Int) : ArU w (W.setCell ⟨w.heap.size + 1, 0, none⟩ (.int .i64 x)) f t x := by
  have hw := (wrote_refl h.sum).set 0 (.int .i64 x)
  exact ⟨(hw.rest _ (by omega)).trans h.span, hw.there, hw.below h.bel (by omega)⟩
end Go.Proofs.Ytbhnjmdlagjfbaa
namespace Go.Proofs.Ytbhnjmdlagjfbaa
set_option linter.unusedVariables false
open Go.ChangeShapes Go.WideShapes Go.ChangeAt Go.RowKit
attribute [local go_sem ↓] Go.wp_at_zero Go.wp_at_succ comesTo_value_eq comesTo_skip_eq comesTo_enter_eq

theorem OwnU.made (w : World) : OwnU (w.alloc (.cells #[] 140)) w.heap.size (.slice (some ⟨w.heap.size, 0, none⟩) 0 0) [] :=
  ⟨rfl, .inr ⟨w.heap.size, 0, #[], rfl, Nat.le_refl _, World.alloc_heap_new w _, Nat.le_refl _, by unfold maxLen; omega, rfl, rfl⟩⟩
section
variable {ops : Array Oper} {rest : List Oper} {o : Oper} {a : Act} {w : World} {Q : Exit → Act → World → Prop}
/-- APPEND of a row of steps -/
theorem wpList_append_steps (hgd : o.guard = none) (s x : Operand)
    (ho : o.op = .call { callee := .builtin .append, args := #[s, x], argTypes := #[135, 135] })
    (B : Nat) (v : Value) (l m : List (Int × Int)) (hs : a.eval s = v) (hown : OwnU w B v l) (g c : Nat) (hx : a.eval x = .slice (some ⟨g, 0, none⟩) m.length c) (hr : URow w g m) (h63 : l.length + m.length ≤ 4398046511104) (hB : B ≤ w.heap.size)
    (h : ∀ (v' : Value) (w' : World), OwnU w' B v' (l ++ m) → w.grownBy w' v.ownBlock → (v'.ownBlock = v.ownBlock ∨ v'.ownBlock = some w.heap.size) → wpList Try.prog ops Q rest (a.put o.dst v') w') : wpList Try.prog ops Q (o :: rest) a w := by
  obtain ⟨i0, hi, hz0, hz1, hz2⟩ := info_parts3 info_step
  refine wpList_append_own_at w hgd s x 135 ho B 140 i0 (.agg #[.int .i64 0, .int .i64 0]) 2 16 Try.underlying135 hi hz0 hz1 hz2 rfl (by decide) v l.length (flatU l) hs hown
      ⟨g, 0, none⟩ m.length c (flatU m) hx (flatU_length m) (fun j u hj => ?_) (fun u hu => flatU_one _ u hu) (by unfold maxLen; omega) (by omega) hB (fun v' w' h1 h2 _ h4 => ?_)
  · have hlt : j < (flatU m).length := by
      rcases Nat.lt_or_ge j (flatU m).length with h | h
      · exact h
      · rw [List.getElem?_eq_none h] at hj; cases hj
    rw [flatU_length] at hlt
    obtain ⟨k, hk⟩ : ∃ k, j = k * 2 ∨ j = k * 2 + 1 := ⟨j / 2, by omega⟩
    have hkl : k < m.length := by omega
    have h1 := flatU_get m k hkl
    have h2 := hr k hkl
    have ha : ∀ i : Nat, (⟨g, 0, none⟩ : Addr).add i = ⟨g, i, none⟩ := fun i => by
      unfold Addr.add
      by_cases h : i = 0
      · simp [h]
      · simp [h]
    rw [ha]
    rcases hk with rfl | rfl
    · rw [h1.1] at hj; rw [← hj]; exact h2.1
    · rw [h1.2] at hj; rw [← hj]; exact h2.2
  · exact h v' w' (by unfold OwnU; rw [List.length_append, flatU_append]; exact h1) h2 h4
end
set_option maxRecDepth 100000 in
set_option maxHeartbeats 1000000 in
theorem clone_row {w : World} {g c : Nat} {L : List (Int × Int)} (hr : URow w g L) (hg : g < w.heap.size) (hp : 0 < L.length) (hl : L.length ≤ 1099511627776) :
    Calls Try.prog 121 #[.slice (some ⟨g, 0, none⟩) L.length c] w fun e w' => ∃ g' c', e = .returned (.slice (some ⟨g', 0, none⟩) L.length c') ∧ w.heap.size ≤ g' ∧ g' < w'.heap.size ∧ L.length ≤ c' ∧ URow w' g' L ∧ Below w.heap.size w w' := by
  have hne : ∀ W, Sem.run Try.prog (binOp .eql 135 (.slice (some ⟨g, 0, none⟩) L.length c) (.slice none 0 0)) W = .ok (.bool false) W := fun W => by kernel_rfl
  go_enter Try.func121, Try.ntmps121
  go_upto_region 3 with fail
  refine wp_region_lit ?_
  refine wpList_yield (w' := w.alloc (.cells #[] 140)) (v := .slice (some ⟨w.heap.size, 0, none⟩) 0 0) rfl (by first | (go_simp; done) | (go_simp; rfl)) ?_
  have hb := below_alloc (Below.refl _ w) (.cells #[] 140)
  have hO := OwnU.made w
  have hr1 := hr.mono (hb.block _ hg)
  have hs1 : w.heap.size < (w.alloc (.cells #[] 140)).heap.size := by simp
  generalize w.alloc (.cells #[] 140) = W1 at *
  refine wpList_yield (w' := W1) (v := .slice (some ⟨g, 0, none⟩) L.length c) rfl (by first | (go_simp; done) | (go_simp; rfl)) ?_
  refine wpList_append_steps rfl _ _ rfl w.heap.size (.slice (some ⟨w.heap.size, 0, none⟩) 0 0) [] L (by go_simp) hO g c (by go_simp) hr1 (by simp; omega) (by omega) ?_
  intro v' W2 ho' hg2 hn
  rw [List.nil_append] at ho'
  obtain ⟨ad, c', rfl, hc', had⟩ := ho'.form
  obtain ⟨g', rfl, h1, h2⟩ := had hp
  have hb2 : Below w.heap.size w W2 := hb.grown hg2 hb.size (fun k e => by have e' : w.heap.size = k := Option.some.inj e; omega)
  have hrow := ho'.row
  go_wp2_with fail
  go_ret
  exact ⟨g', c', rfl, h1, h2, hc', hrow, hb2⟩
set_option maxRecDepth 100000 in
set_option maxHeartbeats 1000000 in
theorem list_any {w : World} {S : Nat} {L : List (Int × Int)} (h : USt w S L) :
    Calls Try.prog 76 #[.pointer (some ⟨S, 0, none⟩)] w fun e w' => ∃ g' c', e = .returned (.slice (some ⟨g', 0, none⟩) L.length c') ∧ w.heap.size ≤ g' ∧ g' < w'.heap.size ∧ L.length ≤ c' ∧ URow w' g' L ∧ Below w.heap.size w w' := by
  obtain ⟨g, c, hg, hS, hc, hs, hr⟩ := h.at_
  have c0 := cell_of_block (o := 0) hS rfl
  have KC := Lib.hid (clone_row (c := c) hr hs h.pos h.len)
  have KT := Lib.hid (there_any h)
  clear h hr hS
  go_enter Try.func76, Try.ntmps76
  go_wp2_with fail
  refine KT.out.mono ?_
  rintro e w' ⟨rfl, rfl⟩
  go_wp2_with fail
  refine KC.out.mono ?_
  rintro e w1 ⟨g', c', rfl, h1, h2, h3, h4, h5⟩
  have HX := Lib.hid (And.intro h4 h5)
  clear h4 h5
  go_wp2_with fail
  go_ret
  exact ⟨g', c', rfl, h1, h2, h3, HX.out.1, HX.out.2⟩
set_option maxRecDepth 100000 in
set_option maxHeartbeats 1000000 in
theorem clone_any {w : World} {S : Nat} {L : List (Int × Int)} (h : USt w S L) :
    Calls Try.prog 62 #[.pointer (some ⟨S, 0, none⟩)] w fun e w' => ∃ S', e = .returned (.pointer (some ⟨S', 0, none⟩)) ∧ w.heap.size ≤ S' ∧ USt w' S' L ∧ Below w.heap.size w w' := by
  obtain ⟨g, c, hg, hS, hc, hs, hr⟩ := h.at_
  have c0 := cell_of_block (o := 0) hS rfl
  have KC := Lib.hid (clone_row (c := c) hr hs h.pos h.len)
  have KT := Lib.hid (there_any h)
  have hpos := h.pos
  have hlen := h.len
  clear h hr hS
  go_enter Try.func62, Try.ntmps62
  go_wp2_with fail
  refine KT.out.mono ?_
  rintro e w' ⟨rfl, rfl⟩
  go_wp2_with fail
  refine KC.out.mono ?_
  rintro e w1 ⟨g', c', rfl, h1, h2, h3, h4, h5⟩
  have hb := below_alloc (Below.refl _ w1) (.cells #[.slice (some ⟨g', 0, none⟩) L.length c'] 162)
  have hn := World.alloc_heap_new w1 (.cells #[.slice (some ⟨g', 0, none⟩) L.length c'] 162)
  have HX := Lib.hid (show USt (w1.alloc (.cells #[.slice (some ⟨g', 0, none⟩) L.length c'] 162)) w1.heap.size L from ⟨⟨g', c', by omega, hn, h3, by simp; omega, h4.mono (hb.block _ h2)⟩, hpos, hlen⟩)
  have HB := Lib.hid (below_next h5 hb)
  have hsz := h5.size
  clear h4 h5 hb hn
  go_wp2_with fail
  go_ret
  exact ⟨w1.heap.size, rfl, hsz, HX.out, HB.out⟩
end Go.Proofs.Ytbhnjmdlagjfbaa
namespace Go.Proofs.Ytbhnjmdlagjfbaa
set_option linter.unusedVariables false
open Go.ChangeShapes Go.WideShapes Go.ChangeAt Go.RowKit
attribute [local go_sem ↓] Go.wp_at_zero Go.wp_at_succ comesTo_value_eq comesTo_skip_eq comesTo_enter_eq

/-- a reservation: its number, from, to, its width -/
abbrev RV := Int × Int × Int × Int
def zR : RV := (0, 0, 0, 0)
def cellR (r : RV) : List Value := [.int .i64 r.1, .int .i64 r.2.1, .int .i64 r.2.2.1, .int .i64 r.2.2.2]
def flatR (l : List RV) : List Value := l.flatMap cellR
theorem flatR_cons (r : RV) (l : List RV) : flatR (r :: l) = .int .i64 r.1 :: .int .i64 r.2.1 :: .int .i64 r.2.2.1 :: .int .i64 r.2.2.2 :: flatR l := rfl
theorem flatR_len : ∀ l : List RV, (flatR l).length = l.length * 4
  | [] => rfl
  | r :: l => by rw [flatR_cons]; simp [flatR_len l]; omega
theorem flatR_snoc (l : List RV) (r : RV) : flatR (l ++ [r]) = flatR l ++ cellR r := by unfold flatR; simp
theorem flatR_app (l m : List RV) : flatR (l ++ m) = flatR l ++ flatR m := by unfold flatR; rw [List.flatMap_append]
theorem cellR_one (r : RV) : ∀ u ∈ cellR r, u.oneCell' = true := by
  intro u hu
  unfold cellR at hu
  simp only [List.mem_cons, List.not_mem_nil, or_false] at hu
  rcases hu with rfl | rfl | rfl | rfl <;> rfl
theorem flatR_one (l : List RV) : ∀ u ∈ flatR l, u.oneCell' = true := by
  intro u hu
  obtain ⟨r, _, h⟩ := List.mem_flatMap.1 hu
  exact cellR_one r u h
theorem flatR_get : ∀ (l : List RV) (k : Nat), k < l.length → (flatR l)[k * 4]? = some (.int .i64 (l.getD k zR).1) ∧ (flatR l)[k * 4 + 1]? = some (.int .i64 (l.getD k zR).2.1) ∧ (flatR l)[k * 4 + 2]? = some (.int .i64 (l.getD k zR).2.2.1) ∧ (flatR l)[k * 4 + 3]? = some (.int .i64 (l.getD k zR).2.2.2)
  | [], k, h => by simp at h
  | r :: l, 0, _ => ⟨rfl, rfl, rfl, rfl⟩
  | r :: l, k + 1, h => by
    have ih := flatR_get l k (by simpa using h)
    rw [show (k + 1) * 4 = k * 4 + 1 + 1 + 1 + 1 by omega, flatR_cons]
    simpa using ih
/-- a row of reservations -/
def RowR (w : World) (g : Nat) (l : List RV) : Prop := ∀ k, k < l.length → w.cell? ⟨g, k * 4, none⟩ = some (.int .i64 (l.getD k zR).1) ∧ w.cell? ⟨g, k * 4 + 1, none⟩ = some (.int .i64 (l.getD k zR).2.1) ∧ w.cell? ⟨g, k * 4 + 2, none⟩ = some (.int .i64 (l.getD k zR).2.2.1) ∧ w.cell? ⟨g, k * 4 + 3, none⟩ = some (.int .i64 (l.getD k zR).2.2.2)
theorem RowR.mono {w w' : World} {g : Nat} {l : List RV} (h : RowR w g l) (he : w'.heap[g]? = w.heap[g]?) : RowR w' g l := fun k hk => by
  have e : ∀ o, w'.cell? ⟨g, o, none⟩ = w.cell? ⟨g, o, none⟩ := fun o => World.cell?_of_block he
  rw [e, e, e, e]
  exact h k hk
/-- a slice of reservations that may be read -/
def RdR (w : World) (v : Value) (l : List RV) : Prop := ∃ ad c, v = .slice ad l.length c ∧ l.length ≤ c ∧ (ad = none → c = 0) ∧ (0 < l.length → ∃ g, ad = some ⟨g, 0, none⟩ ∧ g < w.heap.size ∧ RowR w g l)
theorem RdR.below {w w' : World} {v : Value} {l : List RV} (h : RdR w v l) (hb : Below w.heap.size w w') : RdR w' v l := by
  obtain ⟨ad, c, h1, h2, h3, h4⟩ := h
  refine ⟨ad, c, h1, h2, h3, fun hp => ?_⟩
  obtain ⟨g, h5, h6, h7⟩ := h4 hp
  exact ⟨g, h5, Nat.lt_of_lt_of_le h6 hb.size, h7.mono (hb.block g h6)⟩
def OwnR (w : World) (B : Nat) (v : Value) (l : List RV) : Prop := w.ownsRow B 125 4 v l.length (flatR l)
theorem OwnR.rd {w : World} {B : Nat} {v : Value} {l : List RV} (h : OwnR w B v l) : RdR w v l := by
  rcases h.2 with ⟨rfl, h1⟩ | ⟨g, cap, cur, hv, hB, hg, hc, _, hcs, ht⟩
  · exact ⟨none, 0, by rw [h1], by omega, fun _ => rfl, fun hp => by omega⟩
  · refine ⟨some ⟨g, 0, none⟩, cap, hv, hc, (fun e => by cases e), fun _ => ⟨g, rfl, (Array.getElem?_eq_some_iff.1 hg).1, fun k hk => ?_⟩⟩
    have hx : ∀ (j : Nat) (u : Value), (flatR l)[j]? = some u → w.cell? ⟨g, j, none⟩ = some u := fun j u hj => by
      have hjl : j < l.length * 4 := by
        rw [← flatR_len l]
        rcases Nat.lt_or_ge j (flatR l).length with h1 | h1
        · exact h1
        · rw [List.getElem?_eq_none h1] at hj; cases hj
      refine cell_of_block hg ?_
      rw [← ht, List.getElem?_take, if_pos hjl] at hj
      simpa using hj
    obtain ⟨a, b, c, d⟩ := flatR_get l k hk
    exact ⟨hx _ _ a, hx _ _ b, hx _ _ c, hx _ _ d⟩
theorem OwnR.nil {w : World} {B : Nat} : OwnR w B (.slice none 0 0) [] := ⟨rfl, .inl ⟨rfl, rfl⟩⟩
theorem OwnR.keep {w w' : World} {B : Nat} {v : Value} {l : List RV} (h : OwnR w B v l) (hb : ∀ k, v.ownBlock = some k → w'.heap[k]? = w.heap[k]?) : OwnR w' B v l := Ap.own_keep h hb
theorem OwnR.below {w w' : World} {B : Nat} {v : Value} {l : List RV} (h : OwnR w B v l) (hb : Below w.heap.size w w') : OwnR w' B v l := Ap.own_below h hb
theorem OwnR.base {w : World} {B B' : Nat} {v : Value} {l : List RV} (h : OwnR w B v l) (hB : B' ≤ B) : OwnR w B' v l := by
  refine ⟨h.1, ?_⟩
  rcases h.2 with hn | ⟨g, cap, cur, hv, h1, rest⟩
  · exact .inl hn
  · exact .inr ⟨g, cap, cur, hv, by omega, rest⟩
theorem info_resv : (Try.prog.info? 125).map (fun i => (i.zero, i.size, i.bytes)) = some (some (.agg #[.int .i64 0, .int .i64 0, .int .i64 0, .int .i64 0]), 4, 32) := by kernel_rfl
theorem eltR : Ap.Elt Try.prog 109 125 4 32 :=
  ⟨Try.underlying109, by obtain ⟨i, h1, h2, h3, h4⟩ := info_parts3 info_resv; exact ⟨i, _, h1, h2, h3, h4, rfl⟩, by decide⟩
theorem RdR.rdG {w : World} {v : Value} {l : List RV} (h : RdR w v l) : Ap.RdG w 4 v l.length (flatR l) := by
  obtain ⟨ad, c, rfl, h2, h3, h4⟩ := h
  refine ⟨⟨ad, c, rfl, fun e => by have := h3 e; omega, fun a ha j u hj => ?_, fun a ha hm => ?_⟩, flatR_len l, flatR_one l⟩
  · have hjl : j < l.length * 4 := by
      rw [← flatR_len l]
      rcases Nat.lt_or_ge j (flatR l).length with h1 | h1
      · exact h1
      · rw [List.getElem?_eq_none h1] at hj; cases hj
    obtain ⟨g, hg, hlt, hr⟩ := h4 (by omega)
    rw [ha] at hg
    injection hg with hg
    subst hg
    have hplain : (⟨g, 0, none⟩ : Addr).add j = ⟨g, j, none⟩ := by unfold Addr.add; split <;> simp_all
    rw [hplain]
    have hk : j / 4 < l.length := by omega
    obtain ⟨a, b, c, d⟩ := flatR_get l (j / 4) hk
    obtain ⟨a', b', c', d'⟩ := hr (j / 4) hk
    rcases (by omega : j = j / 4 * 4 ∨ j = j / 4 * 4 + 1 ∨ j = j / 4 * 4 + 2 ∨ j = j / 4 * 4 + 3) with e | e | e | e
    · rw [e, a] at hj; rw [e, ← hj]; exact a'
    · rw [e, b] at hj; rw [e, ← hj]; exact b'
    · rw [e, c] at hj; rw [e, ← hj]; exact c'
    · rw [e, d] at hj; rw [e, ← hj]; exact d'
  · obtain ⟨g, hg, hlt, hr⟩ := h4 hm
    rw [ha] at hg
    injection hg with hg
    subst hg
    exact hlt
/-- a list in block F, its row from B on -/
structure Rs (w : World) (B F : Nat) (l : List RV) (n : Int) : Prop where
  at_ : ∃ v, w.heap[F]? = some (.cells #[v, .int .i64 n] 111 (0, 0)) ∧ OwnR w B v l ∧ v.ownBlock ≠ some F
  pos : 0 < n ∧ n ≤ 1073741825
  len : l.length ≤ 8
theorem Rs.lt {w : World} {B F : Nat} {l : List RV} {n : Int} (h : Rs w B F l n) : F < w.heap.size := by
  obtain ⟨v, h1, _⟩ := h.at_
  exact (Array.getElem?_eq_some_iff.1 h1).1
theorem Rs.below {w w' : World} {B F : Nat} {l : List RV} {n : Int} (h : Rs w B F l n) (hb : Below w.heap.size w w') : Rs w' B F l n := by
  have hl := h.lt
  obtain ⟨v, h1, h2, h3⟩ := h.at_
  exact ⟨⟨v, (hb.block F hl).trans h1, h2.below hb, h3⟩, h.pos, h.len⟩
/-- a list that nobody made -/
def NoRs (w : World) (v : Value) : Prop := v = .pointer none ∨ ∃ F, v = .pointer (some ⟨F, 0, none⟩) ∧ w.heap[F]? = some (.cells #[.slice none 0 0, .int .i64 0] 111 (0, 0))
theorem there_rs {w : World} {B F : Nat} {l : List RV} {n : Int} (h : Rs w B F l n) : Calls Try.prog 59 #[.pointer (some ⟨F, 0, none⟩)] w fun e w' => e = .returned (.bool true) ∧ w = w' := by
  obtain ⟨v, h1, h2, h3⟩ := h.at_
  have c1 : w.cell? ⟨F, 1, none⟩ = some (.int .i64 n) := cell_of_block (o := 1) h1 rfl
  have d1 : decide (n > 0) = true := decide_eq_true h.pos.1
  have d2 : decide (0 < n) = true := decide_eq_true h.pos.1
  clear h h1 h2 h3
  go_enter Try.func59, Try.ntmps59
  go_wp2_with fail
  go_ret
  exact ⟨rfl, rfl⟩
theorem there_rno {w : World} {v : Value} (h : NoRs w v) : Calls Try.prog 59 #[v] w fun e w' => e = .returned (.bool false) ∧ w = w' := by
  rcases h with rfl | ⟨F, rfl, h1⟩
  · go_enter Try.func59, Try.ntmps59
    go_wp2_with fail
    go_ret
    exact ⟨rfl, rfl⟩
  · have c1 : w.cell? ⟨F, 1, none⟩ = some (.int .i64 0) := cell_of_block (o := 1) h1 rfl
    clear h1
    go_enter Try.func59, Try.ntmps59
    go_wp2_with fail
    go_ret
    exact ⟨rfl, rfl⟩
theorem widthR (W : Int) (w : World) : Calls Try.prog 71 #[.int .i64 W] w fun e w' => e = .returned (.bool (decide (1 ≤ W ∧ W ≤ 64))) ∧ w = w' := by
  go_enter Try.func71, Try.ntmps71
  go_wp2
  all_goals go_ret
  all_goals exact ⟨ret_bool (by rw [Bool.eq_iff_iff]; simp; omega), rfl⟩
def mayR (f t W : Int) : Bool := decide (0 ≤ f ∧ f < t ∧ t < 1099511627776 ∧ 1 ≤ W ∧ W ≤ 64)
theorem made_u {w : World} {S : Nat} {L : List (Int × Int)} (h : USt w S L) : Calls Try.prog 60 #[.pointer (some ⟨S, 0, none⟩)] w fun e w' => e = .returned (.bool true) ∧ Below w.heap.size w w' := by
  have K := Lib.hid (list_any h)
  have hp := h.pos
  have d1 : decide ((L.length : Int) > 0) = true := decide_eq_true (by omega)
  have d2 : decide (0 < L.length) = true := decide_eq_true hp
  clear h
  go_enter Try.func60, Try.ntmps60
  go_wp2_with fail
  refine K.out.mono ?_
  rintro e w1 ⟨g, c, rfl, _, _, _, _, hb⟩
  have HB := Lib.hid hb
  clear hb
  go_wp2_with fail
  go_ret
  exact ⟨rfl, HB.out⟩
set_option maxRecDepth 100000 in
set_option maxHeartbeats 2000000 in
theorem may_any (f t W : Int) (w : World) : Calls Try.prog 61 #[.agg #[.int .i64 f, .int .i64 t], .int .i64 W] w fun e w' => e = .returned (.bool (mayR f t W)) ∧ Below w.heap.size w w' := by
  have hA := below_alloc (Below.refl _ w) (.cells #[.int .i64 f, .int .i64 t] 39)
  have hN := World.alloc_heap_new w (.cells #[.int .i64 f, .int .i64 t] 39)
  have HA := Lib.hid hA
  have HN := Lib.hid hN
  have KR := Lib.hid (fun X => right_any f t X)
  have KE := Lib.hid (fun X => empty_any f t X)
  have KW := Lib.hid (fun X => widthR W X)
  have HM := Lib.hid (show mayR f t W = (rightI (f, t) && !decide (clampI t ≤ clampI f) && decide (t < 1099511627776) && decide (1 ≤ W ∧ W ≤ 64)) by
    unfold mayR rightI clampI
    rw [Bool.eq_iff_iff]
    simp only [Bool.and_eq_true, Bool.not_eq_true', decide_eq_true_eq, decide_eq_false_iff_not]
    omega)
  rw [HM.out]
  clear HM hA hN
  generalize rightI (f, t) = b1 at *
  generalize decide (clampI t ≤ clampI f) = b2 at *
  generalize decide (1 ≤ W ∧ W ≤ 64) = b3 at *
  go_enter Try.func61, Try.ntmps61
  go_upto_region 1 with fail
  generalize w.alloc (.cells #[.int .i64 f, .int .i64 t] 39) = W0 at *
  have c0 : W0.cell? ⟨w.heap.size, 0, none⟩ = some (.int .i64 f) := cell_of_block (o := 0) HN.out rfl
  have c1 : W0.cell? ⟨w.heap.size, 1, none⟩ = some (.int .i64 t) := cell_of_block (o := 1) HN.out rfl
  go_wp2_with fail
  refine (KR.out _).mono ?_
  rintro e w1 ⟨rfl, hb⟩
  have HB := Lib.hid (below_next HA.out hb)
  have N1 := (hb.block _ (Array.getElem?_eq_some_iff.1 HN.out).1).trans HN.out
  clear hb c0 c1
  have c0 : w1.cell? ⟨w.heap.size, 0, none⟩ = some (.int .i64 f) := cell_of_block (o := 0) N1 rfl
  have c1 : w1.cell? ⟨w.heap.size, 1, none⟩ = some (.int .i64 t) := cell_of_block (o := 1) N1 rfl
  have HN1 := Lib.hid N1
  clear N1
  cases b1 with
  | false =>
    go_wp2_with fail
    go_ret
    exact ⟨rfl, HB.out⟩
  | true =>
    go_wp2_with fail
    refine (KE.out _).mono ?_
    rintro e w2 ⟨rfl, hb⟩
    have HB2 := Lib.hid (below_next HB.out hb)
    have N2 := (hb.block _ (Array.getElem?_eq_some_iff.1 HN1.out).1).trans HN1.out
    clear hb c0 c1
    have c1 : w2.cell? ⟨w.heap.size, 1, none⟩ = some (.int .i64 t) := cell_of_block (o := 1) N2 rfl
    clear N2
    cases b2 with
    | true =>
      go_wp2_with fail
      go_ret
      exact ⟨rfl, HB2.out⟩
    | false =>
      generalize hz : decide (t < 1099511627776) = b4 at *
      cases b4 with
      | false =>
        go_wp2_with fail
        go_ret
        exact ⟨by rw [hz]; rfl, HB2.out⟩
      | true =>
        go_wp2_with fail
        refine (KW.out _).mono ?_
        rintro e w3 ⟨rfl, rfl⟩
        go_wp2_with fail
        go_ret
        exact ⟨by rw [hz]; rfl, HB2.out⟩
end Go.Proofs.Ytbhnjmdlagjfbaa
namespace Go.Proofs.Ytbhnjmdlagjfbaa
set_option linter.unusedVariables false
open Go.ChangeShapes Go.WideShapes Go.ChangeAt Go.RowKit
attribute [local go_sem ↓] Go.wp_at_zero Go.wp_at_succ comesTo_value_eq comesTo_skip_eq comesTo_enter_eq

/-- of the blocks that were there just rows of reservations, from B0 on, may have turned -/
structure KpR (B0 : Nat) (w w' : World) : Prop where
  os : w'.os = w.os
  tape : w'.tape = w.tape
  output : w'.output = w.output
  size : w.heap.size ≤ w'.heap.size
  block : ∀ j, j < w.heap.size → w'.heap[j]? = w.heap[j]? ∨ (B0 ≤ j ∧ ∃ cs m, w.heap[j]? = some (.cells cs 125 m))
theorem KpR.of_below {B0 : Nat} {w w' : World} (h : Below w.heap.size w w') : KpR B0 w w' := ⟨h.os, h.tape, h.output, h.size, fun j hj => .inl (h.block j hj)⟩
theorem KpR.below {B0 B : Nat} {w w' : World} (h : KpR B0 w w') (hB : B ≤ B0) (hs : B0 ≤ w.heap.size) : Below B w w' :=
  ⟨h.os, h.tape, h.output, h.size, fun j hj => by
    rcases h.block j (by omega) with h1 | ⟨h1, _⟩
    · exact h1
    · omega⟩
/-- rows of reservations stay -/
structure StR (w w' : World) : Prop where
  size : w.heap.size ≤ w'.heap.size
  block : ∀ (j : Nat) (cs : Array Value) (m : Nat × Nat), w.heap[j]? = some (.cells cs 125 m) → w'.heap[j]? = w.heap[j]?
theorem StR.of_below {w w' : World} (h : Below w.heap.size w w') : StR w w' := ⟨h.size, fun j _ _ hj => h.block j (Array.getElem?_eq_some_iff.1 hj).1⟩
theorem StR.trans {a b c : World} (h : StR a b) (k : StR b c) : StR a c := ⟨Nat.le_trans h.size k.size, fun j cs m hj => (k.block j cs m ((h.block j cs m hj).trans hj)).trans (h.block j cs m hj)⟩
theorem OwnR.own {w : World} {B : Nat} {v : Value} {l : List RV} (h : OwnR w B v l) {g : Nat} (hg : v.ownBlock = some g) : ∃ cs m, w.heap[g]? = some (.cells cs 125 m) := by
  rcases h.2 with ⟨rfl, _⟩ | ⟨g', cap, cur, rfl, _, hh, _⟩
  · cases hg
  · simp only [Value.ownBlock, Option.some.injEq] at hg
    subst hg
    exact ⟨_, _, hh⟩
theorem OwnR.st {w w' : World} {B : Nat} {v : Value} {l : List RV} (h : OwnR w B v l) (hs : StR w w') : OwnR w' B v l := h.keep fun k hk => by
  obtain ⟨cs, m, h1⟩ := h.own hk
  exact hs.block k cs m h1
theorem OwnR.form {w : World} {B : Nat} {v : Value} {l : List RV} (h : OwnR w B v l) : ∃ ad c, v = .slice ad l.length c := by
  obtain ⟨ad, c, h1, _⟩ := h.rd
  exact ⟨ad, c, h1⟩
theorem RdR.row {w : World} {g n c : Nat} {l : List RV} (h : RdR w (.slice (some ⟨g, 0, none⟩) n c) l) : RowR w g l := fun k hk => by
  obtain ⟨ad, c', h1, _, _, h4⟩ := h
  obtain ⟨g', h5, _, h6⟩ := h4 (by omega)
  subst h5
  injection h1 with e1 _ _
  injection e1 with e1
  injection e1 with e1 _ _
  subst e1
  exact h6 k hk
set_option maxRecDepth 100000 in
set_option maxHeartbeats 4000000 in
theorem those_pos {w : World} {F g c : Nat} {l : List RV} {n : Int} (hF : w.heap[F]? = some (.cells #[.slice (some ⟨g, 0, none⟩) l.length c, .int .i64 n] 111 (0, 0))) (hl : l.length ≤ 8) (fb : FuncId) (caps : Array Value) (p : RV → Bool) (Inv : Nat → World → Prop) (hE : Go.Proofs.Enters Try.prog fb)
    (h0 : Inv 0 w) (hR : ∀ k W, Inv k W → RdR W (.slice (some ⟨g, 0, none⟩) l.length c) l)
    (hS : ∀ k W W', Inv k W → KpR w.heap.size W W' → Inv k W')
    (hC : ∀ k W, k < l.length → Inv k W → Calls Try.prog fb (#[.agg #[.int .i64 (l.getD k zR).1, .int .i64 (l.getD k zR).2.1, .int .i64 (l.getD k zR).2.2.1, .int .i64 (l.getD k zR).2.2.2]] ++ caps) W fun e w' => e = .returned (.bool (p (l.getD k zR))) ∧ Inv (k + 1) w' ∧ StR W w') :
    Calls Try.prog 64 #[.pointer (some ⟨F, 0, none⟩), .func (.func fb) #[] caps] w fun e w' => ∃ v, e = .returned v ∧ OwnR w' w.heap.size v (l.filter p) ∧ Inv l.length w' ∧ w.heap.size ≤ w'.heap.size := by
  have c0 : w.cell? ⟨F, 0, none⟩ = some (.slice (some ⟨g, 0, none⟩) l.length c) := cell_of_block (o := 0) hF rfl
  unfold Go.Proofs.Enters at hE
  have HC := Lib.hid hC
  have HR := Lib.hid hR
  have HS := Lib.hid hS
  have HI := Lib.hid h0
  have HL := Lib.hid hl
  clear hC hR hS h0 hF hl
  go_enter Try.func64, Try.ntmps64
  go_wp2_with fail
  clear c0
  go_loopw [13, 5] (fun i s wr => ∃ k : Nat, k ≤ l.length ∧ i = .int .i64 k ∧ OwnR wr w.heap.size s ((l.take k).filter p) ∧ Inv k wr ∧ w.heap.size ≤ wr.heap.size) (fun i _ _ => l.length - (intOf i).toNat)
  case atStart => exact ⟨0, Nat.zero_le _, rfl, OwnR.nil, HI.out, Nat.le_refl _⟩
  case round =>
    obtain ⟨k, hk, rfl, ho, hinv, hsz⟩ := hrel
    have HV := Lib.hid hinv
    clear hinv HI
    obtain ⟨aS, cS, rfl⟩ := ho.form
    have HO := Lib.hid ho
    have HZ := Lib.hid hsz
    clear ho hsz
    by_cases hlt : k < l.length
    · have hd : decide (k < l.length) = true := decide_eq_true hlt
      have hd2 : decide ((k : Int) < (l.length : Int)) = true := decide_eq_true (by omega)
      have hkl : (k : Int) < (l.length : Int) := by omega
      obtain ⟨x0, x1, x2, x3⟩ := (HR.out k wr HV.out).row k hlt
      have HTK := Lib.hid (show (l.take (k + 1)).filter p = (l.take k).filter p ++ (if p (l.getD k zR) = true then [l.getD k zR] else []) by
        rw [List.take_succ_eq_append_getElem hlt, List.filter_append, show l.getD k zR = l[k] by simp [List.getD, List.getElem?_eq_getElem hlt]]
        congr 1
        rw [List.filter_cons]
        rfl)
      have HLN := Lib.hid (show ((l.take k).filter p).length ≤ 8 from Nat.le_trans (List.length_filter_le _ _) (by rw [List.length_take]; have := HL.out; omega))
      have hw1 : IntKind.i64.wrap ((k : Int) + 1) = (k : Int) + 1 := by have := HL.out; rw [IntKind.wrap_i64]; omega
      have hHC := HC.out k
      clear HC
      generalize hrv : l.getD k zR = r at *
      obtain ⟨r1, r2, r3, r4⟩ := r
      dsimp only at x0 x1 x2 x3 hHC
      have HC := Lib.hid hHC
      have HB1 := below_alloc (Below.refl _ wr) (.cells #[.int .i64 r1, .int .i64 r2, .int .i64 r3, .int .i64 r4] 125)
      have hN := World.alloc_heap_new wr (.cells #[.int .i64 r1, .int .i64 r2, .int .i64 r3, .int .i64 r4] 125)
      have HN := Lib.hid hN
      have HV1 := Lib.hid (HS.out k wr _ HV.out (KpR.of_below HB1))
      have HO1 := Lib.hid (HO.out.below HB1)
      have HZ1 := Lib.hid (Nat.le_trans HZ.out HB1.size)
      clear hHC hN HB1 hrv HV HO HZ
      go_upto_region 5 with fail
      clear x0 x1 x2 x3
      generalize wr.alloc (.cells #[.int .i64 r1, .int .i64 r2, .int .i64 r3, .int .i64 r4] 125) = WW at *
      generalize wr.heap.size = q at *
      have y0 : WW.cell? ⟨q, 0, none⟩ = some (.int .i64 r1) := cell_of_block (o := 0) HN.out rfl
      have y1 : WW.cell? ⟨q, 1, none⟩ = some (.int .i64 r2) := cell_of_block (o := 1) HN.out rfl
      have y2 : WW.cell? ⟨q, 2, none⟩ = some (.int .i64 r3) := cell_of_block (o := 2) HN.out rfl
      have y3 : WW.cell? ⟨q, 3, none⟩ = some (.int .i64 r4) := cell_of_block (o := 3) HN.out rfl
      go_wp2_with fail
      refine (HC.out WW hlt HV1.out).mono ?_
      rintro e w3 ⟨rfl, hv3, hs3⟩
      have HV3 := Lib.hid hv3
      have HO3 := Lib.hid (HO1.out.st hs3)
      have HZ3 := Lib.hid (Nat.le_trans HZ1.out hs3.size)
      have HN3 := Lib.hid ((hs3.block _ _ _ HN.out).trans HN.out)
      clear hv3 hs3 HV1 HO1 HZ1 HN y0 y1 y2 y3 HC
      generalize hb : p (r1, r2, r3, r4) = b at *
      clear hb
      cases b with
      | true =>
        have HT2 := Lib.hid (show (l.take (k + 1)).filter p = (l.take k).filter p ++ [(r1, r2, r3, r4)] from HTK.out)
        have y0 : w3.cell? ⟨q, 0, none⟩ = some (.int .i64 r1) := cell_of_block (o := 0) HN3.out rfl
        have y1 : w3.cell? ⟨q, 1, none⟩ = some (.int .i64 r2) := cell_of_block (o := 1) HN3.out rfl
        have y2 : w3.cell? ⟨q, 2, none⟩ = some (.int .i64 r3) := cell_of_block (o := 2) HN3.out rfl
        have y3 : w3.cell? ⟨q, 3, none⟩ = some (.int .i64 r4) := cell_of_block (o := 3) HN3.out rfl
        go_upto_region 6 with fail
        refine wp_region_lit ?_
        refine wpList_yield (w' := w3) (v := .slice aS ((l.take k).filter p).length cS) rfl (by go_simp) ?_
        refine wpList_yield (w' := w3) (v := .agg #[.int .i64 r1, .int .i64 r2, .int .i64 r3, .int .i64 r4]) rfl (by go_simp) ?_
        refine wpList_yield (w' := w3.alloc (.cells #[.int .i64 r1, .int .i64 r2, .int .i64 r3, .int .i64 r4] 125)) (v := .slice (some ⟨w3.heap.size, 0, none⟩) 1 1) rfl (by go_simp) ?_
        obtain ⟨v4, w4, g0, g1, g2, g3, g4, g5⟩ := Ao.app_one eltR 109 HO3.out (cellR (r1, r2, r3, r4)) rfl (cellR_one _) (by have := HLN.out; omega) (by decide) HZ3.out
        have HO4 := Lib.hid (show OwnR w4 w.heap.size v4 ((l.take (k + 1)).filter p) from by
          unfold OwnR
          rw [HT2.out, List.length_append, flatR_snoc]
          exact g1)
        have HV4 := Lib.hid (HS.out (k + 1) w3 w4 HV3.out ⟨g5.os, g5.tape, g5.output, g3, fun j hj => by
          by_cases hq : (Value.slice aS ((l.take k).filter p).length cS).ownBlock = some j
          · exact .inr ⟨Ap.own_blk HO3.out j hq, HO3.out.own hq⟩
          · exact .inl (g2 j hj hq)⟩)
        have HZ4 := Lib.hid (Nat.le_trans HZ3.out g3)
        obtain ⟨a4, c4, hf4⟩ := HO4.out.form
        have hf5 : v4 = .slice a4 (((l.take k).filter p).length + 1) c4 := by rw [hf4, HT2.out, List.length_append]; rfl
        subst hf5
        refine wpList_yield (w' := w4) (v := .slice a4 (((l.take k).filter p).length + 1) c4) rfl (Ap.exec_app rfl (by go_simp) (by go_simp) g0) ?_
        clear g0 g1 g2 g3 g4 g5 y0 y1 y2 y3 HN3 hf4
        go_wp2_with fail
        go_roundw
        case rel => exact ⟨k + 1, by omega, by go_num, HO4.out, HV4.out, HZ4.out⟩
        case measure => simp [intOf]; omega
      | false =>
        have HT2 := Lib.hid (show (l.take (k + 1)).filter p = (l.take k).filter p from by rw [HTK.out]; simp)
        have HO4 := Lib.hid (show OwnR w3 w.heap.size (.slice aS ((l.take k).filter p).length cS) ((l.take (k + 1)).filter p) from by rw [HT2.out]; exact HO3.out)
        go_wp2_with fail
        go_roundw
        case rel => exact ⟨k + 1, by omega, by go_num, HO4.out, HV3.out, HZ3.out⟩
        case measure => simp [intOf]; omega
    · obtain rfl : k = l.length := by omega
      have hd : decide (l.length < l.length) = false := decide_eq_false (by omega)
      have HO4 := Lib.hid (show OwnR wr w.heap.size _ (l.filter p) from by have := HO.out; rw [List.take_length] at this; exact this)
      go_wp2_with fail
      go_ret
      exact ⟨_, rfl, by simpa using HO4.out, HV.out, HZ.out⟩
set_option maxRecDepth 100000 in
set_option maxHeartbeats 4000000 in
theorem those_nil {w : World} {F c : Nat} {ad : Option Addr} {n : Int} (hF : w.heap[F]? = some (.cells #[.slice ad 0 c, .int .i64 n] 111 (0, 0))) (fb : FuncId) (caps : Array Value) :
    Calls Try.prog 64 #[.pointer (some ⟨F, 0, none⟩), .func (.func fb) #[] caps] w fun e w' => e = .returned (.slice none 0 0) ∧ w = w' := by
  have c0 : w.cell? ⟨F, 0, none⟩ = some (.slice ad 0 c) := cell_of_block (o := 0) hF rfl
  clear hF
  go_enter Try.func64, Try.ntmps64
  go_wp2_with fail
  go_loopw [13, 5] (fun i s wr => i = .int .i64 0 ∧ s = .slice none 0 0 ∧ wr = w) (fun _ _ _ => 0)
  case atStart => exact ⟨rfl, rfl, rfl⟩
  case round =>
    obtain ⟨rfl, rfl, rfl⟩ := hrel
    go_wp2_with fail
    go_ret
    exact ⟨rfl, rfl⟩
theorem those_any {w : World} {B F : Nat} {l : List RV} {n : Int} (h : Rs w B F l n) (fb : FuncId) (caps : Array Value) (p : RV → Bool) (Inv : Nat → World → Prop) (hE : Go.Proofs.Enters Try.prog fb)
    (h0 : Inv 0 w) (hR : ∀ k W v, Inv k W → RdR w v l → w.heap[F]? = some (.cells #[v, .int .i64 n] 111 (0, 0)) → OwnR w B v l → RdR W v l)
    (hS : ∀ k W W', Inv k W → KpR w.heap.size W W' → Inv k W')
    (hC : ∀ k W, k < l.length → Inv k W → Calls Try.prog fb (#[.agg #[.int .i64 (l.getD k zR).1, .int .i64 (l.getD k zR).2.1, .int .i64 (l.getD k zR).2.2.1, .int .i64 (l.getD k zR).2.2.2]] ++ caps) W fun e w' => e = .returned (.bool (p (l.getD k zR))) ∧ Inv (k + 1) w' ∧ StR W w') :
    Calls Try.prog 64 #[.pointer (some ⟨F, 0, none⟩), .func (.func fb) #[] caps] w fun e w' => ∃ v, e = .returned v ∧ OwnR w' w.heap.size v (l.filter p) ∧ Inv l.length w' ∧ w.heap.size ≤ w'.heap.size := by
  obtain ⟨v, h1, h2, h3⟩ := h.at_
  have hrd := h2.rd
  obtain ⟨ad, c, rfl, h5, h6, h7⟩ := h2.rd
  rcases Nat.eq_zero_or_pos l.length with hz | hz
  · obtain rfl := List.eq_nil_of_length_eq_zero hz
    refine (those_nil (ad := ad) (c := c) h1 fb caps).mono ?_
    rintro e w' ⟨rfl, rfl⟩
    exact ⟨_, rfl, OwnR.nil, h0, Nat.le_refl _⟩
  · obtain ⟨g, rfl, _, _⟩ := h7 hz
    exact those_pos h1 h.len fb caps p Inv hE h0 (fun k W hi => hR k W _ hi hrd h1 h2) hS hC
end Go.Proofs.Ytbhnjmdlagjfbaa
namespace Go.Proofs.Ytbhnjmdlagjfbaa
set_option linter.unusedVariables false
open Go.RowKit
/-- the level of steps at a time; d: ahead of all -/
def lvl (d : Int) : List (Int × Int) → Int → Int
  | [], _ => d
  | p :: r, x => if x < p.1 then d else lvl p.2 r x
theorem lvl_snoc : ∀ (l : List (Int × Int)) (d T v x : Int), (∀ p ∈ l, p.1 < T) → lvl d (l ++ [(T, v)]) x = if x < T then lvl d l x else v
  | [], d, T, v, x, _ => rfl
  | p :: r, d, T, v, x, h => by
    have hp := h p (by simp)
    have ih := lvl_snoc r p.2 T v x fun q hq => h q (by simp [hq])
    simp only [List.cons_append, lvl, ih]
    by_cases h1 : x < p.1
    · rw [if_pos h1, if_pos (show x < T by omega), if_pos h1]
    · rw [if_neg h1, if_neg h1]
theorem lvl_last : ∀ (l : List (Int × Int)) (d x : Int), (∀ p ∈ l, p.1 ≤ x) → lvl d l x = (l.getLast?.map (·.2)).getD d
  | [], d, x, _ => rfl
  | p :: r, d, x, h => by
    have hp := h p (by simp)
    have ih := lvl_last r p.2 x fun q hq => h q (by simp [hq])
    simp only [lvl]
    rw [if_neg (by omega), ih]
    cases r with
    | nil => rfl
    | cons q s =>
      rw [List.getLast?_cons_cons, List.getLast?_eq_some_getLast (show q :: s ≠ [] by simp)]
      rfl
/-- steps that tell a function's levels up to a time -/
structure RepU (l : List (Int × Int)) (g : Int → Int) (T : Int) : Prop where
  nil : l = [] → T = 0
  head : ∀ p, l.head? = some p → p.1 = 0
  sorted : l.Pairwise (fun p q => p.1 < q.1)
  diff : ∀ (a b : List (Int × Int)) (p q : Int × Int), l = a ++ p :: q :: b → p.2 ≠ q.2
  hi : ∀ p ∈ l, p.1 < T
  val : ∀ x, 0 ≤ x → x < T → lvl 0 l x = g x
theorem RepU.lay {l : List (Int × Int)} {g : Int → Int} {T T' v : Int} (h : RepU l g T) (h0 : 0 ≤ T) (hT : T < T') (hg : ∀ x, T ≤ x → x < T' → g x = v) : RepU (layU l T v) g T' := by
  have hmem : ∀ p ∈ l, p.1 < T := h.hi
  unfold layU
  by_cases hl : l.getLast?.map (·.2) = some v
  · rw [if_pos hl]
    refine ⟨fun e => ?_, h.head, h.sorted, h.diff, fun p hp => by have := hmem p hp; omega, fun x hx hx' => ?_⟩
    · subst e; simp at hl
    · by_cases hlt : x < T
      · exact h.val x hx hlt
      · rw [lvl_last l 0 x (fun p hp => by have := hmem p hp; omega), hl, hg x (by omega) hx']; rfl
  · rw [if_neg hl]
    refine ⟨fun e => by simp at e, fun p hp => ?_, ?_, ?_, fun p hp => ?_, fun x hx hx' => ?_⟩
    · cases l with
      | nil => have := h.nil rfl; simp at hp; subst hp; exact this
      | cons q r => exact h.head p (by simpa using hp)
    · rw [List.pairwise_append]
      exact ⟨h.sorted, by simp, fun a ha b hb => by simp at hb; subst hb; exact hmem a ha⟩
    · intro a b p q e
      by_cases hb : b = []
      · subst hb
        have e2 : l ++ [(T, v)] = (a ++ [p]) ++ [q] := by rw [e]; simp
        obtain ⟨e3, e4⟩ := List.append_inj' e2 rfl
        have e5 : q = (T, v) := by simpa using e4.symm
        subst e5
        intro he
        apply hl
        rw [e3]
        simp [he]
      · obtain ⟨b', y, rfl⟩ : ∃ b' y, b = b' ++ [y] := ⟨b.dropLast, b.getLast hb, (List.dropLast_concat_getLast hb).symm⟩
        have e2 : l ++ [(T, v)] = (a ++ p :: q :: b') ++ [y] := by rw [e]; simp
        exact h.diff a b' p q (List.append_inj' e2 rfl).1
    · simp only [List.mem_append, List.mem_cons, List.not_mem_nil, or_false] at hp
      rcases hp with hp | rfl
      · have := hmem p hp; omega
      · exact hT
    · rw [lvl_snoc l 0 T v x hmem]
      by_cases hlt : x < T
      · rw [if_pos hlt]; exact h.val x hx hlt
      · rw [if_neg hlt, hg x (by omega) hx']
theorem RepU.step {l : List (Int × Int)} {g fn : Int → Int} {f t a b v : Int} (h : RepU l g a) (h0 : 0 ≤ a) (hab : a < b) (hb : b ≤ 1099511627776) (hft : clampI f < clampI t)
    (hg : ∀ x, a ≤ x → x < b → g x = if f ≤ x ∧ x < t then fn v else v) : RepU (stepU (f, t) fn l (a, b, v)) g b := by
  have cf : clampI f = if f < 0 then 0 else if 1099511627776 < f then 1099511627776 else f := rfl
  have ct : clampI t = if t < 0 then 0 else if 1099511627776 < t then 1099511627776 else t := rfl
  have ca : clampI a = a := by unfold clampI; rw [if_neg (by omega), if_neg (by omega)]
  have cb : clampI b = b := by unfold clampI; rw [if_neg (by omega), if_neg (by omega)]
  have hf1 : f < 1099511627776 := by rw [cf, ct] at hft; split at hft <;> (try split at hft) <;> (try split at hft) <;> (try split at hft) <;> omega
  have ht1 : 0 < t := by rw [cf, ct] at hft; split at hft <;> (try split at hft) <;> (try split at hft) <;> (try split at hft) <;> omega
  have hftt : f < t := by rw [cf, ct] at hft; split at hft <;> (try split at hft) <;> (try split at hft) <;> (try split at hft) <;> omega
  -- the first piece
  obtain ⟨T1, hT1, hr1⟩ : ∃ T1, T1 = (if a < f then min b f else a) ∧ RepU (step1 (f, t) l (a, b, v)) g T1 := by
    refine ⟨_, rfl, ?_⟩
    unfold step1
    by_cases h1 : a < f
    · simp only [h1, if_true]
      refine h.lay h0 (by omega) fun x hx hx' => ?_
      rw [hg x hx (by omega), if_neg (by omega)]
    · simp only [h1, if_false]; exact h
  have hcF : bothF (a, b) (f, t) = max a (clampI f) := by unfold bothF; simp only [ca]
  have hcT : bothT (a, b) (f, t) = min b (clampI t) := by unfold bothT; simp only [cb]
  have hcf0 : 0 ≤ clampI f ∧ clampI f ≤ 1099511627776 ∧ (0 ≤ f → clampI f = f) ∧ (f < 0 → clampI f = 0) := by
    rw [cf]; refine ⟨?_, ?_, fun h => ?_, fun h => ?_⟩ <;> (split <;> (try split) <;> omega)
  have hct0 : 0 ≤ clampI t ∧ clampI t ≤ 1099511627776 ∧ (t ≤ 1099511627776 → clampI t = t) ∧ (1099511627776 < t → clampI t = 1099511627776) := by
    rw [ct]; refine ⟨?_, ?_, fun h => ?_, fun h => ?_⟩ <;> (split <;> (try split) <;> omega)
  obtain ⟨F, hF⟩ : ∃ F, F = clampI f := ⟨_, rfl⟩
  obtain ⟨G, hG⟩ : ∃ G, G = clampI t := ⟨_, rfl⟩
  rw [← hF] at hcf0 hcF hft
  rw [← hG] at hct0 hcT hft
  obtain ⟨x1, x2, x3, x4⟩ := hcf0
  obtain ⟨y1, y2, y3, y4⟩ := hct0
  have hF' : (0 ≤ f ∧ F = f) ∨ (f < 0 ∧ F = 0) := by rcases Int.lt_or_le f 0 with h | h; exact .inr ⟨h, x4 h⟩; exact .inl ⟨h, x3 h⟩
  have hG' : (t ≤ 1099511627776 ∧ G = t) ∨ (1099511627776 < t ∧ G = 1099511627776) := by rcases Int.lt_or_le 1099511627776 t with h | h; exact .inr ⟨h, y4 h⟩; exact .inl ⟨h, y3 h⟩
  clear x3 x4 y3 y4 cf ct hF hG
  obtain ⟨T2, hT2, hr2⟩ : ∃ T2, T2 = (if max a F < min b G then min b G else T1) ∧ RepU (step2 (f, t) fn (step1 (f, t) l (a, b, v)) (a, b, v)) g T2 := by
    refine ⟨_, rfl, ?_⟩
    unfold step2
    have hcut : cutI (a, b) (f, t) = if min b G ≤ max a F then (0, 0) else (max a F, min b G) := by unfold cutI; rw [hcF, hcT]
    simp only [hcut]
    by_cases h1 : max a F < min b G
    · rw [if_neg (by omega : ¬ min b G ≤ max a F), if_pos h1]
      have e1 : clampI (max a F) = max a F := by unfold clampI; rw [if_neg (by omega), if_neg (by omega)]
      have e2 : clampI (min b G) = min b G := by unfold clampI; rw [if_neg (by omega), if_neg (by omega)]
      rw [e1, e2, if_neg (by omega)]
      have hT : T1 = max a F := by rw [hT1]; split <;> omega
      rw [← hT]
      refine hr1.lay (by omega) (by omega) fun x hx hx' => ?_
      rw [hg x (by omega) (by omega), if_pos (by omega)]
    · rw [if_pos (by omega : min b G ≤ max a F), if_neg h1]
      have e0 : clampI 0 = 0 := rfl
      simp only [e0]
      rw [if_pos (Int.le_refl _)]
      exact hr1
  unfold stepU step3
  by_cases h3 : t < b
  · simp only [h3, if_true]
    have hT : T2 = maxU a t := by
      unfold maxU
      rw [hT2, hT1]
      split <;> (try split) <;> (try split) <;> omega
    rw [← hT]
    have hT' : T2 = max a t := by rw [hT]; unfold maxU; split <;> omega
    refine hr2.lay (by omega) (by omega) fun x hx hx' => ?_
    rw [hg x (by omega) hx', if_neg (by omega)]
  · simp only [h3, if_false]
    have hT : T2 = b := by rw [hT2, hT1]; split <;> (try split) <;> omega
    exact hT ▸ hr2

/-- right steps -/
structure RightU (L : List (Int × Int)) : Prop where
  head : ∃ v r, L = (0, v) :: r
  sorted : L.Pairwise (fun p q => p.1 < q.1)
  diff : ∀ (a b : List (Int × Int)) (p q : Int × Int), L = a ++ p :: q :: b → p.2 ≠ q.2
  hi : ∀ p ∈ L, p.1 < 1099511627776
  bd : ∀ p ∈ L, -1000000 ≤ p.2 ∧ p.2 ≤ 1000000
/-- the level at a time that lies in a step -/
theorem lvl_at {L : List (Int × Int)} (hs : L.Pairwise (fun p q => p.1 < q.1)) : ∀ (d : Int) (k : Nat) (x : Int), k < L.length → (L.getD k (0, 0)).1 ≤ x → (k + 1 < L.length → x < (L.getD (k + 1) (0, 0)).1) → lvl d L x = (L.getD k (0, 0)).2 := by
  induction L with
  | nil => intro d k x h; simp at h
  | cons p r ih =>
    intro d k x h h1 h2
    obtain ⟨hp, hr⟩ := List.pairwise_cons.1 hs
    cases k with
    | zero =>
      simp only [List.getD_cons_zero] at h1
      simp only [lvl, List.getD_cons_zero]
      rw [if_neg (by omega)]
      cases r with
      | nil => rfl
      | cons q s =>
        have := h2 (by simp)
        simp at this
        simp only [lvl]
        rw [if_pos this]
    | succ k =>
      have hk : k < r.length := by simpa using h
      simp only [List.getD_cons_succ] at h1 h2
      have hmem : r.getD k (0, 0) ∈ r := by rw [List.getD_eq_getElem?_getD, List.getElem?_eq_getElem hk]; exact List.getElem_mem hk
      have := hp _ hmem
      simp only [lvl, List.getD_cons_succ]
      rw [if_neg (by omega)]
      exact ih hr p.2 k x hk h1 fun hk' => h2 (by simpa using hk')
theorem toU_le {L : List (Int × Int)} (h : RightU L) {k : Nat} (hk : k < L.length) : 0 ≤ (L.getD k (0, 0)).1 ∧ (L.getD k (0, 0)).1 < toU L k ∧ toU L k ≤ 1099511627776 := by
  have hget : ∀ j, j < L.length → L.getD j (0, 0) ∈ L := fun j hj => by rw [List.getD_eq_getElem?_getD, List.getElem?_eq_getElem hj]; exact List.getElem_mem hj
  have h0 : 0 ≤ (L.getD k (0, 0)).1 := by
    obtain ⟨v, r, e⟩ := h.head
    cases k with
    | zero => rw [e]; simp
    | succ k =>
      have hs := h.sorted
      rw [e] at hs hk ⊢
      obtain ⟨hp, _⟩ := List.pairwise_cons.1 hs
      have hkr : k < r.length := by simpa using hk
      have hm : r.getD k (0, 0) ∈ r := by rw [List.getD_eq_getElem?_getD, List.getElem?_eq_getElem hkr]; exact List.getElem_mem hkr
      have h9 : 0 < (r.getD k (0, 0)).1 := hp _ hm
      simp only [List.getD_cons_succ]
      omega
  refine ⟨h0, ?_, ?_⟩
  · unfold toU
    split
    · rename_i hk1
      have := List.pairwise_iff_getElem.1 h.sorted k (k + 1) hk hk1 (by omega)
      rw [List.getD_eq_getElem?_getD, List.getD_eq_getElem?_getD, List.getElem?_eq_getElem hk, List.getElem?_eq_getElem hk1]
      exact this
    · exact h.hi _ (hget k hk)
  · unfold toU
    split
    · rename_i hk1
      have := h.hi _ (hget (k + 1) hk1); omega
    · omega
theorem runsU_drop' {L : List (Int × Int)} {k : Nat} (h : k < L.length) : (runsU L).drop k = ((L.getD k (0, 0)).1, toU L k, (L.getD k (0, 0)).2) :: (runsU L).drop (k + 1) := by
  have hl : k < (runsU L).length := by unfold runsU; simpa using h
  rw [List.drop_eq_getElem_cons hl]
  congr 1
  unfold runsU
  simp
/-- what a change leaves: the function's levels in the span, the others outside of it -/
theorem change_rep {L : List (Int × Int)} (h : RightU L) {fn : Int → Int} {f t : Int} (hft : clampI f < clampI t) : RepU ((runsU L).foldl (stepU (f, t) fn) []) (fun x => if f ≤ x ∧ x < t then fn (lvl 0 L x) else lvl 0 L x) 1099511627776 := by
  have key : ∀ (m k : Nat) (l : List (Int × Int)), k + m = L.length → (k < L.length → RepU l (fun x => if f ≤ x ∧ x < t then fn (lvl 0 L x) else lvl 0 L x) (L.getD k (0, 0)).1) → (k = L.length → RepU l (fun x => if f ≤ x ∧ x < t then fn (lvl 0 L x) else lvl 0 L x) 1099511627776) → RepU (((runsU L).drop k).foldl (stepU (f, t) fn) l) (fun x => if f ≤ x ∧ x < t then fn (lvl 0 L x) else lvl 0 L x) 1099511627776 := by
    intro m
    induction m with
    | zero =>
      intro k l hk _ h2
      have : (runsU L).drop k = [] := by apply List.drop_eq_nil_of_le; unfold runsU; simp; omega
      rw [this]
      exact h2 (by omega)
    | succ m ih =>
      intro k l hk h1 _
      have hkl : k < L.length := by omega
      rw [runsU_drop' hkl]
      obtain ⟨b0, b1, b2⟩ := toU_le h hkl
      have hstep := (h1 hkl).step (fn := fn) (f := f) (t := t) (b := toU L k) (v := (L.getD k (0, 0)).2) b0 b1 b2 hft (fun x hx hx' => by
        have hl : lvl 0 L x = (L.getD k (0, 0)).2 := lvl_at h.sorted 0 k x hkl hx fun hk1 => by unfold toU at hx'; rw [if_pos hk1] at hx'; exact hx'
        simp only [hl])
      refine ih (k + 1) _ (by omega) (fun hk1 => ?_) (fun hk1 => ?_)
      · have : toU L k = (L.getD (k + 1) (0, 0)).1 := by unfold toU; rw [if_pos hk1]
        rw [← this]; exact hstep
      · have : toU L k = 1099511627776 := by unfold toU; rw [if_neg (by omega)]
        rw [← this]; exact hstep
  have := key L.length 0 [] (by omega) (fun h0 => ?_) (fun h0 => ?_)
  · simpa using this
  · obtain ⟨v, r, e⟩ := h.head
    have : (L.getD 0 (0, 0)).1 = 0 := by rw [e]; rfl
    rw [this]
    exact ⟨fun _ => rfl, fun p hp => by simp at hp, List.Pairwise.nil, fun a b p q e => by simp at e, fun p hp => by simp at hp, fun x h1 h2 => by omega⟩
  · obtain ⟨v, r, e⟩ := h.head
    rw [e] at h0; simp at h0

theorem mem_at {L : List (Int × Int)} {p : Int × Int} (h : p ∈ L) : ∃ k, k < L.length ∧ L.getD k (0, 0) = p := by
  obtain ⟨k, hk, rfl⟩ := List.getElem_of_mem h
  exact ⟨k, hk, by rw [List.getD_eq_getElem?_getD, List.getElem?_eq_getElem hk]; rfl⟩
theorem rep_right {l : List (Int × Int)} {g : Int → Int} (h : RepU l g 1099511627776) (hg : ∀ x, 0 ≤ x → x < 1099511627776 → -1000000 ≤ g x ∧ g x ≤ 1000000) : RightU l := by
  have h0 : ∀ p ∈ l, 0 ≤ p.1 := by
    intro p hp
    cases l with
    | nil => simp at hp
    | cons q r =>
      have hq := h.head q rfl
      obtain ⟨hs, _⟩ := List.pairwise_cons.1 h.sorted
      rcases List.mem_cons.1 hp with rfl | hp
      · omega
      · have := hs p hp; omega
  refine ⟨?_, h.sorted, h.diff, h.hi, fun p hp => ?_⟩
  · cases l with
    | nil => have := h.nil rfl; omega
    | cons q r =>
      have hq := h.head q rfl
      exact ⟨q.2, r, by rw [← hq]⟩
  · obtain ⟨k, hk, rfl⟩ := mem_at hp
    have hv := lvl_at h.sorted 0 k (l.getD k (0, 0)).1 hk (Int.le_refl _) fun hk1 => by
      have := List.pairwise_iff_getElem.1 h.sorted k (k + 1) hk hk1 (by omega)
      rw [List.getD_eq_getElem?_getD, List.getD_eq_getElem?_getD, List.getElem?_eq_getElem hk, List.getElem?_eq_getElem hk1]
      exact this
    rw [← hv, h.val _ (h0 _ hp) (h.hi _ hp)]
    exact hg _ (h0 _ hp) (h.hi _ hp)
theorem diff_tail {p : Int × Int} {r : List (Int × Int)} (h : ∀ (a b : List (Int × Int)) (u v : Int × Int), p :: r = a ++ u :: v :: b → u.2 ≠ v.2) : ∀ (a b : List (Int × Int)) (u v : Int × Int), r = a ++ u :: v :: b → u.2 ≠ v.2 := fun a b u v e => h (p :: a) b u v (by rw [e]; rfl)
theorem same_from : ∀ (r s : List (Int × Int)) (a x y d e : Int), (∀ p ∈ (a, x) :: r, p.1 < 1099511627776) → (∀ p ∈ (a, y) :: s, p.1 < 1099511627776) → ((a, x) :: r).Pairwise (fun p q => p.1 < q.1) → ((a, y) :: s).Pairwise (fun p q => p.1 < q.1) →
    (∀ (c b : List (Int × Int)) (u v : Int × Int), (a, x) :: r = c ++ u :: v :: b → u.2 ≠ v.2) → (∀ (c b : List (Int × Int)) (u v : Int × Int), (a, y) :: s = c ++ u :: v :: b → u.2 ≠ v.2) →
    (∀ z, a ≤ z → z < 1099511627776 → lvl d ((a, x) :: r) z = lvl e ((a, y) :: s) z) → (a, x) :: r = (a, y) :: s := by
  intro r
  induction r with
  | nil =>
    intro s a x y d e hr hs pr ps dr ds hv
    have ha : a < 1099511627776 := hr (a, x) (by simp)
    cases s with
    | nil =>
      have := hv a (Int.le_refl _) ha
      simp [lvl] at this
      rw [this]
    | cons q s =>
      have hq : q.1 < 1099511627776 := hs q (by simp)
      have haq : a < q.1 := (List.pairwise_cons.1 ps).1 q (by simp)
      have h1 := hv a (Int.le_refl _) ha
      have h2 := hv q.1 (by omega) hq
      simp only [lvl, Int.lt_irrefl, if_false] at h1 h2
      rw [if_pos haq] at h1
      rw [if_neg (by omega), if_neg (by omega)] at h2
      have hn : lvl q.2 s q.1 = q.2 := by
        cases s with
        | nil => rfl
        | cons u w =>
          have : q.1 < u.1 := (List.pairwise_cons.1 (List.pairwise_cons.1 ps).2).1 u (by simp)
          simp only [lvl]; rw [if_pos this]
      rw [hn] at h2
      exact absurd (h1.symm.trans h2) (ds [] s (a, y) q rfl)
  | cons p r ih =>
    intro s a x y d e hr hs pr ps dr ds hv
    have ha : a < 1099511627776 := hr (a, x) (by simp)
    have hp : p.1 < 1099511627776 := hr p (by simp)
    have hap : a < p.1 := (List.pairwise_cons.1 pr).1 p (by simp)
    have hn : ∀ (p : Int × Int) (r : List (Int × Int)), (p :: r).Pairwise (fun p q => p.1 < q.1) → lvl p.2 r p.1 = p.2 := fun p r h => by
      cases r with
      | nil => rfl
      | cons u w =>
        have : p.1 < u.1 := (List.pairwise_cons.1 h).1 u (by simp)
        simp only [lvl]; rw [if_pos this]
    have h1 := hv a (Int.le_refl _) ha
    cases s with
    | nil =>
      have h2 := hv p.1 (by omega) hp
      simp only [lvl, Int.lt_irrefl, if_false] at h1 h2
      rw [if_pos hap] at h1
      rw [if_neg (by omega), if_neg (by omega)] at h2
      rw [hn p r (List.pairwise_cons.1 pr).2] at h2
      exact absurd (h1.trans h2.symm) (dr [] r (a, x) p rfl)
    | cons q s =>
      have hq : q.1 < 1099511627776 := hs q (by simp)
      have haq : a < q.1 := (List.pairwise_cons.1 ps).1 q (by simp)
      simp only [lvl, Int.lt_irrefl, if_false] at h1
      rw [if_pos hap, if_pos haq] at h1
      subst h1
      have hpq : p.1 = q.1 := by
        rcases Int.lt_trichotomy p.1 q.1 with h | h | h
        · have h2 := hv p.1 (by omega) hp
          simp only [lvl, Int.lt_irrefl, if_false] at h2
          rw [if_neg (by omega), if_neg (by omega), if_pos h, hn p r (List.pairwise_cons.1 pr).2] at h2
          exact absurd h2.symm (dr [] r (a, x) p rfl)
        · exact h
        · have h2 := hv q.1 (by omega) hq
          simp only [lvl, Int.lt_irrefl, if_false] at h2
          rw [if_neg (by omega), if_pos h, if_neg (by omega), hn q s (List.pairwise_cons.1 ps).2] at h2
          exact absurd h2 (ds [] s (a, x) q rfl)
      obtain ⟨p1, p2⟩ := p
      obtain ⟨q1, q2⟩ := q
      simp only at hpq
      subst hpq
      have := ih s p1 p2 q2 x x (fun u hu => hr u (by simp only [List.mem_cons] at hu ⊢; exact .inr hu)) (fun u hu => hs u (by simp only [List.mem_cons] at hu ⊢; exact .inr hu)) (List.pairwise_cons.1 pr).2 (List.pairwise_cons.1 ps).2 (diff_tail dr) (diff_tail ds) (fun z hz hz' => by
        have hz2 : ¬ z < a := by simp only at hap; omega
        have h3 : (if z < a then d else lvl x ((p1, p2) :: r) z) = (if z < a then e else lvl x ((p1, q2) :: s) z) := hv z (by omega) hz'
        rw [if_neg hz2, if_neg hz2] at h3
        exact h3)
      rw [this]
/-- right steps of the same levels are the same -/
theorem right_same_steps {L M : List (Int × Int)} (h : RightU L) (k : RightU M) (hv : ∀ x, 0 ≤ x → x < 1099511627776 → lvl 0 L x = lvl 0 M x) : L = M := by
  obtain ⟨v, r, e⟩ := h.head
  obtain ⟨u, s, e'⟩ := k.head
  subst e e'
  exact same_from r s 0 v u 0 0 h.hi k.hi h.sorted k.sorted h.diff k.diff hv
theorem change_right {L : List (Int × Int)} (h : RightU L) {fn : Int → Int} (hfn : ∀ x, -1000000 ≤ fn x ∧ fn x ≤ 1000000) (f t : Int) : RightU (changeU fn L (f, t)) ∧ ∀ x, 0 ≤ x → x < 1099511627776 → lvl 0 (changeU fn L (f, t)) x = if clampI f < clampI t ∧ f ≤ x ∧ x < t then fn (lvl 0 L x) else lvl 0 L x := by
  unfold changeU
  by_cases hft : clampI t ≤ clampI f
  · simp only [hft, if_true]
    exact ⟨h, fun x _ _ => by rw [if_neg (by omega)]⟩
  · simp only [hft, if_false]
    have hrep := change_rep h (fn := fn) (f := f) (t := t) (by omega)
    refine ⟨rep_right hrep fun x h0 h1 => ?_, fun x h0 h1 => ?_⟩
    · split
      · exact hfn _
      · have hb : ∀ (l : List (Int × Int)) (d : Int), (∀ p ∈ l, -1000000 ≤ p.2 ∧ p.2 ≤ 1000000) → -1000000 ≤ d ∧ d ≤ 1000000 → -1000000 ≤ lvl d l x ∧ lvl d l x ≤ 1000000 := by
          intro l
          induction l with
          | nil => intro d _ hd; exact hd
          | cons p r ih =>
            intro d hp hd
            simp only [lvl]
            split
            · exact hd
            · exact ih p.2 (fun q hq => hp q (by simp [hq])) (hp p (by simp))
        exact hb L 0 h.bd (by omega)
    · rw [hrep.val x h0 h1]
      by_cases hx : f ≤ x ∧ x < t
      · rw [if_pos hx, if_pos ⟨by omega, hx.1, hx.2⟩]
      · rw [if_neg hx, if_neg (fun hh => hx hh.2)]
end Go.Proofs.Ytbhnjmdlagjfbaa
namespace Go.Proofs.Ytbhnjmdlagjfbaa
set_option linter.unusedVariables false
open Go.ChangeShapes Go.WideShapes Go.ChangeAt Go.RowKit
attribute [local go_sem ↓] Go.wp_at_zero Go.wp_at_succ comesTo_value_eq comesTo_skip_eq comesTo_enter_eq

theorem those_pure {w : World} {B F : Nat} {l : List RV} {n : Int} (h : Rs w B F l n) (fb : FuncId) (caps : Array Value) (p : RV → Bool) (hE : Go.Proofs.Enters Try.prog fb)
    (hC : ∀ (r : RV) W, Below w.heap.size w W → Calls Try.prog fb (#[.agg #[.int .i64 r.1, .int .i64 r.2.1, .int .i64 r.2.2.1, .int .i64 r.2.2.2]] ++ caps) W fun e w' => e = .returned (.bool (p r)) ∧ Below W.heap.size W w') :
    Calls Try.prog 64 #[.pointer (some ⟨F, 0, none⟩), .func (.func fb) #[] caps] w fun e w' => ∃ v, e = .returned v ∧ OwnR w' w.heap.size v (l.filter p) ∧ Below w.heap.size w w' := by
  refine (those_any h fb caps p (fun _ W => Below w.heap.size w W) hE (Below.refl _ _) (fun k W v hb hr _ _ => hr.below hb) (fun k W W' hb hk => hb.trans (hk.below (Nat.le_refl _) hb.size)) (fun k W hk hb => ?_)).mono ?_
  · refine (hC _ W hb).mono ?_
    rintro e w' ⟨rfl, hb2⟩
    exact ⟨rfl, below_next hb hb2, StR.of_below hb2⟩
  · rintro e w' ⟨v, rfl, ho, hb, _⟩
    exact ⟨v, rfl, ho, hb⟩
theorem meets1 {W : World} {z : Nat} {f t : Int} (hz : W.heap[z]? = some (.cells #[.int .i64 f, .int .i64 t] 39 (0, 0))) (r : RV) :
    Calls Try.prog 65 #[.agg #[.int .i64 r.1, .int .i64 r.2.1, .int .i64 r.2.2.1, .int .i64 r.2.2.2], .pointer (some ⟨z, 0, none⟩)] W fun e w' => e = .returned (.bool (meetsU (r.2.1, r.2.2.1) (f, t))) ∧ Below W.heap.size W w' := by
  obtain ⟨r1, r2, r3, r4⟩ := r
  dsimp only
  have KM := Lib.hid (fun X => (show Calls Try.prog 66 #[.agg #[.int .i64 r2, .int .i64 r3], .agg #[.int .i64 f, .int .i64 t]] X fun e w' => e = .returned (.bool (meetsU (r2, r3) (f, t))) ∧ Below X.heap.size X w' from meets_any r2 r3 f t X))
  have hb := below_alloc (Below.refl _ W) (.cells #[.int .i64 r1, .int .i64 r2, .int .i64 r3, .int .i64 r4] 125)
  have hN := World.alloc_heap_new W (.cells #[.int .i64 r1, .int .i64 r2, .int .i64 r3, .int .i64 r4] 125)
  have hz1 := (hb.block _ (Array.getElem?_eq_some_iff.1 hz).1).trans hz
  have HB := Lib.hid hb
  generalize meetsU (r2, r3) (f, t) = m at *
  clear hz hb
  go_enter Try.func65, Try.ntmps65
  go_upto_region 1 with fail
  generalize W.alloc (.cells #[.int .i64 r1, .int .i64 r2, .int .i64 r3, .int .i64 r4] 125) = W1 at *
  have y1 : W1.cell? ⟨W.heap.size, 1, none⟩ = some (.int .i64 r2) := cell_of_block (o := 1) hN rfl
  have y2 : W1.cell? ⟨W.heap.size, 2, none⟩ = some (.int .i64 r3) := cell_of_block (o := 2) hN rfl
  have z0 : W1.cell? ⟨z, 0, none⟩ = some (.int .i64 f) := cell_of_block (o := 0) hz1 rfl
  have z1 : W1.cell? ⟨z, 1, none⟩ = some (.int .i64 t) := cell_of_block (o := 1) hz1 rfl
  clear hN hz1
  go_wp2_with fail
  refine (KM.out _).mono ?_
  rintro e w2 ⟨rfl, hb2⟩
  have HB2 := Lib.hid (below_next HB.out hb2)
  clear hb2 y1 y2 z0 z1
  go_wp2_with fail
  go_ret
  exact ⟨rfl, HB2.out⟩
theorem drop1 {W : World} {z : Nat} {i : Int} (hz : W.heap[z]? = some (.cells #[.int .i64 i] 3 (0, 0))) (r : RV) :
    Calls Try.prog 68 #[.agg #[.int .i64 r.1, .int .i64 r.2.1, .int .i64 r.2.2.1, .int .i64 r.2.2.2], .pointer (some ⟨z, 0, none⟩)] W fun e w' => e = .returned (.bool (r.1 != i)) ∧ Below W.heap.size W w' := by
  obtain ⟨r1, r2, r3, r4⟩ := r
  dsimp only
  have hb := below_alloc (Below.refl _ W) (.cells #[.int .i64 r1, .int .i64 r2, .int .i64 r3, .int .i64 r4] 125)
  have hN := World.alloc_heap_new W (.cells #[.int .i64 r1, .int .i64 r2, .int .i64 r3, .int .i64 r4] 125)
  have hz1 := (hb.block _ (Array.getElem?_eq_some_iff.1 hz).1).trans hz
  have HB := Lib.hid hb
  clear hz hb
  go_enter Try.func68, Try.ntmps68
  go_upto_region 1 with fail
  generalize W.alloc (.cells #[.int .i64 r1, .int .i64 r2, .int .i64 r3, .int .i64 r4] 125) = W1 at *
  have y1 : W1.cell? ⟨W.heap.size, 0, none⟩ = some (.int .i64 r1) := cell_of_block (o := 0) hN rfl
  have z0 : W1.cell? ⟨z, 0, none⟩ = some (.int .i64 i) := cell_of_block (o := 0) hz1 rfl
  clear hN hz1
  go_wp2_with fail
  go_ret
  exact ⟨rfl, HB.out⟩
/-- how far a reservation lowers -/
def lowW (W : Int) : Int := -(if 1073741824 < W then 1073741824 else if W < -1073741824 then -1073741824 else W)
def lower1 (L : List (Int × Int)) (r : RV) : List (Int × Int) := changeU (addF (byU (lowW r.2.2.2))) L (r.2.1, r.2.2.1)
def lowerU (L : List (Int × Int)) (l : List RV) : List (Int × Int) := l.foldl lower1 L
theorem addF_inR (b a : Int) : -1000000 ≤ addF b a ∧ addF b a ≤ 1000000 := boundU_in _
theorem lower1_right {L : List (Int × Int)} (h : RightU L) (r : RV) : RightU (lower1 L r) := (change_right h (addF_inR _) _ _).1
theorem lowerU_right {L : List (Int × Int)} (h : RightU L) (l : List RV) : RightU (lowerU L l) := by
  unfold lowerU
  induction l generalizing L with
  | nil => exact h
  | cons r l ih => exact ih (lower1_right h r)
theorem lower1_len (L : List (Int × Int)) (r : RV) : (lower1 L r).length ≤ 3 * L.length := changeU_len _ _ _
theorem lowerU_len (L : List (Int × Int)) (l : List RV) : (lowerU L l).length ≤ 3 ^ l.length * L.length := by
  unfold lowerU
  induction l generalizing L with
  | nil => simp
  | cons r l ih =>
    refine Nat.le_trans (ih (lower1 L r)) ?_
    rw [List.length_cons, Nat.pow_succ, Nat.mul_assoc]
    exact Nat.mul_le_mul_left _ (lower1_len L r)
theorem RightU.ne {L : List (Int × Int)} (h : RightU L) : 0 < L.length := by
  obtain ⟨v, r, rfl⟩ := h.head
  simp
theorem lowerU_take (L : List (Int × Int)) (l : List RV) {k : Nat} (hk : k < l.length) : lowerU L (l.take (k + 1)) = lower1 (lowerU L (l.take k)) (l.getD k zR) := by
  unfold lowerU
  rw [List.take_succ_eq_append_getElem hk, List.foldl_append]
  simp [List.getD, List.getElem?_eq_getElem hk]
theorem len_bound {n k : Nat} (hn : n * 6561 ≤ 1099511627776) (hk : k ≤ 8) : 3 ^ k * n ≤ 1099511627776 := by
  have h1 : 3 ^ k ≤ 3 ^ 8 := Nat.pow_le_pow_right (by decide) hk
  have h2 : 3 ^ k * n ≤ 3 ^ 8 * n := Nat.mul_le_mul_right _ h1
  have h3 : (3 : Nat) ^ 8 = 6561 := by decide
  rw [h3, Nat.mul_comm 6561 n] at h2
  omega
set_option maxRecDepth 100000 in
set_option maxHeartbeats 4000000 in
theorem lower_any {w : World} {S : Nat} {L : List (Int × Int)} {ad : Option Addr} {c : Nat} {l : List RV} (h : USt w S L) (hR : RightU L) (hL : L.length * 6561 ≤ 1099511627776) (hl : l.length ≤ 8)
    (hr : ∀ k, k < l.length → ∃ g, ad = some ⟨g, 0, none⟩ ∧ g < w.heap.size ∧ g ≠ S ∧ RowR w g l) :
    Calls Try.prog 63 #[.pointer (some ⟨S, 0, none⟩), .slice ad l.length c] w fun e w' => e = .returned (.int .i64 0) ∧ USt w' S (lowerU L l) ∧ FrU S w w' := by
  have KM := Lib.hid (made_u h)
  have H := Lib.hid h
  have HR := Lib.hid hR
  have HL := Lib.hid hL
  have HN := Lib.hid hl
  rcases Nat.eq_zero_or_pos l.length with hz | hz
  · obtain rfl := List.eq_nil_of_length_eq_zero hz
    clear h hR hL hl hr hz
    show Calls Try.prog 63 #[.pointer (some ⟨S, 0, none⟩), .slice ad 0 c] w _
    go_enter Try.func63, Try.ntmps63
    go_wp2_with fail
    refine KM.out.mono ?_
    rintro e w1 ⟨rfl, hb⟩
    have HB := Lib.hid hb
    clear hb
    go_wp2_with fail
    go_loopw [12] (fun i wr => i = .int .i64 0 ∧ wr = w1) (fun _ _ => 0)
    case atStart => exact ⟨rfl, rfl⟩
    case round =>
      obtain ⟨rfl, rfl⟩ := hrel
      go_wp2_with fail
      go_ret
      exact ⟨rfl, H.out.below HB.out, FrU.of_below HB.out⟩
  · obtain ⟨g, rfl, hg, hgS, hrow⟩ := hr 0 hz
    have HG := Lib.hid (And.intro hg (And.intro hgS hrow))
    clear h hR hL hl hr hz hg hgS hrow
    go_enter Try.func63, Try.ntmps63
    go_wp2_with fail
    refine KM.out.mono ?_
    rintro e w1 ⟨rfl, hb⟩
    have HU1 := Lib.hid (H.out.below hb)
    have HF1 := Lib.hid (FrU.of_below (S := S) hb)
    clear hb
    go_wp2_with fail
    go_loopw [12] (fun i wr => ∃ k : Nat, k ≤ l.length ∧ i = .int .i64 k ∧ USt wr S (lowerU L (l.take k)) ∧ FrU S w wr) (fun i _ => l.length - (intOf i).toNat)
    case atStart => exact ⟨0, Nat.zero_le _, rfl, HU1.out, HF1.out⟩
    case round =>
      obtain ⟨k, hk, rfl, hu, hf⟩ := hrel
      have HU := Lib.hid hu
      have HF := Lib.hid hf
      clear hu hf
      by_cases hlt : k < l.length
      · have hd : decide (k < l.length) = true := decide_eq_true hlt
        have hd2 : decide ((k : Int) < (l.length : Int)) = true := decide_eq_true (by omega)
        have hkl : (k : Int) < (l.length : Int) := by omega
        have hw1 : IntKind.i64.wrap ((k : Int) + 1) = (k : Int) + 1 := by have := HN.out; rw [IntKind.wrap_i64]; omega
        have hrr : RowR wr g l := HG.out.2.2.mono (HF.out.block g HG.out.1 HG.out.2.1)
        obtain ⟨x0, x1, x2, x3⟩ := hrr k hlt
        have HT := Lib.hid (lowerU_take L l hlt)
        have HRK := Lib.hid (lowerU_right HR.out (l.take k))
        have hlk : (l.take k).length ≤ 7 := by rw [List.length_take]; have := HN.out; omega
        have HLK := Lib.hid (show (lower1 (lowerU L (l.take k)) (l.getD k zR)).length ≤ 1099511627776 from by
          have h1 := lowerU_len L (l.take k)
          have h2 := lower1_len (lowerU L (l.take k)) (l.getD k zR)
          have h3 := len_bound HL.out (k := (l.take k).length + 1) (by omega)
          rw [Nat.pow_succ] at h3
          have h4 : 3 * (lowerU L (l.take k)).length ≤ 3 ^ (l.take k).length * 3 * L.length := by
            rw [Nat.mul_comm (3 ^ (l.take k).length) 3, Nat.mul_assoc]
            exact Nat.mul_le_mul_left 3 h1
          omega)
        clear hrr hlk
        generalize hrv : l.getD k zR = r at *
        obtain ⟨r1, r2, r3, r4⟩ := r
        dsimp only at x0 x1 x2 x3
        have KA := Lib.hid (fun W (hW : USt W S (lowerU L (l.take k))) => add_u hW r2 r3 (lowW r4) HLK.out (lower1_right HRK.out (r1, r2, r3, r4)).ne)
        have HB1 := below_alloc (Below.refl _ wr) (.cells #[.int .i64 r1, .int .i64 r2, .int .i64 r3, .int .i64 r4] 125)
        have hN := World.alloc_heap_new wr (.cells #[.int .i64 r1, .int .i64 r2, .int .i64 r3, .int .i64 r4] 125)
        have HU2 := Lib.hid (HU.out.below HB1)
        have HF2 := Lib.hid (show FrU S w (wr.alloc (.cells #[.int .i64 r1, .int .i64 r2, .int .i64 r3, .int .i64 r4] 125)) from ⟨Fr.trans HF.out.toFr (Fr.of_below (F := fun b => b = S) HB1) (fun j hj => .inl hj), fun b hb hr => (HF.out.row b hb hr).below HB1⟩)
        have y1 : (wr.alloc (.cells #[.int .i64 r1, .int .i64 r2, .int .i64 r3, .int .i64 r4] 125)).cell? ⟨wr.heap.size, 1, none⟩ = some (.int .i64 r2) := cell_of_block (o := 1) hN rfl
        have y2 : (wr.alloc (.cells #[.int .i64 r1, .int .i64 r2, .int .i64 r3, .int .i64 r4] 125)).cell? ⟨wr.heap.size, 2, none⟩ = some (.int .i64 r3) := cell_of_block (o := 2) hN rfl
        have y3 : (wr.alloc (.cells #[.int .i64 r1, .int .i64 r2, .int .i64 r3, .int .i64 r4] 125)).cell? ⟨wr.heap.size, 3, none⟩ = some (.int .i64 r4) := cell_of_block (o := 3) hN rfl
        clear hN HB1 HU HF hrv
        go_upto_region 6 with fail
        clear x0 x1 x2 x3
        generalize wr.alloc (.cells #[.int .i64 r1, .int .i64 r2, .int .i64 r3, .int .i64 r4] 125) = WW at *
        refine wp_region_lit ?_
        refine wpList_yield (w' := WW) (v := .pointer (some ⟨S, 0, none⟩)) rfl (by go_simp) ?_
        refine wpList_yield (w' := WW) (v := .pointer (some ⟨wr.heap.size, 1, none⟩)) rfl (by go_simp) ?_
        refine wpList_yield (w' := WW) (v := .agg #[.int .i64 r2, .int .i64 r3]) rfl (by go_simp) ?_
        refine wpList_yield (w' := WW) (v := .pointer (some ⟨wr.heap.size, 3, none⟩)) rfl (by go_simp) ?_
        refine wpList_yield (w' := WW) (v := .int .i64 r4) rfl (by go_simp) ?_
        have hA : (r4 < -1073741824 ∧ lowW r4 = 1073741824) ∨ (-1073741824 ≤ r4 ∧ 1073741824 < r4 ∧ lowW r4 = -1073741824) ∨ (-1073741824 ≤ r4 ∧ r4 ≤ 1073741824 ∧ lowW r4 = -r4) := by unfold lowW; split <;> (try split) <;> omega
        rcases hA with ⟨h1, he⟩ | ⟨h1, h2, he⟩ | ⟨h1, h2, he⟩
        · skip
          have d1 : decide (r4 < -1073741824) = true := decide_eq_true h1
          have d2 : decide (-1073741824 < r4) = false := decide_eq_false (by omega)
          have d3 : max r4 (-1073741824) = -1073741824 := by omega
          refine wpList_yield (w' := WW) (v := .int .i64 (-1073741824)) rfl (by first | (go_simp; done) | (go_simp; omega) | (go_simp; rfl)) ?_
          refine wpList_yield (w' := WW) (v := .int .i64 (-1073741824)) rfl (by first | (go_simp; done) | (go_simp; omega) | (go_simp; rfl)) ?_
          refine wpList_yield (w' := WW) (v := .int .i64 (lowW r4)) rfl (by rw [he]; first | (go_simp; done) | (go_simp; omega) | (go_simp; rfl)) ?_
          refine wpList_enter rfl (by go_simp) (KA.out WW HU2.out) ?_
          rintro e w3 ⟨rfl, hu3, hf3⟩
          have HU3 := Lib.hid (show USt w3 S (lowerU L (l.take (k + 1))) from by rw [HT.out]; exact hu3)
          have HF3 := Lib.hid (show FrU S w w3 from ⟨Fr.trans HF2.out.toFr hf3.toFr (fun j hj => .inl hj), fun b hb hr => hf3.row b (Nat.lt_of_lt_of_le hb HF2.out.size) (HF2.out.row b hb hr)⟩)
          clear hu3 hf3 y1 y2 y3
          refine ⟨_, rfl, ?_⟩
          go_wp2_with fail
          go_roundw
          case rel => exact ⟨k + 1, by omega, by go_num, HU3.out, HF3.out⟩
          case measure => simp [intOf]; omega
        · skip
          have d1 : decide (r4 < -1073741824) = false := decide_eq_false (by omega)
          have d3 : max r4 (-1073741824) = r4 := by omega
          have d4 : min r4 1073741824 = 1073741824 := by omega
          have d5 : decide (1073741824 < r4) = true := decide_eq_true h2
          have d6 : decide (r4 < 1073741824) = false := decide_eq_false (by omega)
          refine wpList_yield (w' := WW) (v := .int .i64 (r4)) rfl (by first | (go_simp; done) | (go_simp; omega) | (go_simp; rfl)) ?_
          refine wpList_yield (w' := WW) (v := .int .i64 (1073741824)) rfl (by first | (go_simp; done) | (go_simp; omega) | (go_simp; rfl)) ?_
          refine wpList_yield (w' := WW) (v := .int .i64 (lowW r4)) rfl (by rw [he]; first | (go_simp; done) | (go_simp; omega) | (go_simp; rfl)) ?_
          refine wpList_enter rfl (by go_simp) (KA.out WW HU2.out) ?_
          rintro e w3 ⟨rfl, hu3, hf3⟩
          have HU3 := Lib.hid (show USt w3 S (lowerU L (l.take (k + 1))) from by rw [HT.out]; exact hu3)
          have HF3 := Lib.hid (show FrU S w w3 from ⟨Fr.trans HF2.out.toFr hf3.toFr (fun j hj => .inl hj), fun b hb hr => hf3.row b (Nat.lt_of_lt_of_le hb HF2.out.size) (HF2.out.row b hb hr)⟩)
          clear hu3 hf3 y1 y2 y3
          refine ⟨_, rfl, ?_⟩
          go_wp2_with fail
          go_roundw
          case rel => exact ⟨k + 1, by omega, by go_num, HU3.out, HF3.out⟩
          case measure => simp [intOf]; omega
        · skip
          have d1 : decide (r4 < -1073741824) = false := decide_eq_false (by omega)
          have d3 : max r4 (-1073741824) = r4 := by omega
          have d4 : min r4 1073741824 = r4 := by omega
          have d5 : decide (1073741824 < r4) = false := decide_eq_false (by omega)
          have d7 : IntKind.i64.wrap (-r4) = -r4 := by rw [IntKind.wrap_i64]; omega
          refine wpList_yield (w' := WW) (v := .int .i64 (r4)) rfl (by first | (go_simp; done) | (go_simp; omega) | (go_simp; rfl)) ?_
          refine wpList_yield (w' := WW) (v := .int .i64 (r4)) rfl (by first | (go_simp; done) | (go_simp; omega) | (go_simp; rfl)) ?_
          refine wpList_yield (w' := WW) (v := .int .i64 (lowW r4)) rfl (by rw [he]; first | (go_simp; done) | (go_simp; omega) | (go_simp; rfl)) ?_
          refine wpList_enter rfl (by go_simp) (KA.out WW HU2.out) ?_
          rintro e w3 ⟨rfl, hu3, hf3⟩
          have HU3 := Lib.hid (show USt w3 S (lowerU L (l.take (k + 1))) from by rw [HT.out]; exact hu3)
          have HF3 := Lib.hid (show FrU S w w3 from ⟨Fr.trans HF2.out.toFr hf3.toFr (fun j hj => .inl hj), fun b hb hr => hf3.row b (Nat.lt_of_lt_of_le hb HF2.out.size) (HF2.out.row b hb hr)⟩)
          clear hu3 hf3 y1 y2 y3
          refine ⟨_, rfl, ?_⟩
          go_wp2_with fail
          go_roundw
          case rel => exact ⟨k + 1, by omega, by go_num, HU3.out, HF3.out⟩
          case measure => simp [intOf]; omega
      · obtain rfl : k = l.length := by omega
        have hd : decide (l.length < l.length) = false := decide_eq_false (by omega)
        have HU4 := Lib.hid (show USt wr S (lowerU L l) from by have := HU.out; rw [List.take_length] at this; exact this)
        go_wp2_with fail
        go_ret
        exact ⟨rfl, HU4.out, HF.out⟩
end Go.Proofs.Ytbhnjmdlagjfbaa
namespace Go.Proofs.Ytbhnjmdlagjfbaa
set_option linter.unusedVariables false
open Go.RowKit
/-- what has been chosen of the times up to T -/
structure ChoV (L : List (Int × Int)) (f t : Int) (rel : Int → Int → Prop) (T : Int) (st : Int × Bool) : Prop where
  no : st.2 = false → ∀ x, 0 ≤ x → x < T → ¬ (clampI f ≤ x ∧ x < clampI t)
  ex : st.2 = true → ∃ x, 0 ≤ x ∧ x < T ∧ clampI f ≤ x ∧ x < clampI t ∧ lvl 0 L x = st.1
  all : st.2 = true → ∀ x, 0 ≤ x → x < T → clampI f ≤ x → x < clampI t → rel st.1 (lvl 0 L x)
theorem clampI_bounds (n : Int) : 0 ≤ clampI n ∧ clampI n ≤ 1099511627776 := by unfold clampI; split <;> (try split) <;> omega
theorem clampI_of {n : Int} (h : 0 ≤ n) (h' : n ≤ 1099511627776) : clampI n = n := by unfold clampI; rw [if_neg (by omega), if_neg (by omega)]
theorem choose_spec {L : List (Int × Int)} (h : RightU L) (bt : Int → Int → Int) (rel : Int → Int → Prop) (hrefl : ∀ a, rel a a) (htrans : ∀ a b c, rel a b → rel b c → rel a c) (hb1 : ∀ a b, rel (bt a b) a ∧ rel (bt a b) b) (hb2 : ∀ a b, bt a b = a ∨ bt a b = b) (f t : Int) :
    ChoV L f t rel 1099511627776 (chooseGo bt (f, t) (runsU L) (0, false)) := by
  have key : ∀ (m k : Nat) (st : Int × Bool), k + m = L.length → (k < L.length → ChoV L f t rel (L.getD k (0, 0)).1 st) → (k = L.length → ChoV L f t rel 1099511627776 st) → ChoV L f t rel 1099511627776 (chooseGo bt (f, t) ((runsU L).drop k) st) := by
    intro m
    induction m with
    | zero =>
      intro k st hk _ h2
      have : (runsU L).drop k = [] := by apply List.drop_eq_nil_of_le; unfold runsU; simp; omega
      rw [this]
      exact h2 (by omega)
    | succ m ih =>
      intro k st hk h1 _
      have hkl : k < L.length := by omega
      rw [runsU_drop' hkl]
      obtain ⟨b0, b1, b2⟩ := toU_le h hkl
      have hl : ∀ x, (L.getD k (0, 0)).1 ≤ x → x < toU L k → lvl 0 L x = (L.getD k (0, 0)).2 := fun x hx hx' => lvl_at h.sorted 0 k x hkl hx fun hk1 => by unfold toU at hx'; rw [if_pos hk1] at hx'; exact hx'
      have H := h1 hkl
      generalize hA : (L.getD k (0, 0)).1 = A at *
      generalize hV : (L.getD k (0, 0)).2 = V at *
      have hm : meetsU (A, toU L k) (f, t) = decide (max A (clampI f) < min (toU L k) (clampI t)) := by
        unfold meetsU bothT bothF
        simp only
        rw [clampI_of b0 (by omega), clampI_of (show 0 ≤ toU L k by omega) b2]
        rw [Bool.eq_iff_iff]
        simp only [Bool.not_eq_true', decide_eq_false_iff_not, decide_eq_true_eq]
        omega
      have hst : ChoV L f t rel (toU L k) (if meetsU (A, toU L k) (f, t) then (if st.2 then (bt st.1 V, true) else (bt V V, true)) else st) := by
        rw [hm]
        by_cases hmm : max A (clampI f) < min (toU L k) (clampI t)
        · rw [decide_eq_true hmm]
          simp only [if_true]
          have hx0 := hl (max A (clampI f)) (by omega) (by omega)
          cases h2 : st.2 with
          | true =>
            simp only [if_true]
            obtain ⟨x, x0, x1, x2, x3, x4⟩ := H.ex h2
            refine ⟨fun hh => by simp at hh, fun _ => ?_, fun _ y y0 y1 y2 y3 => ?_⟩
            · rcases hb2 st.1 V with e | e
              · exact ⟨x, x0, by omega, x2, x3, x4.trans e.symm⟩
              · exact ⟨max A (clampI f), by omega, by omega, by omega, by omega, hx0.trans e.symm⟩
            · by_cases hy : y < A
              · exact htrans _ _ _ (hb1 st.1 V).1 (H.all h2 y y0 hy y2 y3)
              · rw [hl y (by omega) y1]; exact (hb1 st.1 V).2
          | false =>
            simp only [Bool.false_eq_true, if_false]
            have eVV : bt V V = V := by rcases hb2 V V with e | e <;> exact e
            rw [eVV]
            refine ⟨fun hh => by simp at hh, fun _ => ⟨max A (clampI f), by omega, by omega, by omega, by omega, hx0⟩, fun _ y y0 y1 y2 y3 => ?_⟩
            by_cases hy : y < A
            · exact absurd ⟨y2, y3⟩ (H.no h2 y y0 hy)
            · rw [hl y (by omega) y1]; exact hrefl _
        · rw [decide_eq_false hmm]
          simp only [Bool.false_eq_true, if_false]
          refine ⟨fun h2 y y0 y1 hy => ?_, fun h2 => ?_, fun h2 y y0 y1 y2 y3 => ?_⟩
          · by_cases hyA : y < A
            · exact H.no h2 y y0 hyA hy
            · omega
          · obtain ⟨x, x0, x1, x2⟩ := H.ex h2
            exact ⟨x, x0, by omega, x2⟩
          · by_cases hyA : y < A
            · exact H.all h2 y y0 hyA y2 y3
            · omega
      unfold chooseGo
      simp only
      by_cases hs : toU L k < t
      · rw [if_pos hs]
        refine ih (k + 1) _ (by omega) (fun hk1 => ?_) (fun hk1 => ?_)
        · have e : toU L k = (L.getD (k + 1) (0, 0)).1 := by unfold toU; rw [if_pos hk1]
          rw [← e]; exact hst
        · have e : toU L k = 1099511627776 := by unfold toU; rw [if_neg (by omega)]
          rw [← e]
          have := hst
          rw [e] at this ⊢
          exact this
      · rw [if_neg hs]
        have hct : clampI t ≤ toU L k := by unfold clampI; split <;> (try split) <;> omega
        exact ⟨fun h2 y y0 _ hy => hst.no h2 y y0 (by omega) hy, fun h2 => by obtain ⟨x, x0, x1, x2⟩ := hst.ex h2; exact ⟨x, x0, by omega, x2⟩, fun h2 y y0 _ y2 y3 => hst.all h2 y y0 (by omega) y2 y3⟩
  have := key L.length 0 (0, false) (by omega) (fun h0 => ?_) (fun h0 => ?_)
  · simpa using this
  · obtain ⟨v, r, e⟩ := h.head
    have : (L.getD 0 (0, 0)).1 = 0 := by rw [e]; rfl
    rw [this]
    exact ⟨fun _ x h1 h2 => by omega, fun hh => by simp at hh, fun hh => by simp at hh⟩
  · obtain ⟨v, r, e⟩ := h.head
    rw [e] at h0; simp at h0
theorem minU_rel : (∀ a b : Int, minU a b ≤ a ∧ minU a b ≤ b) ∧ ∀ a b : Int, minU a b = a ∨ minU a b = b := by
  constructor
  · intro a b; unfold minU; split <;> omega
  · intro a b; unfold minU; split <;> simp
theorem maxU_rel : (∀ a b : Int, a ≤ maxU a b ∧ b ≤ maxU a b) ∧ ∀ a b : Int, maxU a b = a ∨ maxU a b = b := by
  constructor
  · intro a b; unfold maxU; split <;> omega
  · intro a b; unfold maxU; split <;> simp
/-- the least level of a span that is not empty -/
theorem least_spec {L : List (Int × Int)} (h : RightU L) {f t : Int} (hft : clampI f < clampI t) : (∃ x, 0 ≤ x ∧ x < 1099511627776 ∧ clampI f ≤ x ∧ x < clampI t ∧ lvl 0 L x = chooseU minU L (f, t)) ∧ ∀ x, 0 ≤ x → x < 1099511627776 → clampI f ≤ x → x < clampI t → chooseU minU L (f, t) ≤ lvl 0 L x := by
  have hs := choose_spec h minU (fun a b => a ≤ b) (fun a => Int.le_refl a) (fun a b c => Int.le_trans) minU_rel.1 minU_rel.2 f t
  have hc := clampI_bounds f
  have hc2 := clampI_bounds t
  have h2 : (chooseGo minU (f, t) (runsU L) (0, false)).2 = true := by
    cases hh : (chooseGo minU (f, t) (runsU L) (0, false)).2 with
    | true => rfl
    | false => exact absurd ⟨Int.le_refl _, hft⟩ (hs.no hh (clampI f) hc.1 (by omega))
  exact ⟨hs.ex h2, hs.all h2⟩
theorem most_spec {L : List (Int × Int)} (h : RightU L) {f t : Int} (hft : clampI f < clampI t) : (∃ x, 0 ≤ x ∧ x < 1099511627776 ∧ clampI f ≤ x ∧ x < clampI t ∧ lvl 0 L x = chooseU maxU L (f, t)) ∧ ∀ x, 0 ≤ x → x < 1099511627776 → clampI f ≤ x → x < clampI t → lvl 0 L x ≤ chooseU maxU L (f, t) := by
  have hs := choose_spec h maxU (fun a b => b ≤ a) (fun a => Int.le_refl a) (fun a b c h1 h2 => Int.le_trans h2 h1) maxU_rel.1 maxU_rel.2 f t
  have hc := clampI_bounds f
  have hc2 := clampI_bounds t
  have h2 : (chooseGo maxU (f, t) (runsU L) (0, false)).2 = true := by
    cases hh : (chooseGo maxU (f, t) (runsU L) (0, false)).2 with
    | true => rfl
    | false => exact absurd ⟨Int.le_refl _, hft⟩ (hs.no hh (clampI f) hc.1 (by omega))
  exact ⟨hs.ex h2, hs.all h2⟩
/-- the level at a time -/
theorem at_spec {L : List (Int × Int)} (h : RightU L) (t : Int) : atU L t = lvl 0 L (min (clampI t) 1099511627775) := by
  have hc := clampI_bounds t
  have hm : minU (clampI t) 1099511627775 = min (clampI t) 1099511627775 := by unfold minU; split <;> omega
  unfold atU
  rw [hm]
  generalize hx : min (clampI t) 1099511627775 = x at *
  have hx0 : 0 ≤ x ∧ x ≤ 1099511627775 := by omega
  have e1 : clampI x = x := clampI_of hx0.1 (by omega)
  have e2 : addI x 1 = x + 1 := by unfold addI; rw [e1, show clampI 1 = 1 from rfl]; exact clampI_of (by omega) (by omega)
  rw [e1, e2]
  have e3 : clampI (x + 1) = x + 1 := clampI_of (by omega) (by omega)
  obtain ⟨⟨y, y0, y1, y2, y3, y4⟩, _⟩ := least_spec h (f := x) (t := x + 1) (by rw [e1, e3]; omega)
  rw [e1] at y2
  rw [e3] at y3
  have : y = x := by omega
  rw [← y4, this]
end Go.Proofs.Ytbhnjmdlagjfbaa
namespace Go.Proofs.Ytbhnjmdlagjfbaa
set_option linter.unusedVariables false
open Go.ChangeShapes Go.WideShapes Go.ChangeAt Go.RowKit
attribute [local go_sem ↓] Go.wp_at_zero Go.wp_at_succ comesTo_value_eq comesTo_skip_eq comesTo_enter_eq

theorem take_same {L M : List (Int × Int)} {k : Nat} (hk : k < L.length) (hm : k < M.length) (h : L.take k = M.take k) (e : L.getD k (0, 0) = M.getD k (0, 0)) : L.take (k + 1) = M.take (k + 1) := by
  rw [List.take_add_one (l := L), List.take_add_one (l := M), h, List.getElem?_eq_getElem hk, List.getElem?_eq_getElem hm]
  rw [List.getD_eq_getElem?_getD, List.getD_eq_getElem?_getD, List.getElem?_eq_getElem hk, List.getElem?_eq_getElem hm] at e
  have e' : L[k] = M[k] := e
  rw [e']
end Go.Proofs.Ytbhnjmdlagjfbaa
namespace Go.Proofs.Ytbhnjmdlagjfbaa
set_option linter.unusedVariables false
open Go.ChangeShapes Go.WideShapes Go.ChangeAt Go.RowKit
attribute [local go_sem ↓] Go.wp_at_zero Go.wp_at_succ comesTo_value_eq comesTo_skip_eq comesTo_enter_eq

theorem RightU.pos {L : List (Int × Int)} (h : RightU L) : 0 < L.length := by
  obtain ⟨v, r, e⟩ := h.head
  rw [e]; simp
theorem addF_in (n : Int) : ∀ x, -1000000 ≤ addF n x ∧ addF n x ≤ 1000000 := fun x => boundU_in _
theorem right_flat (n : Int) : RightU [(0, boundU n)] :=
  ⟨⟨_, _, rfl⟩, by simp, fun a b p q e => by have := congrArg List.length e; simp at this; omega, fun p hp => by simp at hp; subst hp; show (0 : Int) < 1099511627776; decide, fun p hp => by simp at hp; subst hp; exact boundU_in n⟩
theorem add_r {w : World} {S : Nat} {L : List (Int × Int)} (h : USt w S L) (hr : RightU L) (hl : 3 * L.length ≤ 1099511627776) (f t n : Int) :
    Calls Try.prog 44 #[.pointer (some ⟨S, 0, none⟩), .agg #[.int .i64 f, .int .i64 t], .int .i64 n] w fun e w' => e = .returned (.int .i64 0) ∧ USt w' S (changeU (addF (byU n)) L (f, t)) ∧ FrU S w w' :=
  add_u h f t n (by have := changeU_len (addF (byU n)) L (f, t); omega) (change_right hr (addF_in (byU n)) f t).1.pos
theorem set_r {w : World} {S : Nat} {L : List (Int × Int)} (h : USt w S L) (hr : RightU L) (hl : 3 * L.length ≤ 1099511627776) (f t n : Int) :
    Calls Try.prog 52 #[.pointer (some ⟨S, 0, none⟩), .agg #[.int .i64 f, .int .i64 t], .int .i64 n] w fun e w' => e = .returned (.int .i64 0) ∧ USt w' S (changeU (fun _ => boundU n) L (f, t)) ∧ FrU S w w' :=
  set_any h f t n (by have := changeU_len (fun _ => boundU n) L (f, t); omega) (change_right hr (fun _ => boundU_in n) f t).1.pos
/-- the levels behind a forgetting -/
def forgetU (L : List (Int × Int)) (t : Int) : List (Int × Int) := if clampI t = 1099511627776 then L else changeU (fun _ => boundU (atU L (clampI t))) L (0, clampI t)
theorem forget_right {L : List (Int × Int)} (h : RightU L) (t : Int) : RightU (forgetU L t) := by
  unfold forgetU
  split
  · exact h
  · exact (change_right h (fun _ => boundU_in _) 0 (clampI t)).1
theorem forgetU_len (L : List (Int × Int)) (t : Int) : (forgetU L t).length ≤ 3 * L.length := by
  unfold forgetU
  split
  · omega
  · exact changeU_len _ _ _
set_option maxRecDepth 100000 in
set_option maxHeartbeats 1000000 in
theorem forget_any {w : World} {S : Nat} {L : List (Int × Int)} (h : USt w S L) (hr : RightU L) (hl : 3 * L.length ≤ 1099511627776) (t : Int) :
    Calls Try.prog 54 #[.pointer (some ⟨S, 0, none⟩), .int .i64 t] w fun e w' => e = .returned (.int .i64 0) ∧ USt w' S (forgetU L t) ∧ FrU S w w' := by
  have KT := Lib.hid (there_any h)
  have KC := Lib.hid (fun W => clamp_any t W)
  have KA := Lib.hid (fun W x (hb : Below w.heap.size w W) => at_any (h.below hb) x)
  have KS := Lib.hid (fun W x y (hb : Below w.heap.size w W) => set_r (h.below hb) hr hl 0 x y)
  have HH := Lib.hid h
  obtain ⟨res, hres⟩ : ∃ r, r = forgetU L t := ⟨_, rfl⟩
  rw [← hres]
  have HR := Lib.hid (show res = if clampI t = 1099511627776 then L else changeU (fun _ => boundU (atU L (clampI t))) L (0, clampI t) from hres)
  clear h hres
  generalize clampI t = c at *
  by_cases hc : c = 1099511627776
  · have E := Lib.hid (show res = L by rw [HR.out, if_pos hc])
    have hd : (c == 1099511627776) = true := beq_iff_eq.2 hc
    go_enter Try.func54, Try.ntmps54
    go_wp2_with fail
    refine KT.out.mono ?_
    rintro e w' ⟨rfl, rfl⟩
    go_wp2_with fail
    refine (KC.out _).mono ?_
    rintro e w' ⟨rfl, rfl⟩
    go_wp2_with fail
    go_ret
    exact ⟨rfl, by rw [E.out]; exact HH.out, FrU.refl _ _⟩
  · have E := Lib.hid (show res = changeU (fun _ => boundU (atU L c)) L (0, c) by rw [HR.out, if_neg hc])
    have hd : (c == 1099511627776) = false := beq_eq_false_iff_ne.2 hc
    go_enter Try.func54, Try.ntmps54
    go_wp2_with fail
    refine KT.out.mono ?_
    rintro e w' ⟨rfl, rfl⟩
    go_wp2_with fail
    refine (KC.out _).mono ?_
    rintro e w' ⟨rfl, rfl⟩
    go_wp2_with fail
    refine (KA.out _ c (Below.refl _ _)).mono ?_
    rintro e w1 ⟨rfl, hb1⟩
    go_wp2_with fail
    refine (KS.out _ c (atU L c) hb1).mono ?_
    rintro e w2 ⟨rfl, hu, hf⟩
    have HX := Lib.hid (And.intro hu (FrU.after hb1 hf))
    clear hu hf hb1
    go_wp2_with fail
    go_ret
    exact ⟨rfl, by rw [E.out]; exact HX.out.1, HX.out.2⟩
end Go.Proofs.Ytbhnjmdlagjfbaa
