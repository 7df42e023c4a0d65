/- Levels (layer 10): change. Condition: the lengths' bounds, and that some step comes of it. -/
import Derived.Test.YthdljigcfhjikaaUsg
import Derived.Laws.EntriesVeiled
namespace Go.Proofs.Ythdljigcfhjikaa
set_option linter.unusedVariables false
open Go.ChangeShapes Go.WideShapes Go.ChangeAt Go.RowKit
attribute [local go_sem ↓] Go.wp_at_zero Go.wp_at_succ comesTo_value_eq comesTo_skip_eq comesTo_enter_eq

/-- the levels behind a change of a span's -/
def changeU (fn : Int → Int) (L : List (Int × Int)) (t : Int × Int) : List (Int × Int) := if clampI t.2 ≤ clampI t.1 then L else (runsU L).foldl (stepU t fn) []
theorem foldl_len (t : Int × Int) (fn : Int → Int) : ∀ (rs : List (Int × Int × Int)) (l : List (Int × Int)), (rs.foldl (stepU t fn) l).length ≤ l.length + 3 * rs.length
  | [], l => by simp
  | r :: rs, l => by
    have h1 := foldl_len t fn rs (stepU t fn l r)
    have h2 := stepU_len t fn l r
    simp only [List.foldl_cons, List.length_cons]
    omega
theorem changeU_len (fn : Int → Int) (L : List (Int × Int)) (t : Int × Int) : (changeU fn L t).length ≤ 3 * L.length := by
  unfold changeU
  split
  · omega
  · have := foldl_len t fn (runsU L) []
    have h2 : (runsU L).length = L.length := by unfold runsU; simp
    simp only [List.length_nil] at this
    omega
/-- runs under change -/
theorem runs_change {w : World} {z S g c : Nat} {L : List (Int × Int)} (hlen : L.length ≤ 1099511627776) (f t : Int) (bf : FuncId) (bc : Array Value) (fn : Int → Int) (hE : Go.Proofs.Enters Try.prog bf)
    (hF : ∀ a W', Below w.heap.size w W' → Calls Try.prog bf (#[.int .i64 a] ++ bc) W' fun e w' => e = .returned (.int .i64 (fn a)) ∧ W' = w')
    (hU : ∀ W, Below w.heap.size w W → W.cell? ⟨S, 0, none⟩ = some (.slice (some ⟨g, 0, none⟩) L.length c) ∧ URow W g L) (W : World) (hW : ChgU w W z f t bf bc []) :
    Calls Try.prog 62 #[.pointer (some ⟨S, 0, none⟩), .func (.func 84) #[] #[.pointer (some ⟨w.heap.size, 0, none⟩), .pointer (some ⟨z + 2, 0, none⟩), .pointer (some ⟨w.heap.size + 1, 0, none⟩)]] W
      fun e w' => (∃ v, e = .returned v) ∧ ChgU w w' z f t bf bc ((runsU L).foldl (stepU (f, t) fn) []) := by
  refine (runs_any (S := S) (g := g) (c := c) hlen 84 #[.pointer (some ⟨w.heap.size, 0, none⟩), .pointer (some ⟨z + 2, 0, none⟩), .pointer (some ⟨w.heap.size + 1, 0, none⟩)]
    (fun k W => ∃ l, ChgU w W z f t bf bc l ∧ l.length ≤ 3 * k ∧ ((runsU L).drop k).foldl (stepU (f, t) fn) l = (runsU L).foldl (stepU (f, t) fn) []) (fun _ => False) W
    (enters_of Try.func84 (by kernel_rfl) rfl) ⟨[], hW, by simp, rfl⟩ (fun k W' ⟨l, hc, _⟩ => hU W' hc.bel) (fun k W' W'' ⟨l, hc, hl, he⟩ hb => ⟨l, hc.below hb, hl, he⟩) ?_).mono ?_
  · intro k W' hk ⟨l, hc, hl, he⟩
    refine (visit_any hc (by omega) fn hE hF (L.getD k (0, 0)).1 (toU L k) (L.getD k (0, 0)).2).mono ?_
    rintro e W'' ⟨rfl, hc2⟩
    refine ⟨true, rfl, fun _ => ⟨_, hc2, ?_, ?_⟩, fun h => by cases h⟩
    · have := stepU_len (f, t) fn l ((L.getD k (0, 0)).1, toU L k, (L.getD k (0, 0)).2); omega
    · rw [runsU_drop hk] at he
      exact he
  · rintro e W' ⟨hv, hx | hx⟩
    · obtain ⟨l, hc, _, he⟩ := hx
      rw [runsU_end] at he
      exact ⟨hv, by rw [← he]; exact hc⟩
    · exact hx.elim
/-- the row of S's steps does not lie in block b -/
def RowNe (w : World) (S b : Nat) : Prop := ∃ g n c, w.heap[S]? = some (.cells #[.slice (some ⟨g, 0, none⟩) n c] 63 (0, 0)) ∧ g ≠ b
/-- of the blocks that were there just S may have turned, and its row lies in none of them, but where it lay -/
structure FrU (S : Nat) (w w' : World) : Prop extends Fr (fun b => b = S) w w' where
  row : ∀ b, b < w.heap.size → RowNe w S b → RowNe w' S b
theorem RowNe.below {w w' : World} {S b : Nat} (h : RowNe w S b) (hb : Below w.heap.size w w') : RowNe w' S b := by
  obtain ⟨g, n, c, h1, h2⟩ := h
  exact ⟨g, n, c, (hb.block _ (Array.getElem?_eq_some_iff.1 h1).1).trans h1, h2⟩
theorem FrU.of_below {S : Nat} {w w' : World} (h : Below w.heap.size w w') : FrU S w w' := ⟨Fr.of_below h, fun b _ hr => hr.below h⟩
theorem FrU.refl (S : Nat) (w : World) : FrU S w w := ⟨Fr.refl _ w, fun _ _ h => h⟩
theorem FrU.after {S : Nat} {w W w' : World} (hb : Below w.heap.size w W) (h : FrU S W w') : FrU S w w' :=
  ⟨Fr.trans (Fr.of_below hb) h.toFr fun j hj => .inl hj, fun b hlt hr => h.row b (Nat.lt_of_lt_of_le hlt hb.size) (hr.below hb)⟩
theorem USt.rowNe {w : World} {S : Nat} {L : List (Int × Int)} (h : USt w S L) {b : Nat} (hb : w.heap.size ≤ b) : RowNe w S b := by
  obtain ⟨g, c, hg, hS, hc, hs, hr⟩ := h.at_
  exact ⟨g, _, c, hS, by omega⟩
/-- levels stay where a block is written that is neither theirs nor their row's -/
theorem USt.wrote {w w' : World} {S B : Nat} {L : List (Int × Int)} (h : USt w S L) (hn : RowNe w S B) (hSB : S ≠ B) (hk : ∀ k, k ≠ B → w'.heap[k]? = w.heap[k]?) (hs : w.heap.size ≤ w'.heap.size) : USt w' S L ∧ RowNe w' S B := by
  obtain ⟨g, c, hg, hS, hc, hs', hr⟩ := h.at_
  obtain ⟨g2, n2, c2, h1, h2⟩ := hn
  rw [hS] at h1
  have e : g = g2 := by
    have := Option.some.inj h1
    injection this with e1
    have e2 : (Value.slice (some ⟨g, 0, none⟩) L.length c) = .slice (some ⟨g2, 0, none⟩) n2 c2 := by simpa using e1
    injection e2 with e3
    simpa using e3
  subst e
  exact ⟨⟨⟨g, c, hg, (hk S hSB).trans hS, hc, Nat.lt_of_lt_of_le hs' hs, hr.mono (hk g h2)⟩, h.pos, h.len⟩, ⟨g, _, c, (hk S hSB).trans hS, h2⟩⟩
set_option maxRecDepth 100000 in
set_option maxHeartbeats 8000000 in
theorem change_any {w : World} {S : Nat} {L : List (Int × Int)} (h : USt w S L) (f t : Int) (bf : FuncId) (bc : Array Value) (fn : Int → Int) (hE : Go.Proofs.Enters Try.prog bf)
    (hF : ∀ a W', Below w.heap.size w W' → Calls Try.prog bf (#[.int .i64 a] ++ bc) W' fun e w' => e = .returned (.int .i64 (fn a)) ∧ W' = w')
    (hlen' : (changeU fn L (f, t)).length ≤ 1099511627776) (hpos : 0 < (changeU fn L (f, t)).length) :
    Calls Try.prog 65 #[.pointer (some ⟨S, 0, none⟩), .agg #[.int .i64 f, .int .i64 t], .func (.func bf) #[] bc] w
      fun e w' => e = .returned (.int .i64 0) ∧ USt w' S (changeU fn L (f, t)) ∧ FrU S w w' := by
  obtain ⟨g, c, hg, hS, hc, hs, hr⟩ := h.at_
  have hSl := (Array.getElem?_eq_some_iff.1 hS).1
  have hlen := h.len
  have hU : ∀ W, Below w.heap.size w W → W.cell? ⟨S, 0, none⟩ = some (.slice (some ⟨g, 0, none⟩) L.length c) ∧ URow W g L := fun W hb => ⟨cell_of_block (o := 0) ((hb.block _ hSl).trans hS) rfl, hr.mono (hb.block _ hs)⟩
  have KR := Lib.hid (fun z W hW => runs_change (z := z) hlen f t bf bc fn hE hF hU W hW)
  have KT := Lib.hid (fun W (hb : Below w.heap.size w W) => there_any (h.below hb))
  have KE := Lib.hid (fun W => empty_any f t W)
  have HH := Lib.hid h
  have HU := Lib.hid hU
  have HS := Lib.hid hS
  clear hF hE hg hc hs hr hU hS h
  obtain ⟨res, hres⟩ : ∃ r, r = changeU fn L (f, t) := ⟨_, rfl⟩
  rw [← hres] at hlen' hpos ⊢
  have HR := Lib.hid hres
  clear hres
  have hb1 := below_alloc (Below.refl _ w) (.cells #[.int .i64 f, .int .i64 t] 25)
  have hb2 := below_alloc hb1 (.cells #[.func (.func bf) #[] bc] 98)
  have HB2 := Lib.hid hb2
  have n1 := World.alloc_heap_new w (.cells #[.int .i64 f, .int .i64 t] 25)
  have n2 := World.alloc_heap_new (w.alloc (.cells #[.int .i64 f, .int .i64 t] 25)) (.cells #[.func (.func bf) #[] bc] 98)
  rw [show (w.alloc (.cells #[.int .i64 f, .int .i64 t] 25)).heap.size = w.heap.size + 1 by simp] at n2
  have n1' := (((below_alloc (Below.refl _ (w.alloc (.cells #[.int .i64 f, .int .i64 t] 25))) (.cells #[.func (.func bf) #[] bc] 98)).block _ (by simp)).trans n1)
  have hs2 : ((w.alloc (.cells #[.int .i64 f, .int .i64 t] 25)).alloc (.cells #[.func (.func bf) #[] bc] 98)).heap.size = w.heap.size + 1 + 1 := by simp
  have N1 := Lib.hid n1'
  have N2 := Lib.hid n2
  clear n1 n2 n1' hb1 hb2
  go_enter Try.func65, Try.ntmps65
  go_upto_region 1 with fail
  generalize (w.alloc (.cells #[.int .i64 f, .int .i64 t] 25)).alloc (.cells #[.func (.func bf) #[] bc] 98) = W2 at *
  have s0 := cell_of_block (o := 0) N1.out rfl
  have s1 := cell_of_block (o := 1) N1.out rfl
  go_wp2_with fail
  refine (KT.out _ HB2.out).mono ?_
  rintro e w' ⟨rfl, rfl⟩
  go_wp2_with fail
  refine (KE.out _).mono ?_
  rintro e W3 ⟨rfl, hb3⟩
  have HB3 := Lib.hid (below_next HB2.out hb3)
  have M1 := Lib.hid ((hb3.block _ (Array.getElem?_eq_some_iff.1 N1.out).1).trans N1.out)
  have M2 := Lib.hid ((hb3.block _ (Array.getElem?_eq_some_iff.1 N2.out).1).trans N2.out)
  have hz2 : w.heap.size + 1 < W3.heap.size := by have := hb3.size; omega
  clear hb3 N1 N2 s0 s1 hs2 HB2
  cases hem : decide (clampI t ≤ clampI f) with
  | true =>
    have E := Lib.hid (show res = L by rw [HR.out]; unfold changeU; exact if_pos (of_decide_eq_true hem))
    go_wp2_with fail
    go_ret
    exact ⟨rfl, by rw [E.out]; exact HH.out.below HB3.out, FrU.of_below HB3.out⟩
  | false =>
    have E := Lib.hid (show res = (runsU L).foldl (stepU (f, t) fn) [] by rw [HR.out]; unfold changeU; exact if_neg (of_decide_eq_false hem))
    have hw2 : IntKind.i64.wrap ((L.length : Int) + 2) = ((L.length + 2 : Nat) : Int) := by rw [IntKind.wrap_i64]; omega
    have cS := (HU.out W3 HB3.out).1
    clear hem
    go_upto_region 5 with fail
    refine wp_region_lit ?_
    refine wpList_yield (w' := W3) (v := .pointer (some ⟨S, 0, none⟩)) rfl (by first | (go_simp; done) | (go_simp; rfl)) ?_
    refine wpList_yield (w' := W3) (v := .pointer (some ⟨S, 0, none⟩)) rfl (by first | (go_simp; done) | (go_simp; rfl)) ?_
    refine wpList_yield (w' := W3) (v := .pointer (some ⟨S, 0, none⟩)) rfl (by first | (go_simp; done) | (go_simp; rfl)) ?_
    refine wpList_yield (w' := W3) (v := .slice (some ⟨g, 0, none⟩) L.length c) rfl (by first | (go_simp; done) | (go_simp; rfl)) ?_
    refine wpList_yield (w' := W3) (v := .int .i64 (L.length : Int)) rfl (by first | (go_simp; done) | (go_simp; rfl)) ?_
    refine wpList_yield (w' := W3) (v := .int .i64 ((L.length + 2 : Nat) : Int)) rfl (by rw [← hw2]; first | (go_simp; done) | (go_simp; rfl)) ?_
    refine wpList_make_step rfl _ _ rfl (L.length + 2) (by go_simp) (by go_simp) (by omega) ?_
    intro cs ho
    have hb4 := below_alloc (Below.refl _ W3) (.cells cs 60)
    obtain ⟨z, hz⟩ : ∃ z, z = W3.heap.size := ⟨_, rfl⟩
    have hz4 : (W3.alloc (.cells cs 60)).heap.size = z + 1 := by rw [hz]; simp
    have HB4 := Lib.hid (below_next HB3.out hb4)
    have Q1 := Lib.hid ((hb4.block _ (Array.getElem?_eq_some_iff.1 M1.out).1).trans M1.out)
    have Q2 := Lib.hid ((hb4.block _ (Array.getElem?_eq_some_iff.1 M2.out).1).trans M2.out)
    rw [← hz] at ho hz2 ⊢
    clear hz hb4 HB3 M1 M2 cS
    generalize W3.alloc (.cells cs 60) = W4 at *
    go_upto_region 6 with fail
    have hb5 := below_alloc (Below.refl _ W4) (.cells #[.slice (some ⟨z, 0, none⟩) 0 (L.length + 2)] 55)
    have n5 := World.alloc_heap_new W4 (.cells #[.slice (some ⟨z, 0, none⟩) 0 (L.length + 2)] 55)
    rw [hz4] at n5
    have hz5 : (W4.alloc (.cells #[.slice (some ⟨z, 0, none⟩) 0 (L.length + 2)] 55)).heap.size = z + 1 + 1 := by simp [hz4]
    have ho5 := ho.below hb5
    have HB5 := Lib.hid (below_next HB4.out hb5)
    have R1 := Lib.hid ((hb5.block _ (Array.getElem?_eq_some_iff.1 Q1.out).1).trans Q1.out)
    have R2 := Lib.hid ((hb5.block _ (Array.getElem?_eq_some_iff.1 Q2.out).1).trans Q2.out)
    have N5 := Lib.hid n5
    clear hb5 n5 ho HB4 Q1 Q2 hz4
    generalize W4.alloc (.cells #[.slice (some ⟨z, 0, none⟩) 0 (L.length + 2)] 55) = W5 at *
    refine wp_region_lit ?_
    refine wpList_yield (w' := W5) (v := .func (.func 83) #[] #[.pointer (some ⟨z + 1, 0, none⟩)]) rfl (by first | (go_simp; done) | (go_simp; rfl)) ?_
    refine wpList_yield (w' := W5.alloc (.cells #[.nilFunc] 120)) (v := .pointer (some ⟨W5.heap.size, 0, none⟩)) rfl (by first | (go_simp; done) | (go_simp; rfl)) ?_
    have hb6 := below_alloc (Below.refl _ W5) (.cells #[.nilFunc] 120)
    have n6 := World.alloc_heap_new W5 (.cells #[.nilFunc] 120)
    rw [hz5] at n6 ⊢
    have ho6 := ho5.below hb6
    have HB6 := Lib.hid (below_next HB5.out hb6)
    have S1 := Lib.hid ((hb6.block _ (Array.getElem?_eq_some_iff.1 R1.out).1).trans R1.out)
    have S2 := Lib.hid ((hb6.block _ (Array.getElem?_eq_some_iff.1 R2.out).1).trans R2.out)
    have S5 := Lib.hid ((hb6.block _ (Array.getElem?_eq_some_iff.1 N5.out).1).trans N5.out)
    clear hb6 HB5 R1 R2 N5 ho5
    generalize W5.alloc (.cells #[.nilFunc] 120) = W6 at *
    have y0 := cell_of_block (o := 0) n6 rfl
    have z0 := free_of_block 0 n6
    have hw := (wrote_refl n6).set 0 (.func (.func 83) #[] #[.pointer (some ⟨z + 1, 0, none⟩)])
    have hCh : ChgU w (W6.setCell ⟨z + 1 + 1, 0, none⟩ (.func (.func 83) #[] #[.pointer (some ⟨z + 1, 0, none⟩)])) z f t bf bc [] :=
      ⟨(hw.rest _ (by omega)).trans S1.out, (hw.rest _ (by omega)).trans S2.out, ⟨_, (hw.rest _ (by omega)).trans S5.out, ho6.blockOf (fun k e => by have e' : z = k := Option.some.inj e; exact hw.rest k (by omega)), fun k e => by have e' : z = k := Option.some.inj e; exact .inl e'.symm⟩, hw.there, hw.below HB6.out (by omega), hz2⟩
    have HCH := Lib.hid hCh
    clear hCh hw ho6
    go_upto_region 7 with fail
    clear y0 z0 n6
    generalize W6.setCell ⟨z + 1 + 1, 0, none⟩ (.func (.func 83) #[] #[.pointer (some ⟨z + 1, 0, none⟩)]) = W7 at *
    go_wp2_with fail
    refine (KR.out z _ HCH.out).mono ?_
    rintro e W8 ⟨⟨v8, rfl⟩, hc8⟩
    rw [← E.out] at hc8
    obtain ⟨v, hv, hov, hvk⟩ := hc8.row
    obtain ⟨ad, cc, rfl, hcc, had⟩ := hov.form
    obtain ⟨g2, rfl, hg2, hg3⟩ := had hpos
    have S8 := Lib.hid ((hc8.bel.block _ hSl).trans HS.out)
    have v0 := cell_of_block (o := 0) hv rfl
    have c80 := cell_of_block (o := 0) S8.out rfl
    have f80 := free_of_block 0 S8.out
    have hwS := (wrote_refl S8.out).set 0 (.slice (some ⟨g2, 0, none⟩) res.length cc)
    have HFIN := Lib.hid (show USt (W8.setCell ⟨S, 0, none⟩ (.slice (some ⟨g2, 0, none⟩) res.length cc)) S res ∧ FrU S w (W8.setCell ⟨S, 0, none⟩ (.slice (some ⟨g2, 0, none⟩) res.length cc)) from by
      refine ⟨⟨⟨g2, cc, by omega, hwS.there, hcc, by rw [hwS.size]; exact hg3, hov.row.mono (hwS.rest _ (by omega))⟩, hpos, hlen'⟩, Fr.set (F := fun b => b = S) (Fr.of_below hc8.bel) (show (fun b => b = S) S from rfl) 0 _, fun b hb _ => ⟨g2, _, cc, hwS.there, by omega⟩⟩)
    clear hwS hv hov hvk hc8 had
    go_wp2_with fail
    go_ret
    exact ⟨rfl, HFIN.out.1, HFIN.out.2⟩
end Go.Proofs.Ythdljigcfhjikaa
