/- Levels (layer 10): how a step is laid behind others (the literal in change). Condition: at most 2^42 steps. -/
import Derived.Test.YthdljigcfhjikaaUse
namespace Go.Proofs.Ythdljigcfhjikaa
set_option linter.unusedVariables false
open Go.ChangeShapes Go.WideShapes Go.ChangeAt Go.RowKit
attribute [local go_sem ↓] Go.wp_at_zero Go.wp_at_succ comesTo_value_eq comesTo_skip_eq comesTo_enter_eq

/-- a level laid from a time on, where it is another one than the last -/
def layU (l : List (Int × Int)) (at_ lv : Int) : List (Int × Int) := if l.getLast?.map (·.2) = some lv then l else l ++ [(at_, lv)]
theorem layU_len (l : List (Int × Int)) (a v : Int) : (layU l a v).length ≤ l.length + 1 := by unfold layU; split <;> simp
theorem last_getD {l : List (Int × Int)} (h : 0 < l.length) : l.getLast? = some (l.getD (l.length - 1) (0, 0)) := by
  rw [List.getLast?_eq_getElem?, List.getD_eq_getElem?_getD, List.getElem?_eq_getElem (by omega)]
  rfl
/-- a change under way: the span's box, the function's, the row's, lay's -/
structure ChgU (w W : World) (z : Nat) (f t : Int) (bf : FuncId) (bc : Array Value) (l : List (Int × Int)) : Prop where
  span : W.heap[w.heap.size]? = some (.cells #[.int .i64 f, .int .i64 t] 25 (0, 0))
  func : W.heap[w.heap.size + 1]? = some (.cells #[.func (.func bf) #[] bc] 98 (0, 0))
  row : ∃ v, W.heap[z + 1]? = some (.cells #[v] 55 (0, 0)) ∧ OwnU W (z) v l ∧ ∀ k, v.ownBlock = some k → k = z ∨ z + 3 ≤ k
  lay : W.heap[z + 2]? = some (.cells #[.func (.func 83) #[] #[.pointer (some ⟨z + 1, 0, none⟩)]] 120 (0, 0))
  bel : Below w.heap.size w W
  hz : w.heap.size + 1 < z
theorem ChgU.below {w W W' : World} {z : Nat} {f t : Int} {bf : FuncId} {bc : Array Value} {l : List (Int × Int)} (h : ChgU w W z f t bf bc l) (hb : Below W.heap.size W W') : ChgU w W' z f t bf bc l := by
  obtain ⟨v, hv, ho, hk⟩ := h.row
  exact ⟨(hb.block _ (Array.getElem?_eq_some_iff.1 h.span).1).trans h.span, (hb.block _ (Array.getElem?_eq_some_iff.1 h.func).1).trans h.func, ⟨v, (hb.block _ (Array.getElem?_eq_some_iff.1 hv).1).trans hv, ho.below hb, hk⟩, (hb.block _ (Array.getElem?_eq_some_iff.1 h.lay).1).trans h.lay, below_next h.bel hb, h.hz⟩
theorem ChgU.big {w W : World} {z : Nat} {f t : Int} {bf : FuncId} {bc : Array Value} {l : List (Int × Int)} (h : ChgU w W z f t bf bc l) : z + 3 ≤ W.heap.size := (Array.getElem?_eq_some_iff.1 h.lay).1
/-- the row has grown, and its box holds the new one -/
theorem ChgU.grow {w W W' : World} {z : Nat} {f t : Int} {bf : FuncId} {bc : Array Value} {l l' : List (Int × Int)} (h : ChgU w W z f t bf bc l) {v v' : Value} (hv : W.heap[z + 1]? = some (.cells #[v] 55 (0, 0)))
    (hk : ∀ k, v.ownBlock = some k → k = z ∨ z + 3 ≤ k) (ho' : OwnU W' (z) v' l') (hg : W.grownBy W' v.ownBlock) (hn : v'.ownBlock = v.ownBlock ∨ v'.ownBlock = some W.heap.size) :
    ChgU w (W'.setCell ⟨z + 1, 0, none⟩ v') z f t bf bc l' := by
  have hb := h.big
  have hz := h.hz
  have same : ∀ k, k < W.heap.size → (k < z ∨ k = z + 1 ∨ k = z + 2) → W'.heap[k]? = W.heap[k]? := fun k h1 h2 => hg.block k h1 fun e => by
    have := hk k e.symm
    omega
  have hlt := (Array.getElem?_eq_some_iff.1 hv).1
  have hw := (wrote_refl ((same (z + 1) hlt (by omega)).trans hv)).set 0 v'
  have hbel : Below w.heap.size w W' := h.bel.grown hg h.bel.size fun k e => by have := hk k e; omega
  refine ⟨(hw.rest _ (by omega)).trans ((same _ (by omega) (by omega)).trans h.span), (hw.rest _ (by omega)).trans ((same _ (by omega) (by omega)).trans h.func), ⟨v', hw.there, ho'.blockOf fun k e => hw.rest k ?_, fun k e => ?_⟩, (hw.rest _ (by omega)).trans ((same _ (by omega) (by omega)).trans h.lay), hw.below hbel (by omega), hz⟩
  · rcases hn with h1 | h1
    · have := hk k (h1 ▸ e); omega
    · rw [h1] at e; injection e with e; omega
  · rcases hn with h1 | h1
    · exact hk k (h1 ▸ e)
    · rw [h1] at e; injection e with e; omega
/-- a block that the row does not lie in -/
def NotRow (z : Nat) (W : World) (q : Nat) : Prop := ∀ v, W.heap[z + 1]? = some (.cells #[v] 55 (0, 0)) → v.ownBlock ≠ some q
set_option maxRecDepth 100000 in
set_option maxHeartbeats 4000000 in
theorem lay_any {w W : World} {z : Nat} {f t : Int} {bf : FuncId} {bc : Array Value} {l : List (Int × Int)} (h : ChgU w W z f t bf bc l) (hl : l.length + 1 ≤ 4398046511104) (a lv : Int) :
    Calls Try.prog 83 #[.int .i64 a, .int .i64 lv, .pointer (some ⟨z + 1, 0, none⟩)] W fun e w' => (∃ v, e = .returned v) ∧ ChgU w w' z f t bf bc (layU l a lv) ∧ ∀ q, z + 3 ≤ q → q < W.heap.size → NotRow z W q → w'.heap[q]? = W.heap[q]? ∧ NotRow z w' q := by
  obtain ⟨v, hv, ho, hk⟩ := h.row
  obtain ⟨ad, c, rfl, hc, had⟩ := ho.form
  have c0 := cell_of_block (o := 0) hv rfl
  have H := Lib.hid h
  have HV := Lib.hid hv
  have HO := Lib.hid ho
  have HK := Lib.hid hk
  have hbig := h.big
  have hz := h.hz
  clear h hk hv ho
  obtain ⟨res, hres⟩ : ∃ r, r = layU l a lv := ⟨_, rfl⟩
  rw [← hres]
  have HR := Lib.hid hres
  clear hres
  by_cases hz : l.length = 0
  case pos =>
    have E := Lib.hid (show res = l ++ [(a, lv)] by rw [HR.out]; obtain rfl := List.length_eq_zero_iff.1 hz; rfl)
    have hd : ((l.length : Int) == 0) = true := beq_iff_eq.2 (by omega)
    clear had hz
    go_enter Try.func83, Try.ntmps83
    go_upto_region 1 with fail
    refine wp_region_lit ?_
    refine wpList_yield (w' := W) (v := .slice ad l.length c) rfl (by first | (go_simp; done) | (go_simp; rfl)) ?_
    refine wpList_yield (w' := W) (v := .int .i64 a) rfl (by first | (go_simp; done) | (go_simp; rfl)) ?_
    refine wpList_yield (w' := W) (v := .int .i64 lv) rfl (by first | (go_simp; done) | (go_simp; rfl)) ?_
    refine wpList_yield (w' := W) (v := .agg #[.int .i64 a, .int .i64 lv]) rfl (by first | (go_simp; done) | (go_simp; rfl)) ?_
    refine wpList_yield (w' := W.alloc (.cells #[.int .i64 a, .int .i64 lv] 60)) (v := .slice (some ⟨W.heap.size, 0, none⟩) 1 1) rfl (by first | (go_simp; done) | (go_simp; rfl)) ?_
    have hA := below_alloc (Below.refl _ W) (.cells #[.int .i64 a, .int .i64 lv] 60)
    have hN := World.alloc_heap_new W (.cells #[.int .i64 a, .int .i64 lv] 60)
    have H1 := Lib.hid (H.out.below hA)
    have HV1 := Lib.hid ((hA.block _ (Array.getElem?_eq_some_iff.1 HV.out).1).trans HV.out)
    have HO1 := Lib.hid (HO.out.below hA)
    have n0 := cell_of_block (o := 0) hN rfl
    have n1 := cell_of_block (o := 1) hN rfl
    have HA := Lib.hid hA
    have HSZ := Lib.hid (show W.heap.size < (W.alloc (.cells #[.int .i64 a, .int .i64 lv] 60)).heap.size by simp)
    clear hA hN c0
    generalize W.alloc (.cells #[.int .i64 a, .int .i64 lv] 60) = W1 at *
    refine wpList_append_step rfl _ _ rfl (z) (.slice ad l.length c) l (by go_simp) HO1.out W.heap.size 1 (a, lv) (by go_simp) n0 n1 hl (by have := H1.out.big; omega) ?_
    intro v' W2 ho' hg hn
    have HG := Lib.hid (H1.out.grow HV1.out HK.out ho' hg hn)
    have HKP := Lib.hid (show ∀ q, z + 3 ≤ q → q < W.heap.size → NotRow z W q → (W2.setCell ⟨z + 1, 0, none⟩ v').heap[q]? = W.heap[q]? ∧ NotRow z (W2.setCell ⟨z + 1, 0, none⟩ v') q from fun q h1 h2 h3 => by
      have hq := h3 _ HV.out
      have hlt := (Array.getElem?_eq_some_iff.1 HV1.out).1
      have hbb := (hg.block (z + 1) hlt (fun e => by have := HK.out _ e.symm; omega)).trans HV1.out
      have hw := (wrote_refl hbb).set 0 v'
      refine ⟨(hw.rest q (by omega)).trans ((hg.block q (by have := HSZ.out; omega) (fun e => hq e.symm)).trans (HA.out.block q h2)), fun u hu => ?_⟩
      rw [hw.there] at hu
      have hu' : u = v' := by injection hu with hu; injection hu with hu; simpa using hu.symm
      rw [hu']
      rcases hn with h4 | h4
      · rw [h4]; exact hq
      · rw [h4]; intro e; injection e with e; have := HSZ.out; omega)
    have hbx : W2.heap[z + 1]? = some (.cells #[.slice ad l.length c] 55 (0, 0)) := (hg.block _ (by have := H1.out.big; omega) (fun e => by have := HK.out _ e.symm; omega)).trans HV1.out
    obtain ⟨ad', c', rfl, _, _⟩ := ho'.form
    rw [List.length_append] at HKP
    have b0 := cell_of_block (o := 0) hbx rfl
    have f0 := free_of_block 0 hbx
    clear hbx ho' hg hn n0 n1
    go_wp2_with fail
    exact bodyPost_end (v := .tuple #[]) (by simp [results, Try.results83, go_sem]) rfl ⟨⟨_, rfl⟩, by rw [E.out]; have h9 := HG.out; rw [List.length_append] at h9; exact h9, HKP.out⟩
  case neg =>
  have hlast := last_getD (show 0 < l.length by omega)
  obtain ⟨g, rfl, hg1, hg2⟩ := had (by omega)
  have hrow := HO.out.row (l.length - 1) (by omega)
  have hd : ((l.length : Int) == 0) = false := beq_eq_false_iff_ne.2 (by omega)
  have hw1 : IntKind.i64.wrap ((l.length : Int) - 1) = ((l.length - 1 : Nat) : Int) := by rw [IntKind.wrap_i64]; omega
  have hix : ((l.length - 1 : Nat) : Int) < (l.length : Int) := by omega
  have r1 := hrow.2
  have HLAST := Lib.hid (show l.getLast?.map (·.2) = some (l.getD (l.length - 1) (0, 0)).2 by rw [hlast]; rfl)
  clear hrow hlast had
  generalize (l.getD (l.length - 1) (0, 0)).2 = lx at *
  generalize hm : l.length - 1 = m at *
  clear hm
  cases hne : (lx != lv) with
  | true =>
    have E := Lib.hid (show res = l ++ [(a, lv)] by rw [HR.out]; unfold layU; rw [HLAST.out, if_neg (by intro h; injection h with h; rw [h] at hne; simp at hne)])
    have had : True := trivial
    obtain ⟨ad, hadd⟩ : ∃ ad, ad = some (⟨g, 0, none⟩ : Addr) := ⟨_, rfl⟩
    go_enter Try.func83, Try.ntmps83
    go_upto_region 1 with fail
    rw [← hadd] at c0 HV HO HK ⊢
    clear hadd r1 hw1 hix hd hne hz
    refine wp_region_lit ?_
    refine wpList_yield (w' := W) (v := .slice ad l.length c) rfl (by first | (go_simp; done) | (go_simp; rfl)) ?_
    refine wpList_yield (w' := W) (v := .int .i64 a) rfl (by first | (go_simp; done) | (go_simp; rfl)) ?_
    refine wpList_yield (w' := W) (v := .int .i64 lv) rfl (by first | (go_simp; done) | (go_simp; rfl)) ?_
    refine wpList_yield (w' := W) (v := .agg #[.int .i64 a, .int .i64 lv]) rfl (by first | (go_simp; done) | (go_simp; rfl)) ?_
    refine wpList_yield (w' := W.alloc (.cells #[.int .i64 a, .int .i64 lv] 60)) (v := .slice (some ⟨W.heap.size, 0, none⟩) 1 1) rfl (by first | (go_simp; done) | (go_simp; rfl)) ?_
    have hA := below_alloc (Below.refl _ W) (.cells #[.int .i64 a, .int .i64 lv] 60)
    have hN := World.alloc_heap_new W (.cells #[.int .i64 a, .int .i64 lv] 60)
    have H1 := Lib.hid (H.out.below hA)
    have HV1 := Lib.hid ((hA.block _ (Array.getElem?_eq_some_iff.1 HV.out).1).trans HV.out)
    have HO1 := Lib.hid (HO.out.below hA)
    have n0 := cell_of_block (o := 0) hN rfl
    have n1 := cell_of_block (o := 1) hN rfl
    have HA := Lib.hid hA
    have HSZ := Lib.hid (show W.heap.size < (W.alloc (.cells #[.int .i64 a, .int .i64 lv] 60)).heap.size by simp)
    clear hA hN c0
    generalize W.alloc (.cells #[.int .i64 a, .int .i64 lv] 60) = W1 at *
    refine wpList_append_step rfl _ _ rfl (z) (.slice ad l.length c) l (by go_simp) HO1.out W.heap.size 1 (a, lv) (by go_simp) n0 n1 hl (by have := H1.out.big; omega) ?_
    intro v' W2 ho' hg hn
    have HG := Lib.hid (H1.out.grow HV1.out HK.out ho' hg hn)
    have HKP := Lib.hid (show ∀ q, z + 3 ≤ q → q < W.heap.size → NotRow z W q → (W2.setCell ⟨z + 1, 0, none⟩ v').heap[q]? = W.heap[q]? ∧ NotRow z (W2.setCell ⟨z + 1, 0, none⟩ v') q from fun q h1 h2 h3 => by
      have hq := h3 _ HV.out
      have hlt := (Array.getElem?_eq_some_iff.1 HV1.out).1
      have hbb := (hg.block (z + 1) hlt (fun e => by have := HK.out _ e.symm; omega)).trans HV1.out
      have hw := (wrote_refl hbb).set 0 v'
      refine ⟨(hw.rest q (by omega)).trans ((hg.block q (by have := HSZ.out; omega) (fun e => hq e.symm)).trans (HA.out.block q h2)), fun u hu => ?_⟩
      rw [hw.there] at hu
      have hu' : u = v' := by injection hu with hu; injection hu with hu; simpa using hu.symm
      rw [hu']
      rcases hn with h4 | h4
      · rw [h4]; exact hq
      · rw [h4]; intro e; injection e with e; have := HSZ.out; omega)
    have hbx : W2.heap[z + 1]? = some (.cells #[.slice ad l.length c] 55 (0, 0)) := (hg.block _ (by have := H1.out.big; omega) (fun e => by have := HK.out _ e.symm; omega)).trans HV1.out
    obtain ⟨ad', c', rfl, _, _⟩ := ho'.form
    rw [List.length_append] at HKP
    have b0 := cell_of_block (o := 0) hbx rfl
    have f0 := free_of_block 0 hbx
    clear hbx ho' hg hn n0 n1
    go_wp2_with fail
    exact bodyPost_end (v := .tuple #[]) (by simp [results, Try.results83, go_sem]) rfl ⟨⟨_, rfl⟩, by rw [E.out]; have h9 := HG.out; rw [List.length_append] at h9; exact h9, HKP.out⟩
  | false =>
    have E := Lib.hid (show res = l by rw [HR.out]; unfold layU; rw [HLAST.out, if_pos (by rw [show lx = lv by simpa using hne])])
    go_enter Try.func83, Try.ntmps83
    go_wp2_with fail
    exact bodyPost_end (v := .tuple #[]) (by simp [results, Try.results83, go_sem]) rfl ⟨⟨_, rfl⟩, by rw [E.out]; exact H.out, fun q h1 h2 h3 => ⟨rfl, h3⟩⟩
end Go.Proofs.Ythdljigcfhjikaa
