/- Levels (layer 10): the area of a span; Forget. Condition: the lengths' bound. -/
import Derived.Test.YthdljigcfhjikaaUsi
namespace Go.Proofs.Ythdljigcfhjikaa
set_option linter.unusedVariables false
open Go.ChangeShapes Go.WideShapes Go.ChangeAt Go.RowKit
attribute [local go_sem ↓] Go.wp_at_zero Go.wp_at_succ comesTo_value_eq comesTo_skip_eq comesTo_enter_eq

/-- a sum behind one run more, as the machine reckons it -/
def areaStep (t : Int × Int) (s : Int) (r : Int × Int × Int) : Int :=
  wrap64 (s + wrap64 (wrap64 ((cutI (r.1, r.2.1) t).2 - (cutI (r.1, r.2.1) t).1) * maxU r.2.2 0))
def areaU (L : List (Int × Int)) (t : Int × Int) : Int := minU ((runsU L).foldl (areaStep t) 0) 1099511627776
structure ArU (w W : World) (f t s : Int) : Prop where
  span : W.heap[w.heap.size]? = some (.cells #[.int .i64 f, .int .i64 t] 25 (0, 0))
  sum : W.heap[w.heap.size + 1]? = some (.cells #[.int .i64 s] 23 (0, 0))
  bel : Below w.heap.size w W
theorem ArU.below {w W W' : World} {f t s : Int} (h : ArU w W f t s) (hb : Below W.heap.size W W') : ArU w W' f t s :=
  ⟨(hb.block _ (Array.getElem?_eq_some_iff.1 h.span).1).trans h.span, (hb.block _ (Array.getElem?_eq_some_iff.1 h.sum).1).trans h.sum, below_next h.bel hb⟩
theorem ArU.set {w W : World} {f t s : Int} (h : ArU w W f t s) (x : Int) : ArU w (W.setCell ⟨w.heap.size + 1, 0, none⟩ (.int .i64 x)) f t x := by
  have hw := (wrote_refl h.sum).set 0 (.int .i64 x)
  exact ⟨(hw.rest _ (by omega)).trans h.span, hw.there, hw.below h.bel (by omega)⟩
set_option maxRecDepth 100000 in
set_option maxHeartbeats 2000000 in
theorem area1_any {w W : World} {f t s : Int} (h : ArU w W f t s) (rf rt lv : Int) :
    Calls Try.prog 63 #[.agg #[.int .i64 rf, .int .i64 rt], .int .i64 lv, .pointer (some ⟨w.heap.size, 0, none⟩), .pointer (some ⟨w.heap.size + 1, 0, none⟩)] W
      fun e w' => e = .returned (.bool true) ∧ ArU w w' f t (areaStep (f, t) s (rf, rt, lv)) := by
  have KC := Lib.hid (fun W => cut_any rf rt f t W)
  obtain ⟨res, hres⟩ : ∃ r, r = areaStep (f, t) s (rf, rt, lv) := ⟨_, rfl⟩
  rw [← hres]
  have HR := Lib.hid (show res = wrap64 (s + wrap64 (wrap64 ((cutI (rf, rt) (f, t)).2 - (cutI (rf, rt) (f, t)).1) * maxU lv 0)) from hres)
  clear hres
  generalize cutI (rf, rt) (f, t) = ci at *
  obtain ⟨c1, c2⟩ := ci
  simp only at KC HR
  have hm : (lv < 0 ∧ maxU lv 0 = 0) ∨ (0 ≤ lv ∧ maxU lv 0 = lv) := by
    by_cases h : lv < 0
    · exact .inl ⟨h, if_pos h⟩
    · exact .inr ⟨by omega, if_neg h⟩
  have hA := below_alloc (Below.refl _ W) (.cells #[.int .i64 rf, .int .i64 rt] 25)
  have hN := World.alloc_heap_new W (.cells #[.int .i64 rf, .int .i64 rt] 25)
  have H1 := Lib.hid (h.below hA)
  clear h hA
  go_enter Try.func63, Try.ntmps63
  go_upto_region 1 with fail
  generalize W.alloc (.cells #[.int .i64 rf, .int .i64 rt] 25) = W1 at *
  obtain ⟨q, hq⟩ : ∃ q, q = W.heap.size := ⟨_, rfl⟩
  rw [← hq] at hN ⊢
  clear hq
  have s0 := cell_of_block (o := 0) H1.out.span rfl
  have s1 := cell_of_block (o := 1) H1.out.span rfl
  have r0 := cell_of_block (o := 0) hN rfl
  have r1 := cell_of_block (o := 1) hN rfl
  go_wp2_with fail
  refine (KC.out _).mono ?_
  rintro e W2 ⟨rfl, hb⟩
  have H2 := Lib.hid (H1.out.below hb)
  clear hb H1 s0 s1 r0 r1 hN
  have hA := below_alloc (Below.refl _ W2) (.cells #[.int .i64 c1, .int .i64 c2] 25)
  have hN := World.alloc_heap_new W2 (.cells #[.int .i64 c1, .int .i64 c2] 25)
  have H3 := Lib.hid (H2.out.below hA)
  clear hA H2
  go_upto_region 2 with fail
  generalize W2.alloc (.cells #[.int .i64 c1, .int .i64 c2] 25) = W3 at *
  have i0 := cell_of_block (o := 0) hN rfl
  have i1 := cell_of_block (o := 1) hN rfl
  have u0 := cell_of_block (o := 0) H3.out.sum rfl
  have v0 := free_of_block 0 H3.out.sum
  clear hN
  rcases hm with ⟨h1, h2⟩ | ⟨h1, h2⟩
  all_goals (
    go_wp2_with fail
    go_ret
    refine ⟨rfl, ?_⟩
    rw [HR.out, h2]
    first | exact H3.out.set _ | (rw [show wrap64 (s + wrap64 (wrap64 (c2 - c1) * 0)) = wrap64 s by rw [Int.mul_zero, show wrap64 0 = 0 by decide +kernel, Int.add_zero]]; exact H3.out.set _))
set_option maxRecDepth 100000 in
set_option maxHeartbeats 4000000 in
theorem area_any {w : World} {S : Nat} {L : List (Int × Int)} (h : USt w S L) (f t : Int) :
    Calls Try.prog 20 #[.pointer (some ⟨S, 0, none⟩), .agg #[.int .i64 f, .int .i64 t]] w fun e w' => e = .returned (.int .i64 (areaU L (f, t))) ∧ Below w.heap.size w w' := by
  obtain ⟨g, c, hg, hS, hc, hs, hr⟩ := h.at_
  have hSl := (Array.getElem?_eq_some_iff.1 hS).1
  have hlen := h.len
  have hU : ∀ W, Below w.heap.size w W → W.cell? ⟨S, 0, none⟩ = some (.slice (some ⟨g, 0, none⟩) L.length c) ∧ URow W g L := fun W hb => ⟨cell_of_block (o := 0) ((hb.block _ hSl).trans hS) rfl, hr.mono (hb.block _ hs)⟩
  obtain ⟨tot, htot⟩ : ∃ x, x = (runsU L).foldl (areaStep (f, t)) 0 := ⟨_, rfl⟩
  have hRUN : ∀ W, ArU w W f t 0 → Calls Try.prog 62 #[.pointer (some ⟨S, 0, none⟩), .func (.func 63) #[] #[.pointer (some ⟨w.heap.size, 0, none⟩), .pointer (some ⟨w.heap.size + 1, 0, none⟩)]] W fun e w' => (∃ v, e = .returned v) ∧ ArU w w' f t tot := by
    intro W hW
    refine (runs_any (S := S) (g := g) (c := c) hlen 63 #[.pointer (some ⟨w.heap.size, 0, none⟩), .pointer (some ⟨w.heap.size + 1, 0, none⟩)]
      (fun k W => ∃ s, ArU w W f t s ∧ ((runsU L).drop k).foldl (areaStep (f, t)) s = tot) (fun _ => False) W (enters_of Try.func63 (by kernel_rfl) rfl) ⟨0, hW, htot.symm⟩ (fun k W' ⟨s, hc, _⟩ => hU W' hc.bel) (fun k W' W'' ⟨s, hc, he⟩ hb => ⟨s, hc.below hb, he⟩) ?_).mono ?_
    · intro k W' hk ⟨s, hc, he⟩
      refine (area1_any hc (L.getD k (0, 0)).1 (toU L k) (L.getD k (0, 0)).2).mono ?_
      rintro e W'' ⟨rfl, hc2⟩
      refine ⟨true, rfl, fun _ => ⟨_, hc2, ?_⟩, fun h => by cases h⟩
      rw [runsU_drop hk] at he
      exact he
    · rintro e W' ⟨hv, hx | hx⟩
      · obtain ⟨s, hc, he⟩ := hx
        rw [runsU_end] at he
        exact ⟨hv, by rw [← he]; exact hc⟩
      · exact hx.elim
  have hm : (tot ≤ 1099511627776 ∧ areaU L (f, t) = tot) ∨ (1099511627776 < tot ∧ areaU L (f, t) = 1099511627776) := by
    unfold areaU
    rw [← htot]
    by_cases h : tot ≤ 1099511627776
    · exact .inl ⟨h, if_pos h⟩
    · exact .inr ⟨by omega, if_neg h⟩
  have KT := Lib.hid (fun W (hb : Below w.heap.size w W) => there_any (h.below hb))
  have KR := Lib.hid hRUN
  clear hRUN hU hg hS hc hs hr hSl h htot
  have hb1 := below_alloc (Below.refl _ w) (.cells #[.int .i64 f, .int .i64 t] 25)
  have n1 := World.alloc_heap_new w (.cells #[.int .i64 f, .int .i64 t] 25)
  have hs1 : (w.alloc (.cells #[.int .i64 f, .int .i64 t] 25)).heap.size = w.heap.size + 1 := by simp
  go_enter Try.func20, Try.ntmps20
  go_upto_region 1 with fail
  generalize w.alloc (.cells #[.int .i64 f, .int .i64 t] 25) = W1 at *
  go_wp2_with (go_at_call 55; ((with_reducible refine (KT.out _ hb1).mono ?_)); rintro e w' ⟨rfl, rfl⟩)
  have hb2 := below_alloc (Below.refl _ W1) (.cells #[.int .i64 0] 23)
  have n2 := World.alloc_heap_new W1 (.cells #[.int .i64 0] 23)
  rw [hs1] at n2
  have HA := Lib.hid (show ArU w (W1.alloc (.cells #[.int .i64 0] 23)) f t 0 from ⟨(hb2.block _ (by omega)).trans n1, n2, below_next hb1 hb2⟩)
  clear hb2 n2 hb1 n1 hs1
  generalize W1.alloc (.cells #[.int .i64 0] 23) = W2 at *
  refine (KR.out _ HA.out).mono ?_
  rintro e W3 ⟨⟨_, rfl⟩, h3⟩
  have c0 := cell_of_block (o := 0) h3.sum rfl
  have H3 := Lib.hid h3.bel
  clear h3 HA
  rcases hm with ⟨h1, h2⟩ | ⟨h1, h2⟩
  all_goals (
    go_wp2_with fail
    go_ret
    exact ⟨by rw [h2]; rfl, H3.out⟩)
end Go.Proofs.Ythdljigcfhjikaa
