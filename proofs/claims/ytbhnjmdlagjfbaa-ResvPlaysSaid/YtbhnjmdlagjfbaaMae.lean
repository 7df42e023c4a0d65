/- Laws that belong together: Levels (layer 10): runs over any visitor. What the visitor does is told by an invariant.; Levels (layer 10): the least and the greatest level of a span: choose, Least, Most. No condition but the lengths' bound.; Levels (layer 10): the level at a time; what levels that nobody made tell. No condition but the lengths' bound. -/
import Derived.Test.YtbhnjmdlagjfbaaMUsa
import Derived.Shelf.Abstract
import Derived.Test.YtbhnjmdlagjfbaaMad
namespace Go.Proofs.Ytbhnjmdlagjfbaa
set_option linter.unusedVariables false
open Go.ChangeShapes Go.WideShapes Go.ChangeAt Go.RowKit
attribute [local go_sem ↓] Go.wp_at_zero Go.wp_at_succ comesTo_value_eq comesTo_skip_eq comesTo_enter_eq

/-- the end of the k-th step's span -/
def toU (L : List (Int × Int)) (k : Nat) : Int := if k + 1 < L.length then (L.getD (k + 1) (0, 0)).1 else 1099511627776
set_option maxRecDepth 100000 in
set_option maxHeartbeats 4000000 in
theorem runs_any {S g c : Nat} {L : List (Int × Int)} (hlen : L.length ≤ 1099511627776) (fn : FuncId) (caps : Array Value) (Inv : Nat → World → Prop) (Stop : World → Prop) (w : World) (hE : Go.Proofs.Enters Try.prog fn)
    (h0 : Inv 0 w)
    (hU : ∀ k W, Inv k W → W.cell? ⟨S, 0, none⟩ = some (.slice (some ⟨g, 0, none⟩) L.length c) ∧ URow W g L)
    (hB : ∀ k W W', Inv k W → Below W.heap.size W W' → Inv k W')
    (hC : ∀ k W, k < L.length → Inv k W → Calls Try.prog fn (#[.agg #[.int .i64 (L.getD k (0, 0)).1, .int .i64 (toU L k)], .int .i64 (L.getD k (0, 0)).2] ++ caps) W fun e w' => ∃ b : Bool, e = .returned (.bool b) ∧ (b = true → Inv (k + 1) w') ∧ (b = false → Stop w')) :
    Calls Try.prog 139 #[.pointer (some ⟨S, 0, none⟩), .func (.func fn) #[] caps] w fun e w' => (∃ v, e = .returned v) ∧ (Inv L.length w' ∨ Stop w') := by
  have c0 := (hU 0 w h0).1
  unfold Go.Proofs.Enters at hE
  have HC := Lib.hid hC
  have HU := Lib.hid hU
  have HB := Lib.hid hB
  have HI := Lib.hid h0
  clear hC hU hB h0
  go_enter Try.func139, Try.ntmps139
  go_wp2_with fail
  clear c0
  go_loopw [12] (fun i wr => ∃ k : Nat, k ≤ L.length ∧ i = .int .i64 k ∧ Inv k wr) (fun i _ => L.length - (intOf i).toNat)
  case atStart => exact ⟨0, Nat.zero_le _, rfl, HI.out⟩
  case round =>
    obtain ⟨k, hk, rfl, hinv⟩ := hrel
    have HV := Lib.hid hinv
    clear hinv HI
    by_cases hlt : k < L.length
    · have hd : decide (k < L.length) = true := decide_eq_true hlt
      have hkl : (k : Int) < (L.length : Int) := by omega
      have hr := (HU.out k wr HV.out).2 k hlt
      have c1 := hr.1
      have c2 := hr.2
      clear hr
      have hw1 : IntKind.i64.wrap ((k : Int) + 1) = (k : Int) + 1 := by rw [IntKind.wrap_i64]; omega
      have hHC := HC.out k
      have hTO := Lib.hid (show toU L k = if k + 1 < L.length then (L.getD (k + 1) (0, 0)).1 else 1099511627776 from rfl)
      clear HC
      generalize toU L k = tq at hHC hTO
      have HC := Lib.hid hHC
      clear hHC
      generalize (L.getD k (0, 0)).1 = at1 at *
      generalize (L.getD k (0, 0)).2 = lv1 at *
      have HB1 := below_alloc (Below.refl _ wr) (.cells #[.int .i64 at1, .int .i64 lv1] 140)
      have hV1 := HB.out k wr _ HV.out HB1
      have hN := World.alloc_heap_new wr (.cells #[.int .i64 at1, .int .i64 lv1] 140)
      have c0 := (HU.out k _ HV.out).1
      have c3 := (HU.out k _ hV1).1
      have e0 := cell_of_block (o := 0) hN rfl
      have e1 := cell_of_block (o := 1) hN rfl
      clear hN HB1
      go_upto_region 4 with fail
      clear c0 c1 c2
      generalize wr.alloc (.cells #[.int .i64 at1, .int .i64 lv1] 140) = WW at *
      by_cases hn : k + 1 < L.length
      · have hdn : decide ((k : Int) + 1 < (L.length : Int)) = true := decide_eq_true (by omega)
        have hn2 : ((k : Int) + 1) < (L.length : Int) := by omega
        have hto : tq = (L.getD (k + 1) (0, 0)).1 := by rw [hTO.out, if_pos hn]
        have c4 := ((HU.out k _ hV1).2 (k + 1) hn).1
        rw [← hto] at c4
        clear hTO hto
        go_upto_region 6 with fail
        go_wp2_with fail
        refine (HC.out WW hlt hV1).mono ?_
        rintro e w3 ⟨b, rfl, hyes, hno⟩
        cases b with
        | true =>
          have hv3 := Lib.hid (hyes rfl)
          clear hyes hno
          go_wp2_with fail
          go_roundw
          case rel => exact ⟨k + 1, by omega, by go_num, hv3.out⟩
          case measure => simp [intOf]; omega
        | false =>
          have hv3 := Lib.hid (hno rfl)
          clear hyes hno
          go_wp2_with fail
          exact bodyPost_ret (v := .tuple #[]) (by simp [results, Try.results139, go_sem]) rfl ⟨⟨_, rfl⟩, .inr hv3.out⟩
      · have hdn : decide ((k : Int) + 1 < (L.length : Int)) = false := decide_eq_false (by omega)
        obtain rfl : tq = 1099511627776 := by rw [hTO.out, if_neg hn]
        clear hTO
        go_upto_region 6 with fail
        go_wp2_with fail
        refine (HC.out WW hlt hV1).mono ?_
        rintro e w3 ⟨b, rfl, hyes, hno⟩
        cases b with
        | true =>
          have hv3 := Lib.hid (hyes rfl)
          clear hyes hno
          go_wp2_with fail
          go_roundw
          case rel => exact ⟨k + 1, by omega, by go_num, hv3.out⟩
          case measure => simp [intOf]; omega
        | false =>
          have hv3 := Lib.hid (hno rfl)
          clear hyes hno
          go_wp2_with fail
          exact bodyPost_ret (v := .tuple #[]) (by simp [results, Try.results139, go_sem]) rfl ⟨⟨_, rfl⟩, .inr hv3.out⟩
    · obtain rfl : k = L.length := by omega
      have hd : decide (L.length < L.length) = false := decide_eq_false (by omega)
      go_wp2_with fail
      exact bodyPost_end (v := .tuple #[]) (by simp [results, Try.results139, go_sem]) rfl ⟨⟨_, rfl⟩, .inl HV.out⟩
end Go.Proofs.Ytbhnjmdlagjfbaa
namespace Go.Proofs.Ytbhnjmdlagjfbaa
set_option linter.unusedVariables false
open Go.ChangeShapes Go.WideShapes Go.ChangeAt Go.RowKit
attribute [local go_sem ↓] Go.wp_at_zero Go.wp_at_succ comesTo_value_eq comesTo_skip_eq comesTo_enter_eq

/-- the spans of one level each: from, to, level -/
def runsU (L : List (Int × Int)) : List (Int × Int × Int) := (List.range L.length).map fun k => ((L.getD k (0, 0)).1, toU L k, (L.getD k (0, 0)).2)
theorem runsU_drop {L : List (Int × Int)} {k : Nat} (h : k < L.length) : (runsU L).drop k = ((L.getD k (0, 0)).1, toU L k, (L.getD k (0, 0)).2) :: (runsU L).drop (k + 1) := by
  have hl : k < (runsU L).length := by unfold runsU; simpa using h
  rw [List.drop_eq_getElem_cons hl]
  congr 1
  unfold runsU
  simp
theorem runsU_end (L : List (Int × Int)) : (runsU L).drop L.length = [] := by
  apply List.drop_eq_nil_of_le
  unfold runsU
  simp
def meetsU (a b : Int × Int) : Bool := !decide (bothT a b ≤ bothF a b)
/-- what is chosen of the spans to come -/
def chooseGo (bt : Int → Int → Int) (t : Int × Int) : List (Int × Int × Int) → Int × Bool → Int × Bool
  | [], st => st
  | r :: rs, st =>
    let st' := if meetsU (r.1, r.2.1) t then (if st.2 then (bt st.1 r.2.2, true) else (bt r.2.2 r.2.2, true)) else st
    if r.2.1 < t.2 then chooseGo bt t rs st' else st'
def chooseU (bt : Int → Int → Int) (L : List (Int × Int)) (t : Int × Int) : Int := (chooseGo bt t (runsU L) (0, false)).1
/-- a choosing under way: the span's box, the function's, the best one's, found's -/
structure ChU (w W : World) (f t : Int) (fb : FuncId) (st : Int × Bool) : Prop where
  span : W.heap[w.heap.size]? = some (.cells #[.int .i64 f, .int .i64 t] 39 (0, 0))
  func : W.heap[w.heap.size + 1]? = some (.cells #[.func (.func fb) #[] #[]] 154 (0, 0))
  best : W.heap[w.heap.size + 1 + 1]? = some (.cells #[.int .i64 st.1] 3 (0, 0))
  found : W.heap[w.heap.size + 1 + 1 + 1]? = some (.cells #[.bool st.2] 4 (0, 0))
  bel : Below w.heap.size w W
theorem ChU.below {w W W' : World} {f t : Int} {fb : FuncId} {st : Int × Bool} (h : ChU w W f t fb st) (hb : Below W.heap.size W W') : ChU w W' f t fb st :=
  ⟨(hb.block _ (Array.getElem?_eq_some_iff.1 h.span).1).trans h.span, (hb.block _ (Array.getElem?_eq_some_iff.1 h.func).1).trans h.func, (hb.block _ (Array.getElem?_eq_some_iff.1 h.best).1).trans h.best, (hb.block _ (Array.getElem?_eq_some_iff.1 h.found).1).trans h.found, below_next h.bel hb⟩
theorem ChU.setBest {w W : World} {f t : Int} {fb : FuncId} {st : Int × Bool} (h : ChU w W f t fb st) (x : Int) : ChU w (W.setCell ⟨w.heap.size + 1 + 1, 0, none⟩ (.int .i64 x)) f t fb (x, st.2) := by
  have hw := (wrote_refl h.best).set 0 (.int .i64 x)
  exact ⟨(hw.rest _ (by omega)).trans h.span, (hw.rest _ (by omega)).trans h.func, hw.there, (hw.rest _ (by omega)).trans h.found, hw.below h.bel (by omega)⟩
theorem ChU.setFound {w W : World} {f t : Int} {fb : FuncId} {st : Int × Bool} (h : ChU w W f t fb st) (b : Bool) : ChU w (W.setCell ⟨w.heap.size + 1 + 1 + 1, 0, none⟩ (.bool b)) f t fb (st.1, b) := by
  have hw := (wrote_refl h.found).set 0 (.bool b)
  exact ⟨(hw.rest _ (by omega)).trans h.span, (hw.rest _ (by omega)).trans h.func, (hw.rest _ (by omega)).trans h.best, hw.there, hw.below h.bel (by omega)⟩
set_option maxRecDepth 100000 in
set_option maxHeartbeats 4000000 in
theorem choose1_any {w W : World} {f t : Int} {fb : FuncId} {st : Int × Bool} (h : ChU w W f t fb st) (bt : Int → Int → Int) (hE : Go.Proofs.Enters Try.prog fb)
    (hF : ∀ a b W, Calls Try.prog fb #[.int .i64 a, .int .i64 b] W fun e w' => e = .returned (.int .i64 (bt a b)) ∧ W = w') (rf rt lv : Int) :
    Calls Try.prog 140 #[.agg #[.int .i64 rf, .int .i64 rt], .int .i64 lv, .pointer (some ⟨w.heap.size, 0, none⟩), .pointer (some ⟨w.heap.size + 1 + 1 + 1, 0, none⟩), .pointer (some ⟨w.heap.size + 1 + 1, 0, none⟩), .pointer (some ⟨w.heap.size + 1, 0, none⟩)] W
      fun e w' => e = .returned (.bool (decide (rt < t))) ∧ ChU w w' f t fb (if meetsU (rf, rt) (f, t) then (if st.2 then (bt st.1 lv, true) else (bt lv lv, true)) else st) := by
  unfold Go.Proofs.Enters at hE
  have HF := Lib.hid hF
  clear hF
  have KM := Lib.hid (fun W => (show Calls Try.prog 66 #[.agg #[.int .i64 rf, .int .i64 rt], .agg #[.int .i64 f, .int .i64 t]] W fun e w' => e = .returned (.bool (meetsU (rf, rt) (f, t))) ∧ Below W.heap.size W w' from meets_any rf rt f t W))
  obtain ⟨res, hres⟩ : ∃ r, r = (if meetsU (rf, rt) (f, t) then (if st.2 then (bt st.1 lv, true) else (bt lv lv, true)) else st) := ⟨_, rfl⟩
  rw [← hres]
  generalize meetsU (rf, rt) (f, t) = M at *
  have HR := Lib.hid hres
  clear hres
  have hA := below_alloc (Below.refl _ W) (.cells #[.int .i64 rf, .int .i64 rt] 39)
  have hN := World.alloc_heap_new W (.cells #[.int .i64 rf, .int .i64 rt] 39)
  have HA := Lib.hid (h.below hA)
  have s0 := cell_of_block (o := 0) (h.below hA).span rfl
  have s1 := cell_of_block (o := 1) (h.below hA).span rfl
  have hlt := (Array.getElem?_eq_some_iff.1 h.found).1
  clear h hA
  go_enter Try.func140, Try.ntmps140
  go_wp2_with fail
  generalize W.alloc (.cells #[.int .i64 rf, .int .i64 rt] 39) = W1 at *
  obtain ⟨q, hq⟩ : ∃ q, q = W.heap.size := ⟨_, rfl⟩
  rw [← hq] at hN hlt ⊢
  clear hq s0 s1
  refine (KM.out _).mono ?_
  rintro e W2 ⟨rfl, hb⟩
  have H2 := Lib.hid (HA.out.below hb)
  have HN := Lib.hid ((hb.block _ (Array.getElem?_eq_some_iff.1 hN).1).trans hN)
  clear hb hN HA
  have r1 := cell_of_block (o := 1) HN.out rfl
  have s1 := cell_of_block (o := 1) H2.out.span rfl
  cases M with
  | false =>
    have E := Lib.hid (show res = st by rw [HR.out]; rfl)
    go_wp2_with fail
    go_ret
    exact ⟨rfl, by rw [E.out]; exact H2.out⟩
  | true =>
    obtain ⟨s, fo⟩ := st
    cases fo with
    | true =>
      have E := Lib.hid (show res = (bt s lv, true) by rw [HR.out]; rfl)
      have b0 := cell_of_block (o := 0) H2.out.best rfl
      have fb0 := free_of_block 0 H2.out.best
      have f0 := cell_of_block (o := 0) H2.out.found rfl
      have g0 := cell_of_block (o := 0) H2.out.func rfl
      go_wp2_with fail
      refine (HF.out _ _ _).mono ?_
      rintro e W3 ⟨rfl, rfl⟩
      have H3 := Lib.hid (H2.out.setBest (bt s lv))
      have r3 : (W2.setCell ⟨w.heap.size + 1 + 1, 0, none⟩ (.int .i64 (bt s lv))).cell? ⟨q, 1, none⟩ = some (.int .i64 rt) := cell_of_block (o := 1) ((((wrote_refl H2.out.best).set 0 (.int .i64 (bt s lv))).rest q (by omega)).trans HN.out) rfl
      have s3 := cell_of_block (o := 1) H3.out.span rfl
      go_wp2_with fail
      go_ret
      exact ⟨rfl, by rw [E.out]; exact H3.out⟩
    | false =>
      have E := Lib.hid (show res = (bt lv lv, true) by rw [HR.out]; rfl)
      have b0 := cell_of_block (o := 0) H2.out.best rfl
      have fb0 := free_of_block 0 H2.out.best
      have f0 := cell_of_block (o := 0) H2.out.found rfl
      have ff0 := free_of_block 0 H2.out.found
      have H3 := Lib.hid ((H2.out.setBest lv).setFound true)
      have g3 := cell_of_block (o := 0) H3.out.func rfl
      have b3 := cell_of_block (o := 0) H3.out.best rfl
      have fb3 := free_of_block 0 H3.out.best
      have hne := ((wrote_refl (H2.out.setBest lv).found).set 0 (.bool true)).rest q (by omega)
      have hN3 := hne.trans ((((wrote_refl H2.out.best).set 0 (.int .i64 lv)).rest q (by omega)).trans HN.out)
      have HN3 := Lib.hid hN3
      clear hne hN3
      go_upto_region 4 with fail
      generalize (W2.setCell ⟨w.heap.size + 1 + 1, 0, none⟩ (.int .i64 lv)).setCell ⟨w.heap.size + 1 + 1 + 1, 0, none⟩ (.bool true) = W3 at *
      go_wp2_with fail
      refine (HF.out _ _ _).mono ?_
      rintro e W4 ⟨rfl, rfl⟩
      have H4 := Lib.hid (H3.out.setBest (bt lv lv))
      have r4 : (W3.setCell ⟨w.heap.size + 1 + 1, 0, none⟩ (.int .i64 (bt lv lv))).cell? ⟨q, 1, none⟩ = some (.int .i64 rt) := cell_of_block (o := 1) ((((wrote_refl H3.out.best).set 0 (.int .i64 (bt lv lv))).rest q (by omega)).trans HN3.out) rfl
      have s4 := cell_of_block (o := 1) H4.out.span rfl
      clear r1 s1 b0 fb0 f0 ff0
      go_wp2_with fail
      go_ret
      exact ⟨rfl, by rw [E.out]; exact H4.out⟩
set_option maxRecDepth 100000 in
set_option maxHeartbeats 4000000 in
theorem choose_any {w : World} {S : Nat} {L : List (Int × Int)} (h : USt w S L) (f t : Int) (fb : FuncId) (bt : Int → Int → Int) (hE : Go.Proofs.Enters Try.prog fb)
    (hF : ∀ a b W, Calls Try.prog fb #[.int .i64 a, .int .i64 b] W fun e w' => e = .returned (.int .i64 (bt a b)) ∧ W = w') :
    Calls Try.prog 101 #[.pointer (some ⟨S, 0, none⟩), .agg #[.int .i64 f, .int .i64 t], .func (.func fb) #[] #[]] w fun e w' => e = .returned (.int .i64 (chooseU bt L (f, t))) ∧ Below w.heap.size w w' := by
  obtain ⟨g, c, hg, hS, hc, hs, hr⟩ := h.at_
  have hSl := (Array.getElem?_eq_some_iff.1 hS).1
  have hU : ∀ W, Below w.heap.size w W → W.cell? ⟨S, 0, none⟩ = some (.slice (some ⟨g, 0, none⟩) L.length c) ∧ URow W g L := fun W hb => ⟨cell_of_block (o := 0) ((hb.block _ hSl).trans hS) rfl, hr.mono (hb.block _ hs)⟩
  obtain ⟨tot, htot⟩ : ∃ x, x = chooseGo bt (f, t) (runsU L) (0, false) := ⟨_, rfl⟩
  have hRR := runs_any (S := S) (g := g) (c := c) h.len 140 #[.pointer (some ⟨w.heap.size, 0, none⟩), .pointer (some ⟨w.heap.size + 1 + 1 + 1, 0, none⟩), .pointer (some ⟨w.heap.size + 1 + 1, 0, none⟩), .pointer (some ⟨w.heap.size + 1, 0, none⟩)]
    (fun k W => ∃ st, ChU w W f t fb st ∧ chooseGo bt (f, t) ((runsU L).drop k) st = tot) (fun W => ChU w W f t fb tot)
  have hRUN : ∀ W, ChU w W f t fb (0, false) → Calls Try.prog 139 #[.pointer (some ⟨S, 0, none⟩), .func (.func 140) #[] #[.pointer (some ⟨w.heap.size, 0, none⟩), .pointer (some ⟨w.heap.size + 1 + 1 + 1, 0, none⟩), .pointer (some ⟨w.heap.size + 1 + 1, 0, none⟩), .pointer (some ⟨w.heap.size + 1, 0, none⟩)]] W fun e w' => (∃ v, e = .returned v) ∧ ChU w w' f t fb tot := by
    intro W hW
    refine (hRR W (enters_of Try.func140 (by kernel_rfl) rfl) ⟨_, hW, htot.symm⟩ (fun k W' ⟨st, hc', _⟩ => hU W' hc'.bel) (fun k W' W'' ⟨st, hc', he⟩ hb => ⟨st, hc'.below hb, he⟩) ?_).mono ?_
    · intro k W' hk ⟨st, hc', he⟩
      refine (choose1_any hc' bt hE hF (L.getD k (0, 0)).1 (toU L k) (L.getD k (0, 0)).2).mono ?_
      rintro e W'' ⟨rfl, hc2⟩
      refine ⟨_, rfl, fun hy => ⟨_, hc2, ?_⟩, fun hn => ?_⟩
      · rw [runsU_drop hk] at he
        unfold chooseGo at he
        rw [if_pos (of_decide_eq_true hy)] at he
        exact he
      · rw [runsU_drop hk] at he
        unfold chooseGo at he
        rw [if_neg (of_decide_eq_false hn)] at he
        rw [← he]
        exact hc2
    · rintro e W' ⟨hv, hx | hx⟩
      · obtain ⟨st, hc', he⟩ := hx
        rw [runsU_end] at he
        exact ⟨hv, he ▸ hc'⟩
      · exact ⟨hv, hx⟩
  have KT := Lib.hid (fun W (hb : Below w.heap.size w W) => there_any (h.below hb))
  have KR := Lib.hid hRUN
  have E := Lib.hid (show chooseU bt L (f, t) = tot.1 by rw [htot]; rfl)
  clear hRR hRUN hU hg hS hc hs hr hSl h htot
  have hb1 := below_alloc (Below.refl _ w) (.cells #[.int .i64 f, .int .i64 t] 39)
  have hb2 := below_alloc hb1 (.cells #[.func (.func fb) #[] #[]] 154)
  have HB2 := Lib.hid hb2
  have n1 := World.alloc_heap_new w (.cells #[.int .i64 f, .int .i64 t] 39)
  have n2 := World.alloc_heap_new (w.alloc (.cells #[.int .i64 f, .int .i64 t] 39)) (.cells #[.func (.func fb) #[] #[]] 154)
  rw [show (w.alloc (.cells #[.int .i64 f, .int .i64 t] 39)).heap.size = w.heap.size + 1 by simp] at n2
  have n1' := (((below_alloc (Below.refl _ (w.alloc (.cells #[.int .i64 f, .int .i64 t] 39))) (.cells #[.func (.func fb) #[] #[]] 154)).block _ (by simp)).trans n1)
  have hs2 : ((w.alloc (.cells #[.int .i64 f, .int .i64 t] 39)).alloc (.cells #[.func (.func fb) #[] #[]] 154)).heap.size = w.heap.size + 1 + 1 := by simp
  have N1 := Lib.hid n1'
  have N2 := Lib.hid n2
  clear n1 n2 n1' hb1 hb2
  go_enter Try.func101, Try.ntmps101
  go_upto_region 1 with fail
  generalize (w.alloc (.cells #[.int .i64 f, .int .i64 t] 39)).alloc (.cells #[.func (.func fb) #[] #[]] 154) = W2 at *
  go_wp2_with (go_at_call 112; ((with_reducible refine (KT.out _ HB2.out).mono ?_)); rintro e w' ⟨rfl, rfl⟩)
  have hb3 := below_alloc (Below.refl _ W2) (.cells #[.int .i64 0] 3)
  have hb4 := below_alloc hb3 (.cells #[.bool false] 4)
  have n3 := World.alloc_heap_new W2 (.cells #[.int .i64 0] 3)
  have n4 := World.alloc_heap_new (W2.alloc (.cells #[.int .i64 0] 3)) (.cells #[.bool false] 4)
  rw [hs2] at n3
  rw [show (W2.alloc (.cells #[.int .i64 0] 3)).heap.size = w.heap.size + 1 + 1 + 1 by simp [hs2]] at n4
  have n3' := ((below_alloc (Below.refl _ (W2.alloc (.cells #[.int .i64 0] 3))) (.cells #[.bool false] 4)).block (w.heap.size + 1 + 1) (by simp [hs2])).trans n3
  have hCh : ChU w ((W2.alloc (.cells #[.int .i64 0] 3)).alloc (.cells #[.bool false] 4)) f t fb (0, false) := ⟨(hb4.block _ (by omega)).trans N1.out, (hb4.block _ (by omega)).trans N2.out, n3', n4, below_next HB2.out hb4⟩
  have HCH := Lib.hid hCh
  clear hb3 hb4 n3 n4 n3' hCh
  generalize (W2.alloc (.cells #[.int .i64 0] 3)).alloc (.cells #[.bool false] 4) = W4 at *
  refine (KR.out _ HCH.out).mono ?_
  rintro e W5 ⟨⟨v, rfl⟩, hc5⟩
  have c0 := cell_of_block (o := 0) hc5.best rfl
  have HC5 := Lib.hid hc5
  clear hc5
  go_wp2_with fail
  go_ret
  exact ⟨by rw [E.out]; rfl, HC5.out.bel⟩
def minU (a b : Int) : Int := if a ≤ b then a else b
def maxU (a b : Int) : Int := if a < b then b else a
theorem least1_any (a b : Int) (W : World) : Calls Try.prog 102 #[.int .i64 a, .int .i64 b] W fun e w' => e = .returned (.int .i64 (minU a b)) ∧ W = w' := by
  by_cases h : a ≤ b
  · have E : minU a b = a := if_pos h
    rw [E]
    go_enter Try.func102, Try.ntmps102
    go_wp2
    all_goals go_ret
    all_goals first | exact ⟨rfl, rfl⟩ | (refine ⟨ret_int ?_, rfl⟩; omega)
  · have E : minU a b = b := if_neg h
    have h2 : b < a := by omega
    rw [E]
    go_enter Try.func102, Try.ntmps102
    go_wp2
    all_goals go_ret
    all_goals first | exact ⟨rfl, rfl⟩ | (refine ⟨ret_int ?_, rfl⟩; omega)
theorem least_any {w : World} {S : Nat} {L : List (Int × Int)} (h : USt w S L) (f t : Int) : Calls Try.prog 43 #[.pointer (some ⟨S, 0, none⟩), .agg #[.int .i64 f, .int .i64 t]] w fun e w' => e = .returned (.int .i64 (chooseU minU L (f, t))) ∧ Below w.heap.size w w' := by
  have hl := h.len
  have K := Lib.hid (fun W (hb : Below w.heap.size w W) => choose_any (h.below hb) f t 102 minU (enters_of Try.func102 (by kernel_rfl) rfl) least1_any)
  have HB := below_alloc (Below.refl _ w) (.cells #[.int .i64 f, .int .i64 t] 39)
  clear h
  go_enter Try.func43, Try.ntmps43
  go_wp2_with (go_at_call 101; ((with_reducible refine (K.out _ HB).mono ?_)); rintro e w' ⟨rfl, hb⟩)
  go_ret
  exact ⟨rfl, below_next HB hb⟩
/-- the level at a time -/
def atU (L : List (Int × Int)) (t : Int) : Int := chooseU minU L (clampI (minU (clampI t) 1099511627775), addI (minU (clampI t) 1099511627775) 1)
end Go.Proofs.Ytbhnjmdlagjfbaa
namespace Go.Proofs.Ytbhnjmdlagjfbaa
set_option linter.unusedVariables false
open Go.ChangeShapes Go.WideShapes Go.ChangeAt Go.RowKit
attribute [local go_sem ↓] Go.wp_at_zero Go.wp_at_succ comesTo_value_eq comesTo_skip_eq comesTo_enter_eq

set_option maxHeartbeats 1000000 in
theorem at_any {w : World} {S : Nat} {L : List (Int × Int)} (h : USt w S L) (t : Int) : Calls Try.prog 113 #[.pointer (some ⟨S, 0, none⟩), .int .i64 t] w fun e w' => e = .returned (.int .i64 (atU L t)) ∧ Below w.heap.size w w' := by
  have KT := Lib.hid (there_any h)
  have KL := Lib.hid (fun W f t (hb : Below w.heap.size w W) => least_any (h.below hb) f t)
  have E := Lib.hid (show atU L t = chooseU minU L (clampI (minU (clampI t) 1099511627775), addI (minU (clampI t) 1099511627775) 1) from rfl)
  clear h
  have hm : (clampI t ≤ 1099511627775 ∧ minU (clampI t) 1099511627775 = clampI t) ∨ (1099511627775 < clampI t ∧ minU (clampI t) 1099511627775 = 1099511627775) := by
    by_cases h : clampI t ≤ 1099511627775
    · exact .inl ⟨h, if_pos h⟩
    · exact .inr ⟨by omega, if_neg h⟩
  generalize atU L t = R at *
  generalize minU (clampI t) 1099511627775 = m at *
  have KC := Lib.hid (fun W => clamp_any t W)
  generalize clampI t = c at *
  have KO := Lib.hid (fun W => of_any m 1 W)
  generalize clampI m = cm at *
  generalize addI m 1 = am at *
  rcases hm with ⟨h1, rfl⟩ | ⟨h1, rfl⟩
  all_goals (
    go_enter Try.func113, Try.ntmps113
    go_wp2_with fail
    refine KT.out.mono ?_
    rintro e w' ⟨rfl, rfl⟩
    go_wp2_with fail
    refine (KC.out _).mono ?_
    rintro e w' ⟨rfl, rfl⟩
    go_wp2_with fail
    refine (KO.out _).mono ?_
    rintro e w2 ⟨rfl, hb⟩
    go_wp2_with fail
    refine (KL.out _ _ _ hb).mono ?_
    rintro e w3 ⟨rfl, hb3⟩
    have HB := below_next hb hb3
    clear hb hb3
    go_wp2_with fail
    go_ret
    exact ⟨by rw [E.out]; rfl, HB⟩)
/-- levels that nobody made -/
def NoU (w : World) (v : Value) : Prop := v = .pointer none ∨ ∃ S, v = .pointer (some ⟨S, 0, none⟩) ∧ w.heap[S]? = some (.cells #[.slice none 0 0] 162 (0, 0))
theorem NoU.below {w w' : World} {v : Value} (h : NoU w v) (hb : Below w.heap.size w w') : NoU w' v := by
  rcases h with h | ⟨S, h, hS⟩
  · exact .inl h
  · exact .inr ⟨S, h, (hb.block _ (Array.getElem?_eq_some_iff.1 hS).1).trans hS⟩
theorem there_no {w : World} {v : Value} (h : NoU w v) : Calls Try.prog 112 #[v] w fun e w' => e = .returned (.bool false) ∧ w = w' := by
  rcases h with rfl | ⟨S, rfl, hS⟩
  · exact there_nil w
  · exact there_none (cell_of_block (o := 0) hS rfl)
theorem at_no {w : World} {v : Value} (h : NoU w v) (t : Int) : Calls Try.prog 113 #[v, .int .i64 t] w fun e w' => e = .returned (.int .i64 0) ∧ Below w.heap.size w w' := by
  have KT := Lib.hid (there_no h)
  clear h
  go_enter Try.func113, Try.ntmps113
  go_wp2_with (go_at_call 112; refine KT.out.mono ?_; rintro e w' ⟨rfl, rfl⟩)
  go_ret
  exact ⟨rfl, Below.refl _ _⟩
theorem forget_no {w : World} {v : Value} (h : NoU w v) (t : Int) : Calls Try.prog 54 #[v, .int .i64 t] w fun e w' => e = .returned (.int .i64 1) ∧ Below w.heap.size w w' := by
  have KT := Lib.hid (there_no h)
  clear h
  go_enter Try.func54, Try.ntmps54
  go_wp2_with (go_at_call 112; refine KT.out.mono ?_; rintro e w' ⟨rfl, rfl⟩)
  go_ret
  exact ⟨rfl, Below.refl _ _⟩
theorem list_no {w : World} {v : Value} (h : NoU w v) : Calls Try.prog 76 #[v] w fun e w' => e = .returned (.slice none 0 0) ∧ Below w.heap.size w w' := by
  have KT := Lib.hid (there_no h)
  clear h
  go_enter Try.func76, Try.ntmps76
  go_wp2_with (go_at_call 112; refine KT.out.mono ?_; rintro e w' ⟨rfl, rfl⟩)
  go_ret
  exact ⟨rfl, Below.refl _ _⟩
theorem clone_no {w : World} {v : Value} (h : NoU w v) : Calls Try.prog 62 #[v] w fun e w' => e = .returned (.pointer none) ∧ Below w.heap.size w w' := by
  have KT := Lib.hid (there_no h)
  clear h
  go_enter Try.func62, Try.ntmps62
  go_wp2_with (go_at_call 112; refine KT.out.mono ?_; rintro e w' ⟨rfl, rfl⟩)
  go_ret
  exact ⟨rfl, Below.refl _ _⟩
theorem choose_no {w : World} {v : Value} (h : NoU w v) (f t : Int) (fb : FuncId) : Calls Try.prog 101 #[v, .agg #[.int .i64 f, .int .i64 t], .func (.func fb) #[] #[]] w fun e w' => e = .returned (.int .i64 0) ∧ Below w.heap.size w w' := by
  have HB := below_alloc (below_alloc (Below.refl _ w) (.cells #[.int .i64 f, .int .i64 t] 39)) (.cells #[.func (.func fb) #[] #[]] 154)
  have KT := Lib.hid (there_no (h.below HB))
  clear h
  go_enter Try.func101, Try.ntmps101
  go_wp2_with (go_at_call 112; refine KT.out.mono ?_; rintro e w' ⟨rfl, rfl⟩)
  go_ret
  exact ⟨rfl, HB⟩
theorem least_no {w : World} {v : Value} (h : NoU w v) (f t : Int) : Calls Try.prog 43 #[v, .agg #[.int .i64 f, .int .i64 t]] w fun e w' => e = .returned (.int .i64 0) ∧ Below w.heap.size w w' := by
  have HB := below_alloc (Below.refl _ w) (.cells #[.int .i64 f, .int .i64 t] 39)
  have KT := Lib.hid (choose_no (h.below HB) f t 102)
  clear h
  go_enter Try.func43, Try.ntmps43
  go_wp2_with (go_at_call 101; ((with_reducible refine KT.out.mono ?_)); rintro e w' ⟨rfl, hb⟩)
  go_ret
  exact ⟨rfl, below_next HB hb⟩
theorem change_none {w : World} {v : Value} (h : NoU w v) (f t : Int) (fn : FuncId) (caps : Array Value) : Calls Try.prog 103 #[v, .agg #[.int .i64 f, .int .i64 t], .func (.func fn) #[] caps] w fun e w' => e = .returned (.int .i64 1) ∧ Below w.heap.size w w' := by
  have HB := below_alloc (below_alloc (Below.refl _ w) (.cells #[.int .i64 f, .int .i64 t] 39)) (.cells #[.func (.func fn) #[] caps] 160)
  have KT := Lib.hid (there_no (h.below HB))
  clear h
  go_enter Try.func103, Try.ntmps103
  go_wp2_with (go_at_call 112; refine KT.out.mono ?_; rintro e w' ⟨rfl, rfl⟩)
  go_ret
  exact ⟨rfl, HB⟩
theorem set_no {w : World} {v : Value} (h : NoU w v) (f t n : Int) : Calls Try.prog 52 #[v, .agg #[.int .i64 f, .int .i64 t], .int .i64 n] w fun e w' => e = .returned (.int .i64 1) ∧ Below w.heap.size w w' := by
  have HB := below_alloc (below_alloc (Below.refl _ w) (.cells #[.int .i64 f, .int .i64 t] 39)) (.cells #[.int .i64 n] 3)
  have KT := Lib.hid (fun fn caps => change_none (h.below HB) f t fn caps)
  clear h
  go_enter Try.func52, Try.ntmps52
  go_wp2_with (go_at_call 103; ((with_reducible refine (KT.out _ _).mono ?_)); rintro e w' ⟨rfl, hb⟩)
  go_ret
  exact ⟨rfl, below_next HB hb⟩
end Go.Proofs.Ytbhnjmdlagjfbaa
