/- Laws that belong together: Reservations (layer 18): the bytes of a list (Put). Conditions: the numbers fit, the lengths' bounds.; Reservations (layer 18): Put, behind any bytes. Conditions: the numbers fit, the lengths' bounds.; Reservations (layer 18), the document's: Put. Conditions: the lengths' bounds. -/
import Derived.Test.YtbhnjmdlagjfbaaMak
import Derived.Test.YtbhnjmdlagjfbaaMApp8
import Derived.Test.YtbhnjmdlagjfbaaMao
namespace Go.Proofs.Ytbhnjmdlagjfbaa
set_option linter.unusedVariables false
open Go.ChangeShapes Go.WideShapes Go.ChangeAt Go.RowKit
attribute [local go_sem ↓] Go.wp_at_zero Go.wp_at_succ comesTo_value_eq comesTo_skip_eq comesTo_enter_eq

def putRv (r : RV) : List Int := putI r.1 ++ putI r.2.1 ++ putI r.2.2.1 ++ putI r.2.2.2
def putRs (l : List RV) : List Int := l.flatMap putRv
def bytesR (l : List RV) (n : Int) : List Int := putI n ++ putI (l.length : Int) ++ putRs l
structure RVB (r : RV) : Prop where
  a : i64R r.1
  b : i64R r.2.1
  c : i64R r.2.2.1
  d : i64R r.2.2.2
theorem putRs_take (l : List RV) {k : Nat} (hk : k < l.length) : putRs (l.take (k + 1)) = putRs (l.take k) ++ putRv (l.getD k zR) := by
  unfold putRs
  rw [List.take_succ_eq_append_getElem hk, List.flatMap_append]
  simp [List.getD, List.getElem?_eq_getElem hk]
theorem putRv_len {r : RV} (h : RVB r) : (putRv r).length ≤ 40 := by
  have h1 := putI_len h.a
  have h2 := putI_len h.b
  have h3 := putI_len h.c
  have h4 := putI_len h.d
  unfold putRv
  simp only [List.length_append]
  omega
theorem putRs_len : ∀ {l : List RV}, (∀ r ∈ l, RVB r) → (putRs l).length ≤ 40 * l.length
  | [], _ => by simp [putRs]
  | r :: l, h => by
    have h1 := putRv_len (h r List.mem_cons_self)
    have h2 := putRs_len (l := l) fun x hx => h x (List.mem_cons_of_mem _ hx)
    unfold putRs at h2 ⊢
    rw [List.flatMap_cons, List.length_append, List.length_cons]
    omega
/-- the box of the bytes, and a row of its own behind it -/
structure LayR (w : World) (B : Nat) (xs : List Int) (wr : World) : Prop where
  ex : ∃ v, wr.heap[B]? = some (.cells #[v] 24 (0, 0)) ∧ OwnTxt wr (B + 1) v xs
  fr : Below B w wr
theorem LayR.below {w wr w' : World} {B : Nat} {xs : List Int} (h : LayR w B xs wr) (hb : Below wr.heap.size wr w') : LayR w B xs w' := by
  obtain ⟨v, h1, h2⟩ := h.ex
  have hlt := (Array.getElem?_eq_some_iff.1 h1).1
  exact ⟨⟨v, (hb.block _ hlt).trans h1, h2.of_block fun g hg => hb.block g (ownBlock_lt h2 hg)⟩, h.fr.trans (hb.mono (by omega))⟩
set_option maxRecDepth 100000 in
set_option maxHeartbeats 4000000 in
theorem put1_rs {w w0 : World} {B : Nat} {xs : List Int} (h : LayR w0 B xs w) (hl : xs.length ≤ 1000000) {x : Int} (hx : i64R x) :
    Calls Try.prog 79 #[.int .i64 x, .pointer (some ⟨B, 0, none⟩)] w fun e w' => (∃ v, e = .returned v) ∧ LayR w0 B (xs ++ putI x) w' ∧ StR w w' := by
  have hmx : Try.prog.follows .mixedOrders = true := by kernel_rfl
  obtain ⟨v, hv, ho⟩ := h.ex
  obtain ⟨a, c, hve, _⟩ := ho.shape
  subst hve
  have HF := Lib.hid h.fr
  have HX := Lib.hid hx
  have HL := Lib.hid hl
  have HV := Lib.hid hv
  have HO := Lib.hid ho
  clear h hv ho hx hl
  go_enter Try.func79, Try.ntmps79
  go_upto_region 0 with fail
  refine Ap.wp_region_K (S1 := fun _ => True) (S2 := fun X => X.cell? ⟨B, 0, none⟩ = some (.slice a xs.length c)) (js := 4) hmx ?_
  change Ap.wpAnyK _ _ _ _ _ _ _ 5 _ _ w.drew
  have HV0 := Lib.hid (show w.drew.heap[B]? = some (.cells #[.slice a xs.length c] 24 (0, 0)) from HV.out)
  have HST0 := Lib.hid (show StR w w.drew from ⟨Nat.le_refl _, fun _ _ _ _ => rfl⟩)
  have HO0 := Lib.hid (show OwnTxt w.drew (B + 1) (.slice a xs.length c) xs from HO.out.of_block fun g hg => rfl)
  have HF0 := Lib.hid (show Below B w0 w.drew from HF.out.drew)
  generalize w.drew = W0 at *
  have hSS : (fun _ : World => True) W0 ∧ (fun X : World => X.cell? ⟨B, 0, none⟩ = some (.slice a xs.length c)) W0 := ⟨trivial, cell_of_block (o := 0) HV0.out rfl⟩
  refine Ap.wpAnyK_take2 (i := 0) (v := .slice a xs.length c) rfl (by decide) (by decide +kernel) (by decide +kernel) (by decide +kernel) rfl (by decide +kernel) (by decide +kernel) (fun _ _ _ h => h) (.inl ⟨by first | rfl | (go_simp; done), fun X hX => by have hx1 := hX.2; clear hX; first | (go_simp; done) | (go_simp; rfl)⟩) hSS ?_
  refine Ap.wpAnyK_take1 (i := 1) (v := .int .i64 x) rfl (by decide) (by decide +kernel) (by decide +kernel) (by decide +kernel) (fun _ _ _ h => h) (.inl ⟨by first | rfl | (go_simp; done), fun X hX => by clear hX; first | (go_simp; done) | (go_simp; rfl)⟩) hSS ?_
  clear hSS
  refine Ap.anyK_call (i := 2) (by decide +kernel) rfl rfl (by go_simp) (putint_any (v := .slice none 0 0) (xs := []) (.inr ⟨rfl, none, 0, rfl, fun _ => rfl⟩) (by simp) HX.out) ?_
  rintro e W1 ⟨u, rfl, hu, hb⟩
  have hV1 := (hb.block _ (Array.getElem?_eq_some_iff.1 HV0.out).1).trans HV0.out
  have hO1 : OwnTxt W1 (B + 1) (.slice a xs.length c) xs := HO0.out.of_block fun g hg => hb.block g (ownBlock_lt HO0.out hg)
  have hlt := (Array.getElem?_eq_some_iff.1 HV0.out).1
  have HST1 := Lib.hid (HST0.out.trans (StR.of_below hb))
  have hF1 := HF0.out.trans (hb.mono (Nat.le_of_lt hlt))
  obtain ⟨ua, uc, hue, _⟩ := hu.shape
  rw [List.nil_append] at hu hue
  refine ⟨_, rfl, ⟨trivial, fun _ => cell_of_block (o := 0) hV1 rfl⟩, ?_⟩
  obtain ⟨v9, W9, g0, g1, g2, g3⟩ := A8.run_app8 hO1 hu.at (by have := putI_len HX.out; have := HL.out; omega) (Nat.le_trans hlt hb.size) 24
  have hV9 := (g2.block B (by omega)).trans hV1
  obtain ⟨a9, c9, h9, _⟩ := g1.shape
  subst h9
  subst hue
  refine Ap.anyK_val1 (i := 3) (v := .slice a9 (xs ++ putI x).length c9) (w' := W9) (by decide +kernel) rfl rfl (Ap.exec_app rfl (by go_simp) (by go_simp) g0) ⟨trivial, cell_of_block (o := 0) hV9 rfl⟩ ?_
  have y0 := cell_of_block (o := 0) hV9 rfl
  have f0 := free_of_block 0 hV9
  have hw := (wrote_refl hV9).set 0 (.slice a9 (xs ++ putI x).length c9)
  have HRES := Lib.hid (show LayR w0 B (xs ++ putI x) (W9.setCell ⟨B, 0, none⟩ (.slice a9 (xs ++ putI x).length c9)) from
    ⟨⟨_, hw.there, g1.of_block fun g hg => hw.rest g (by have := g1.blockGe hg; omega)⟩, hw.below (hF1.trans (g2.mono (by omega))) (Nat.le_refl _)⟩)
  have HST := Lib.hid (show StR w (W9.setCell ⟨B, 0, none⟩ (.slice a9 (xs ++ putI x).length c9)) from HST1.out.trans ⟨by rw [hw.size]; exact g3.size, fun j cs m hj => by
    have hjB : j ≠ B := fun e => by
      subst e
      rw [hV1] at hj
      simp only [Option.some.injEq, Obj.cells.injEq] at hj
      exact absurd hj.2.1 (by decide)
    have hjo : some j ≠ (Value.slice a xs.length c).ownBlock := fun e => by
      rcases hO1.own.2 with ⟨h1, _⟩ | ⟨g, cap, cur, h1, _, hh, _⟩
      · rw [h1] at e; cases e
      · rw [h1] at e
        simp only [Value.ownBlock, Option.some.injEq] at e
        subst e
        rw [hh] at hj
        simp only [Option.some.injEq, Obj.cells.injEq] at hj
        exact absurd hj.2.1 (by decide)
    rw [hw.rest j hjB]
    exact g3.block j (Array.getElem?_eq_some_iff.1 hj).1 hjo⟩)
  clear hw g0 g1 g2 g3 hV1 hO1 hF1 hu hb
  generalize (xs ++ putI x).length = n9 at *
  refine Ap.anyK_store (i := 4) (w' := W9.setCell ⟨B, 0, none⟩ (.slice a9 n9 c9)) (by decide +kernel) rfl rfl (by decide +kernel) (by first | (go_simp; done) | (go_simp; rfl)) trivial ?_
  refine Ap.wpAnyK_done (by decide +kernel) ?_ _
  clear hV9 y0 f0
  generalize W9.setCell ⟨B, 0, none⟩ (.slice a9 n9 c9) = WX at *
  go_simp
  go_wp2_with fail
  exact bodyPost_end (v := .tuple #[]) (by simp [results, Try.results79, go_sem]) rfl ⟨⟨_, rfl⟩, HRES.out, HST.out⟩
theorem RG.rvb {l : List RV} {n : Int} (h : RG l n) : ∀ r ∈ l, RVB r := fun r hr => by
  have h1 := h.may r hr
  have h2 := h.pos
  have h3 := h1.2.2
  unfold mayR at h3
  rw [decide_eq_true_eq] at h3
  exact ⟨by unfold i64R; omega, by unfold i64R; omega, by unfold i64R; omega, by unfold i64R; omega⟩
end Go.Proofs.Ytbhnjmdlagjfbaa
namespace Go.Proofs.Ytbhnjmdlagjfbaa
set_option linter.unusedVariables false
open Go.ChangeShapes Go.WideShapes Go.ChangeAt Go.RowKit
attribute [local go_sem ↓] Go.wp_at_zero Go.wp_at_succ comesTo_value_eq comesTo_skip_eq comesTo_enter_eq
set_option maxRecDepth 100000 in
set_option maxHeartbeats 4000000 in
theorem put_rno {w : World} {p v : Value} {zs : List Int} (h : NoRs w p) (ht : TxtAt w v zs) (hl : zs.length ≤ 100000) :
    Calls Try.prog 25 #[p, v] w fun e w' => ∃ u, e = .returned u ∧ OwnTxt w' w.heap.size u zs ∧ Below w.heap.size w w' := by
  have hA := below_alloc (Below.refl _ w) (.cells #[v] 24)
  have hN := World.alloc_heap_new w (.cells #[v] 24)
  have hb' : ∃ a n c, v = .slice a n c := by
    rcases ht with ⟨b, off, cap, rfl, _, _⟩ | ⟨_, a, cap, rfl, _⟩
    · exact ⟨_, _, _, rfl⟩
    · exact ⟨_, _, _, rfl⟩
  obtain ⟨va, vn, vc, rfl⟩ := hb'
  have KC := Lib.hid (clone_bytes (ht.below hA) (by omega))
  have HN := Lib.hid hN
  have HA := Lib.hid hA
  have HP := Lib.hid h
  have hp : ∃ o, p = .pointer o := by
    rcases h with rfl | ⟨F, rfl, _⟩
    · exact ⟨_, rfl⟩
    · exact ⟨_, rfl⟩
  obtain ⟨po, rfl⟩ := hp
  clear hN hA ht h
  go_enter Try.func25, Try.ntmps25
  go_upto_region 1 with fail
  generalize w.alloc (.cells #[.slice va vn vc] 24) = W0 at *
  have b0 := cell_of_block (o := 0) HN.out rfl
  go_wp2_with fail
  refine KC.out.mono ?_
  rintro e W1 ⟨u, rfl, hu, hb, _⟩
  have hV1 := (hb.block _ (Array.getElem?_eq_some_iff.1 HN.out).1).trans HN.out
  obtain ⟨ua, uc, hue, _⟩ := hu.shape
  subst hue
  have hw := (wrote_refl hV1).set 0 (.slice ua zs.length uc)
  have hlt := (Array.getElem?_eq_some_iff.1 HN.out).1
  have HLY := Lib.hid (show LayR w w.heap.size zs (W1.setCell ⟨w.heap.size, 0, none⟩ (.slice ua zs.length uc)) from
    ⟨⟨_, hw.there, (hu.base (B' := w.heap.size + 1) hlt).of_block fun g hg => hw.rest g (by have := hu.blockGe hg; omega)⟩, hw.below (below_next HA.out hb) (Nat.le_refl _)⟩)
  have HBX := Lib.hid (show (W1.setCell ⟨w.heap.size, 0, none⟩ (.slice ua zs.length uc)).heap[w.heap.size]? = some (.cells #[.slice ua zs.length uc] 24 (0, 0)) from hw.there)
  have y0 := cell_of_block (o := 0) hV1 rfl
  have f0 := free_of_block 0 hV1
  clear hw hu hb hV1 b0 KC hlt
  go_upto_region 2 with fail
  clear y0 f0
  generalize W1.setCell ⟨w.heap.size, 0, none⟩ (.slice ua zs.length uc) = W2 at *
  have KT := Lib.hid (there_rno (w := W2) (show NoRs W2 (.pointer po) from by
    rcases HP.out with h1 | ⟨F, h1, h2⟩
    · exact .inl h1
    · exact .inr ⟨F, h1, (HLY.out.fr.block F (Array.getElem?_eq_some_iff.1 h2).1).trans h2⟩))
  go_wp2_with fail
  refine KT.out.mono ?_
  rintro e w' ⟨rfl, rfl⟩
  have b0 := cell_of_block (o := 0) HBX.out rfl
  have HO := Lib.hid (show OwnTxt W2 w.heap.size (.slice ua zs.length uc) zs from by
    obtain ⟨v, h1, h2⟩ := HLY.out.ex
    rw [HBX.out] at h1
    simp only [Option.some.injEq, Obj.cells.injEq, Array.mk.injEq, List.cons.injEq, and_true] at h1
    subst h1
    exact h2.base (by omega))
  go_wp2_with fail
  go_ret
  exact ⟨_, rfl, HO.out, HLY.out.fr⟩
set_option maxRecDepth 100000 in
set_option maxHeartbeats 8000000 in
theorem put_rs {w : World} {B F : Nat} {l : List RV} {n : Int} {v : Value} {zs : List Int} (h : Rs w B F l n) (hR : ∀ r ∈ l, RVB r) (ht : TxtAt w v zs) (hl : zs.length ≤ 100000) :
    Calls Try.prog 25 #[.pointer (some ⟨F, 0, none⟩), v] w fun e w' => ∃ u, e = .returned u ∧ OwnTxt w' w.heap.size u (zs ++ bytesR l n) ∧ Below w.heap.size w w' := by
  have hltF := h.lt
  have hA := below_alloc (Below.refl _ w) (.cells #[v] 24)
  have hN := World.alloc_heap_new w (.cells #[v] 24)
  have hb' : ∃ a n c, v = .slice a n c := by
    rcases ht with ⟨b, off, cap, rfl, _, _⟩ | ⟨_, a, cap, rfl, _⟩
    · exact ⟨_, _, _, rfl⟩
    · exact ⟨_, _, _, rfl⟩
  obtain ⟨va, vn, vc, rfl⟩ := hb'
  have KC := Lib.hid (clone_bytes (ht.below hA) (by omega))
  have HN := Lib.hid hN
  have HA := Lib.hid hA
  have HR := Lib.hid hR
  have HL := Lib.hid hl
  have HPOS := Lib.hid h.pos
  have HLEN := Lib.hid h.len
  have HRS := Lib.hid h
  obtain ⟨x, x1, x2, _⟩ := h.at_
  obtain ⟨ad, c, hx, _, _, hrow⟩ := x2.rd
  subst hx
  have HF := Lib.hid x1
  have HROW := Lib.hid (fun X (hX : Below w.heap.size w X) => (show RdR X (.slice ad l.length c) l from x2.rd.below hX))
  have HAD := Lib.hid (show 0 < l.length → ∃ g, ad = some ⟨g, 0, none⟩ from fun hp => by obtain ⟨g, h1, _⟩ := hrow hp; exact ⟨g, h1⟩)
  have HLF := Lib.hid hltF
  clear hN hA ht h hR hl x1 x2 hrow hltF
  go_enter Try.func25, Try.ntmps25
  go_upto_region 1 with fail
  generalize w.alloc (.cells #[.slice va vn vc] 24) = W0 at *
  have b0 := cell_of_block (o := 0) HN.out rfl
  go_wp2_with fail
  refine KC.out.mono ?_
  rintro e W1 ⟨u, rfl, hu, hb, _⟩
  have hV1 := (hb.block _ (Array.getElem?_eq_some_iff.1 HN.out).1).trans HN.out
  obtain ⟨ua, uc, hue, _⟩ := hu.shape
  subst hue
  have hw := (wrote_refl hV1).set 0 (.slice ua zs.length uc)
  have hlt := (Array.getElem?_eq_some_iff.1 HN.out).1
  have HLY := Lib.hid (show LayR w w.heap.size zs (W1.setCell ⟨w.heap.size, 0, none⟩ (.slice ua zs.length uc)) from
    ⟨⟨_, hw.there, (hu.base (B' := w.heap.size + 1) hlt).of_block fun g hg => hw.rest g (by have := hu.blockGe hg; omega)⟩, hw.below (below_next HA.out hb) (Nat.le_refl _)⟩)
  have HBX := Lib.hid (show (W1.setCell ⟨w.heap.size, 0, none⟩ (.slice ua zs.length uc)).heap[w.heap.size]? = some (.cells #[.slice ua zs.length uc] 24 (0, 0)) from hw.there)
  have y0 := cell_of_block (o := 0) hV1 rfl
  have f0 := free_of_block 0 hV1
  clear hw hu hb hV1 b0 KC hlt
  go_upto_region 2 with fail
  clear y0 f0
  generalize W1.setCell ⟨w.heap.size, 0, none⟩ (.slice ua zs.length uc) = W2 at *
  have KT := Lib.hid (there_rs (HRS.out.below HLY.out.fr))
  have c1 : W2.cell? ⟨F, 1, none⟩ = some (.int .i64 n) := cell_of_block (o := 1) ((HLY.out.fr.block _ HLF.out).trans HF.out) rfl
  have hE := enters_of (P := Try.prog) Try.func79 (by kernel_rfl) rfl
  unfold Go.Proofs.Enters at hE
  go_wp2_with fail
  refine KT.out.mono ?_
  rintro e w' ⟨rfl, rfl⟩
  have K1 := Lib.hid (put1_rs HLY.out (by have := HL.out; omega) (x := n) (by have := HPOS.out; unfold i64R; omega))
  go_wp2_with fail
  refine K1.out.mono ?_
  rintro e W3 ⟨⟨u3, rfl⟩, hly, _⟩
  have HLY3 := Lib.hid hly
  have c0 : W3.cell? ⟨F, 0, none⟩ = some (.slice ad l.length c) := cell_of_block (o := 0) ((hly.fr.block _ HLF.out).trans HF.out) rfl
  have hpn := putI_len (v := n) (by have := HPOS.out; omega)
  have HPN := Lib.hid hpn
  have K2 := Lib.hid (put1_rs HLY3.out (by rw [List.length_append]; have := HL.out; omega) (x := (l.length : Int)) (by have := HLEN.out; unfold i64R; omega))
  clear c1 K1 hly KT hpn HBX
  go_wp2_with fail
  refine K2.out.mono ?_
  rintro e W4 ⟨⟨u4, rfl⟩, hly, _⟩
  have HLY4 := Lib.hid hly
  have HPM := Lib.hid (putI_len (v := (l.length : Int)) (by have := HLEN.out; omega))
  clear c0 K2 hly HLY3 HLY
  obtain ⟨base, hbase⟩ : ∃ bs, bs = zs ++ putI n ++ putI (l.length : Int) := ⟨_, rfl⟩
  rw [← hbase] at HLY4
  have HBL := Lib.hid (show base.length ≤ 100020 by rw [hbase]; simp only [List.length_append]; have := HPN.out; have := HPM.out; have := HL.out; omega)
  have HBE := Lib.hid (show base ++ putRs l = zs ++ bytesR l n by rw [hbase]; unfold bytesR; simp only [List.append_assoc])
  clear hbase
  have c0 : W4.cell? ⟨F, 0, none⟩ = some (.slice ad l.length c) := cell_of_block (o := 0) ((HLY4.out.fr.block _ HLF.out).trans HF.out) rfl
  go_wp2_with fail
  clear c0
  rcases Nat.eq_zero_or_pos l.length with hz | hz
  · obtain rfl := List.eq_nil_of_length_eq_zero hz
    clear hz
    have HE0 := Lib.hid (show base = zs ++ bytesR [] n by rw [← HBE.out]; simp [putRs])
    have hz0 : ([] : List RV).length = 0 := rfl
    rw [hz0]
    obtain ⟨v, h1, h2⟩ := HLY4.out.ex
    rw [HE0.out] at h2
    have b0 := cell_of_block (o := 0) h1 rfl
    obtain ⟨a5, c5, hv5, _⟩ := h2.shape
    generalize hn5 : (zs ++ bytesR [] n).length = n5 at hv5
    clear hn5
    have HO := Lib.hid (h2.base (B' := w.heap.size) (by omega))
    clear h1 h2
    go_loopw [33] (fun i wr => i = .int .i64 0 ∧ wr = W4) (fun _ _ => 0)
    case atStart => exact ⟨rfl, rfl⟩
    case round =>
      obtain ⟨rfl, rfl⟩ := hrel
      subst hv5
      go_wp2_with fail
      go_ret
      exact ⟨_, rfl, HO.out, HLY4.out.fr⟩
  obtain ⟨g, rfl⟩ := HAD.out hz
  clear hz HAD
  go_loopw [33] (fun i wr => ∃ k : Nat, k ≤ l.length ∧ i = .int .i64 k ∧ LayR w w.heap.size (base ++ putRs (l.take k)) wr) (fun i _ => l.length - (intOf i).toNat)
  case atStart => exact ⟨0, Nat.zero_le _, rfl, by simpa [putRs] using HLY4.out⟩
  case round =>
    obtain ⟨k, hk, rfl, hly⟩ := hrel
    by_cases hlt : k < l.length
    · have hd : decide (k < l.length) = true := decide_eq_true hlt
      have hd2 : decide ((k : Int) < (l.length : Int)) = true := decide_eq_true (by omega)
      have hkl : (k : Int) < (l.length : Int) := by omega
      have hw1 : IntKind.i64.wrap ((k : Int) + 1) = (k : Int) + 1 := by have := HLEN.out; rw [IntKind.wrap_i64]; omega
      obtain ⟨x0, x1, x2, x3⟩ := (HROW.out wr hly.fr).row k hlt
      have HB := Lib.hid (HR.out (l.getD k zR) (by simp [List.getD, List.getElem?_eq_getElem hlt]))
      have HT := Lib.hid (putRs_take l hlt)
      have HLK := Lib.hid (show (base ++ putRs (l.take k)).length ≤ 200000 by
        have h1 := putRs_len (l := l.take k) fun r hr => HR.out r (List.mem_of_mem_take hr)
        rw [List.length_take] at h1
        rw [List.length_append]
        have := HBL.out
        have := HLEN.out
        omega)
      generalize hrv : l.getD k zR = r at *
      obtain ⟨r1, r2, r3, r4⟩ := r
      dsimp only at x0 x1 x2 x3
      have HB1 := below_alloc (Below.refl _ wr) (.cells #[.int .i64 r1, .int .i64 r2, .int .i64 r3, .int .i64 r4] 125)
      have HN1 := Lib.hid (World.alloc_heap_new wr (.cells #[.int .i64 r1, .int .i64 r2, .int .i64 r3, .int .i64 r4] 125))
      have HY0 := Lib.hid (hly.below HB1)
      have hqz : w.heap.size < wr.heap.size := by obtain ⟨_, h1, _⟩ := hly.ex; exact (Array.getElem?_eq_some_iff.1 h1).1
      have HQZ := Lib.hid hqz
      clear HB1 hly hrv HLY4 hqz
      go_upto_region 10 with fail
      clear x0 x1 x2 x3
      generalize wr.alloc (.cells #[.int .i64 r1, .int .i64 r2, .int .i64 r3, .int .i64 r4] 125) = X0 at *
      generalize wr.heap.size = q at *
      obtain ⟨ys, hys⟩ : ∃ ys, ys = base ++ putRs (l.take k) := ⟨_, rfl⟩
      rw [← hys] at HY0 HLK
      have HYS := Lib.hid hys
      clear hys
      have y0 : X0.cell? ⟨q, 0, none⟩ = some (.int .i64 r1) := cell_of_block (o := 0) HN1.out rfl
      have K := Lib.hid (put1_rs HY0.out (by have := HLK.out; omega) (x := r1) HB.out.a)
      have HPL0 := Lib.hid (putI_len HB.out.a)
      go_wp2_with fail
      refine K.out.mono ?_
      rintro e X1 ⟨⟨uu0, rfl⟩, hly, hst⟩
      have HY1 := Lib.hid hly
      clear y0 K hly
      have HN2 := Lib.hid ((hst.block _ _ _ HN1.out).trans HN1.out)
      clear HN1 hst
      have HN1 := Lib.hid HN2.out
      clear HN2
      have y1 : X1.cell? ⟨q, 1, none⟩ = some (.int .i64 r2) := cell_of_block (o := 1) HN1.out rfl
      have K := Lib.hid (put1_rs HY1.out (by simp only [List.length_append]; have := HLK.out; have := HPL0.out; omega) (x := r2) HB.out.b)
      have HPL1 := Lib.hid (putI_len HB.out.b)
      go_wp2_with fail
      refine K.out.mono ?_
      rintro e X2 ⟨⟨uu1, rfl⟩, hly, hst⟩
      have HY2 := Lib.hid hly
      clear y1 K hly
      have HN2 := Lib.hid ((hst.block _ _ _ HN1.out).trans HN1.out)
      clear HN1 hst
      have HN1 := Lib.hid HN2.out
      clear HN2
      have y2 : X2.cell? ⟨q, 2, none⟩ = some (.int .i64 r3) := cell_of_block (o := 2) HN1.out rfl
      have K := Lib.hid (put1_rs HY2.out (by simp only [List.length_append]; have := HLK.out; have := HPL0.out; have := HPL1.out; omega) (x := r3) HB.out.c)
      have HPL2 := Lib.hid (putI_len HB.out.c)
      go_wp2_with fail
      refine K.out.mono ?_
      rintro e X3 ⟨⟨uu2, rfl⟩, hly, hst⟩
      have HY3 := Lib.hid hly
      clear y2 K hly
      have HN2 := Lib.hid ((hst.block _ _ _ HN1.out).trans HN1.out)
      clear HN1 hst
      have HN1 := Lib.hid HN2.out
      clear HN2
      have y3 : X3.cell? ⟨q, 3, none⟩ = some (.int .i64 r4) := cell_of_block (o := 3) HN1.out rfl
      have K := Lib.hid (put1_rs HY3.out (by simp only [List.length_append]; have := HLK.out; have := HPL0.out; have := HPL1.out; have := HPL2.out; omega) (x := r4) HB.out.d)
      have HPL3 := Lib.hid (putI_len HB.out.d)
      go_wp2_with fail
      refine K.out.mono ?_
      rintro e X4 ⟨⟨uu3, rfl⟩, hly, hst⟩
      have HY4 := Lib.hid hly
      clear y3 K hly
      have HYE := Lib.hid (show LayR w w.heap.size (base ++ putRs (l.take (k + 1))) X4 from by
        rw [HT.out, ← List.append_assoc, ← HYS.out]
        have := HY4.out
        unfold putRv
        simpa only [List.append_assoc] using this)
      clear HY0 HY1 HY2 HY3 HY4
      go_wp2_with fail
      go_roundw
      case rel => exact ⟨k + 1, by omega, by go_num, HYE.out⟩
      case measure => simp [intOf]; omega
    · obtain rfl : k = l.length := by omega
      have hd : decide (l.length < l.length) = false := decide_eq_false (by omega)
      have hd2 : decide ((l.length : Int) < (l.length : Int)) = false := decide_eq_false (by omega)
      rw [List.take_length, HBE.out] at hly
      have HLYF := Lib.hid hly
      obtain ⟨v, h1, h2⟩ := hly.ex
      have b0 := cell_of_block (o := 0) h1 rfl
      obtain ⟨a5, c5, hv5, _⟩ := h2.shape
      generalize hn5 : (zs ++ bytesR l n).length = n5 at hv5
      clear hn5
      have HO := Lib.hid (h2.base (B' := w.heap.size) (by omega))
      clear h1 h2 hly
      subst hv5
      go_wp2_with fail
      go_ret
      exact ⟨_, rfl, HO.out, HLYF.out.fr⟩
end Go.Proofs.Ytbhnjmdlagjfbaa
namespace Go.Proofs.Ytbhnjmdlagjfbaa
set_option linter.unusedVariables false
open Go.ChangeShapes Go.WideShapes Go.ChangeAt Go.RowKit
attribute [local go_sem ↓] Go.wp_at_zero Go.wp_at_succ comesTo_value_eq comesTo_skip_eq comesTo_enter_eq Rl.comesToR_value_eq Rl.comesToR_skip_eq Rl.comesToR_enter_eq

set_option maxRecDepth 100000 in
set_option maxHeartbeats 8000000 in
theorem rput18_any {w : World} {v : Value} {l : List RV} (h : RdR w v l) (hl : l.length ≤ 8) (hR : ∀ r ∈ l, RVB r) {n : Int} (hn : i64R n) (xs : List Int) (hx : xs.length ≤ 100000) :
    Calls Try.prog 26 #[.agg #[.int .i64 n, v], .string (strOfNums xs)] w fun e w' => e = .returned (.string (strOfNums (xs ++ bytesR l n))) ∧ Below w.heap.size w w' := by
  have hmx : Try.prog.follows .mixedOrders = true := by kernel_rfl
  have HL := Lib.hid hl
  have HX := Lib.hid hx
  have HR := Lib.hid hR
  have HN := Lib.hid hn
  obtain ⟨ad, c, rfl, h2, h3, h4⟩ := h
  have H4 := Lib.hid h4
  obtain ⟨len, hlen⟩ : ∃ x, x = l.length := ⟨_, rfl⟩
  have HLEN := Lib.hid hlen
  rw [← hlen] at HL H4 ⊢
  have HB0 := Lib.hid (below_alloc (Below.refl _ w) (.cells #[.int .i64 n, .slice ad len c] 35))
  have HC := Lib.hid (World.alloc_heap_new w (.cells #[.int .i64 n, .slice ad len c] 35))
  have HP1 := Lib.hid (putI_len (v := n) (by have := HN.out; unfold i64R at this; exact this))
  have HP2 := Lib.hid (putI_len (v := (len : Int)) (by have := HL.out; omega))
  obtain ⟨x1, hx1⟩ : ∃ x, x = xs ++ putI n := ⟨_, rfl⟩
  obtain ⟨ys, hys⟩ : ∃ x, x = x1 ++ putI (len : Int) := ⟨_, rfl⟩
  have HX1L := Lib.hid (show x1.length ≤ 100100 from by rw [hx1, List.length_append]; have := HX.out; have := HP1.out; omega)
  have HYL := Lib.hid (show ys.length ≤ 110000 from by rw [hys, List.length_append]; have := HX1L.out; have := HP2.out; omega)
  have K1 := Lib.hid (fun X => by rw [hx1]; exact rputint_any xs (by have := HX.out; omega) (n := n) (by have := HN.out; unfold i64R at this; exact this) X : ∀ X, Calls Try.prog 81 #[.string (strOfNums xs), .int .i64 n] X fun e w' => e = .returned (.string (strOfNums x1)) ∧ Below X.heap.size X w')
  have K2 := Lib.hid (fun X => by rw [hys]; exact rputint_any x1 (by have := HX1L.out; omega) (n := (len : Int)) (by have := HL.out; omega) X : ∀ X, Calls Try.prog 81 #[.string (strOfNums x1), .int .i64 (len : Int)] X fun e w' => e = .returned (.string (strOfNums ys)) ∧ Below X.heap.size X w')
  have HBY := Lib.hid (show xs ++ bytesR l n = ys ++ putRs l from by rw [hys, hx1]; unfold bytesR; rw [HLEN.out]; simp only [List.append_assoc])
  clear hx1 hys
  obtain ⟨res, hres⟩ : ∃ r, r = strOfNums (xs ++ bytesR l n) := ⟨_, rfl⟩
  rw [← hres]
  have HRES := Lib.hid hres
  clear hl hx hR hn h2 h3 h4 hlen hres
  go_enter Try.func26, Try.ntmps26
  go_upto_region 1 with fail
  generalize w.alloc (.cells #[.int .i64 n, .slice ad len c] 35) = W1 at *
  have QF := Lib.hid (fun (X : World) (hX : Below W1.heap.size W1 X) => (hX.block _ (Array.getElem?_eq_some_iff.1 HC.out).1).trans HC.out)
  have q0 := Lib.hid (fun X hX => cell_of_block (o := 0) (QF.out X hX) rfl)
  have q1 := Lib.hid (fun X hX => cell_of_block (o := 1) (QF.out X hX) rfl)
  refine Rl.wp_region_rel (fun a b => Below a.heap.size a b) W1 (fun a b c h h' => below_next h h') (fun a => Below.refl _ _) hmx (by kernel_rfl) (Below.refl _ _).drew ?_
  iterate 2 (refine Rl.textR_run ?_ (fun ρ => ?_) (fun ρ W hS hd => ?_) ?_; rotate_left; (focus go_simp); (focus (obtain ⟨hc, hf⟩ := bcell hS; go_simp; first | exact ⟨rfl, Below.refl _ _⟩ | (refine ⟨?_, Below.refl _ _⟩; rfl))); (try go_simp))
  (refine Rl.textR_run ?_ (fun ρ => ?_) (fun ρ W hS hd => ?_) ?_; rotate_left; (focus go_simp); (focus (have hfact := q0.out W hS; go_simp; first | exact ⟨rfl, Below.refl _ _⟩ | (refine ⟨?_, Below.refl _ _⟩; rfl))); (try go_simp))
  (refine Rl.textR_run ?_ (fun ρ => ?_) (fun ρ W hS hd => ?_) ?_; rotate_left; (focus go_simp); (focus (obtain ⟨hc, hf⟩ := bcell hS; go_simp; refine (K1.out W).mono ?_; rintro e w1 ⟨rfl, hb⟩; refine ⟨_, rfl, ?_, hb⟩; rfl)); (try go_simp))
  (refine Rl.textR_run ?_ (fun ρ => ?_) (fun ρ W hS hd => ?_) ?_; rotate_left; (focus go_simp); (focus (obtain ⟨hc, hf⟩ := bcell hS; go_simp; first | exact ⟨rfl, Below.refl _ _⟩ | (refine ⟨?_, Below.refl _ _⟩; rfl))); (try go_simp))
  (refine Rl.textR_run ?_ (fun ρ => ?_) (fun ρ W hS hd => ?_) ?_; rotate_left; (focus go_simp); (focus (have hfact := q1.out W hS; go_simp; first | exact ⟨rfl, Below.refl _ _⟩ | (refine ⟨?_, Below.refl _ _⟩; rfl))); (try go_simp))
  (refine Rl.textR_run ?_ (fun ρ => ?_) (fun ρ W hS hd => ?_) ?_; rotate_left; (focus go_simp); (focus (obtain ⟨hc, hf⟩ := bcell hS; go_simp; first | exact ⟨rfl, Below.refl _ _⟩ | (refine ⟨?_, Below.refl _ _⟩; rfl))); (try go_simp))
  (refine Rl.textR_run ?_ (fun ρ => ?_) (fun ρ W hS hd => ?_) ?_; rotate_left; (focus go_simp); (focus (obtain ⟨hc, hf⟩ := bcell hS; go_simp; refine (K2.out W).mono ?_; rintro e w1 ⟨rfl, hb⟩; refine ⟨_, rfl, ?_, hb⟩; rfl)); (try go_simp))
  (refine Rl.textR_run ?_ (fun ρ => ?_) (fun ρ W hS hd => ?_) ?_; rotate_left; (focus go_simp); (focus (obtain ⟨hc, hf⟩ := bcell hS; go_simp; first | exact ⟨rfl, Below.refl _ _⟩ | (refine ⟨?_, Below.refl _ _⟩; rfl))); (try go_simp))
  refine Rl.textR_nil ?_
  intro ρ W2 hg hk
  dsimp only
  have HB2 := Lib.hid (below_next HB0.out hg)
  have HC2 := Lib.hid (QF.out W2 hg)
  clear hg hk QF q0 q1 K1 K2 HB0 HC
  go_simp
  by_cases h0 : 0 < len
  case neg =>
    obtain rfl : len = 0 := by omega
    have hln : l = [] := List.eq_nil_of_length_eq_zero HLEN.out.symm
    have HE := Lib.hid (show res = strOfNums ys from by rw [HRES.out, HBY.out, hln]; show strOfNums (ys ++ []) = _; rw [List.append_nil])
    clear hln h0
    have q1 : W2.cell? ⟨w.heap.size, 1, none⟩ = some (.slice ad 0 c) := cell_of_block (o := 1) HC2.out rfl
    go_wp2_with fail
    go_loopw [1, 5] (fun s i wr => s = .string (strOfNums ys) ∧ i = .int .i64 0 ∧ wr = W2) (fun _ _ _ => 0)
    case atStart => exact ⟨rfl, rfl, rfl⟩
    case round =>
      obtain ⟨rfl, rfl, rfl⟩ := hrel
      have hd : decide ((0 : Int) < 0) = false := by decide
      go_wp2_with fail
      go_ret
      exact ⟨by rw [HE.out]; first | done | rfl, HB2.out⟩
  case pos =>
  obtain ⟨g, rfl, hg, hrow⟩ := H4.out h0
  have HG := Lib.hid hg
  have HROW := Lib.hid (fun (X : World) (hX : X.heap[g]? = w.heap[g]?) => hrow.mono hX)
  clear hg hrow H4
  go_wp2_with fail
  go_loopw [1, 5] (fun s i wr => ∃ k : Nat, k ≤ len ∧ s = .string (strOfNums (ys ++ putRs (l.take k))) ∧ i = .int .i64 k ∧ Below W2.heap.size W2 wr) (fun _ i _ => len - (intOf i).toNat)
  case atStart => exact ⟨0, Nat.zero_le _, by rw [List.take_zero]; show _ = Value.string (strOfNums (ys ++ [])); rw [List.append_nil], rfl, Below.refl _ _⟩
  case round =>
    obtain ⟨k, hk, rfl, rfl, hb⟩ := hrel
    have HBW := Lib.hid hb
    have HBK := Lib.hid (below_next HB2.out hb)
    have HCK := Lib.hid ((hb.block _ (Array.getElem?_eq_some_iff.1 HC2.out).1).trans HC2.out)
    clear hb
    have q1 : wr.cell? ⟨w.heap.size, 1, none⟩ = some (.slice (some ⟨g, 0, none⟩) len c) := cell_of_block (o := 1) HCK.out rfl
    by_cases hlt : k < len
    case pos =>
      have hd : decide (k < len) = true := decide_eq_true hlt
      have hd2 : decide ((k : Int) < (len : Int)) = true := decide_eq_true (by omega)
      have hkl : (k : Int) < (len : Int) := by omega
      have hw1 : IntKind.i64.wrap ((k : Int) + 1) = (k : Int) + 1 := by have := HL.out; rw [IntKind.wrap_i64]; omega
      have HK := Lib.hid hlt
      have hkL : k < l.length := by rw [← HLEN.out]; exact hlt
      obtain ⟨x0, x1, x2, x3⟩ := HROW.out wr (HBK.out.block g HG.out) k hkL
      have HPT := Lib.hid (putRs_take l hkL)
      have HRB := Lib.hid (HR.out (l.getD k zR) (by simp only [List.getD, List.getElem?_eq_getElem hkL, Option.getD_some]; exact List.getElem_mem hkL))
      have HTL := Lib.hid (show (putRs (l.take k)).length ≤ 320 from by
        have h1 := putRs_len (l := l.take k) (fun r hr => HR.out r (List.mem_of_mem_take hr))
        have h2 : (l.take k).length ≤ 8 := by rw [List.length_take]; have := HL.out; omega
        omega)
      clear hkL hk
      generalize l.getD k zR = r at *
      obtain ⟨r1, r2, r3, r4⟩ := r
      dsimp only at x0 x1 x2 x3
      obtain ⟨zs, hzs⟩ : ∃ zs, zs = ys ++ putRs (l.take k) := ⟨_, rfl⟩
      have HZL := Lib.hid (show zs.length ≤ 111000 from by rw [hzs, List.length_append]; have := HYL.out; have := HTL.out; omega)
      have hzn : ys ++ putRs (l.take (k + 1)) = zs ++ putI r1 ++ putI r2 ++ putI r3 ++ putI r4 := by
        rw [HPT.out, hzs]
        unfold putRv
        simp only [List.append_assoc]
      rw [← hzs]
      clear hzs
      have i1 := HRB.out.a
      have i2 := HRB.out.b
      have i3 := HRB.out.c
      have i4 := HRB.out.d
      unfold i64R at i1 i2 i3 i4
      have l1 := putI_len (v := r1) i1
      have l2 := putI_len (v := r2) i2
      have l3 := putI_len (v := r3) i3
      obtain ⟨z1, h1⟩ : ∃ x, x = zs ++ putI r1 := ⟨_, rfl⟩
      obtain ⟨z2, h2⟩ : ∃ x, x = z1 ++ putI r2 := ⟨_, rfl⟩
      obtain ⟨z3, h3⟩ : ∃ x, x = z2 ++ putI r3 := ⟨_, rfl⟩
      obtain ⟨z4, h4⟩ : ∃ x, x = z3 ++ putI r4 := ⟨_, rfl⟩
      have e1 : z1.length ≤ 112000 := by rw [h1, List.length_append]; have := HZL.out; omega
      have e2 : z2.length ≤ 113000 := by rw [h2, List.length_append]; omega
      have e3 : z3.length ≤ 114000 := by rw [h3, List.length_append]; omega
      have HZN := Lib.hid (show ys ++ putRs (l.take (k + 1)) = z4 from by rw [hzn, h4, h3, h2, h1])
      have K1 := Lib.hid (fun X => by rw [h1]; exact rputint_any zs (by have := HZL.out; omega) (n := r1) i1 X : ∀ X, Calls Try.prog 81 #[.string (strOfNums zs), .int .i64 r1] X fun e w' => e = .returned (.string (strOfNums z1)) ∧ Below X.heap.size X w')
      have K2 := Lib.hid (fun X => by rw [h2]; exact rputint_any z1 (by omega) (n := r2) i2 X : ∀ X, Calls Try.prog 81 #[.string (strOfNums z1), .int .i64 r2] X fun e w' => e = .returned (.string (strOfNums z2)) ∧ Below X.heap.size X w')
      have K3 := Lib.hid (fun X => by rw [h3]; exact rputint_any z2 (by omega) (n := r3) i3 X : ∀ X, Calls Try.prog 81 #[.string (strOfNums z2), .int .i64 r3] X fun e w' => e = .returned (.string (strOfNums z3)) ∧ Below X.heap.size X w')
      have K4 := Lib.hid (fun X => by rw [h4]; exact rputint_any z3 (by omega) (n := r4) i4 X : ∀ X, Calls Try.prog 81 #[.string (strOfNums z3), .int .i64 r4] X fun e w' => e = .returned (.string (strOfNums z4)) ∧ Below X.heap.size X w')
      clear i1 i2 i3 i4 l1 l2 l3 h1 h2 h3 h4 e1 e2 e3 hzn
      have ba := below_alloc (Below.refl _ wr) (.cells #[.int .i64 r1, .int .i64 r2, .int .i64 r3, .int .i64 r4] 118)
      have HT := Lib.hid (World.alloc_heap_new wr (.cells #[.int .i64 r1, .int .i64 r2, .int .i64 r3, .int .i64 r4] 118))
      have HBA := Lib.hid (below_next HBW.out ba)
      clear ba
      go_upto_region 6 with fail
      clear x0 x1 x2 x3 q1
      generalize wr.alloc (.cells #[.int .i64 r1, .int .i64 r2, .int .i64 r3, .int .i64 r4] 118) = Z at *
      generalize wr.heap.size = T at *
      have TF := Lib.hid (fun (X : World) (hX : Below Z.heap.size Z X) => (hX.block _ (Array.getElem?_eq_some_iff.1 HT.out).1).trans HT.out)
      have t0 := Lib.hid (fun X hX => cell_of_block (o := 0) (TF.out X hX) rfl)
      have t1 := Lib.hid (fun X hX => cell_of_block (o := 1) (TF.out X hX) rfl)
      have t2 := Lib.hid (fun X hX => cell_of_block (o := 2) (TF.out X hX) rfl)
      have t3 := Lib.hid (fun X hX => cell_of_block (o := 3) (TF.out X hX) rfl)
      refine Rl.wp_region_rel (fun a b => Below a.heap.size a b) Z (fun a b c h h' => below_next h h') (fun a => Below.refl _ _) hmx (by kernel_rfl) (Below.refl _ _).drew ?_
      iterate 2 (refine Rl.textR_run ?_ (fun ρ => ?_) (fun ρ W hS hd => ?_) ?_; rotate_left; (focus go_simp); (focus (obtain ⟨hc, hf⟩ := bcell hS; go_simp; first | exact ⟨rfl, Below.refl _ _⟩ | (refine ⟨?_, Below.refl _ _⟩; rfl))); (try go_simp))
      (refine Rl.textR_run ?_ (fun ρ => ?_) (fun ρ W hS hd => ?_) ?_; rotate_left; (focus go_simp); (focus (have hfact := t0.out W hS; go_simp; first | exact ⟨rfl, Below.refl _ _⟩ | (refine ⟨?_, Below.refl _ _⟩; rfl))); (try go_simp))
      (refine Rl.textR_run ?_ (fun ρ => ?_) (fun ρ W hS hd => ?_) ?_; rotate_left; (focus go_simp); (focus (obtain ⟨hc, hf⟩ := bcell hS; go_simp; refine (K1.out W).mono ?_; rintro e w1 ⟨rfl, hb⟩; refine ⟨_, rfl, ?_, hb⟩; rfl)); (try go_simp))
      iterate 2 (refine Rl.textR_run ?_ (fun ρ => ?_) (fun ρ W hS hd => ?_) ?_; rotate_left; (focus go_simp); (focus (obtain ⟨hc, hf⟩ := bcell hS; go_simp; first | exact ⟨rfl, Below.refl _ _⟩ | (refine ⟨?_, Below.refl _ _⟩; rfl))); (try go_simp))
      (refine Rl.textR_run ?_ (fun ρ => ?_) (fun ρ W hS hd => ?_) ?_; rotate_left; (focus go_simp); (focus (have hfact := t1.out W hS; go_simp; first | exact ⟨rfl, Below.refl _ _⟩ | (refine ⟨?_, Below.refl _ _⟩; rfl))); (try go_simp))
      (refine Rl.textR_run ?_ (fun ρ => ?_) (fun ρ W hS hd => ?_) ?_; rotate_left; (focus go_simp); (focus (obtain ⟨hc, hf⟩ := bcell hS; go_simp; refine (K2.out W).mono ?_; rintro e w1 ⟨rfl, hb⟩; refine ⟨_, rfl, ?_, hb⟩; rfl)); (try go_simp))
      iterate 2 (refine Rl.textR_run ?_ (fun ρ => ?_) (fun ρ W hS hd => ?_) ?_; rotate_left; (focus go_simp); (focus (obtain ⟨hc, hf⟩ := bcell hS; go_simp; first | exact ⟨rfl, Below.refl _ _⟩ | (refine ⟨?_, Below.refl _ _⟩; rfl))); (try go_simp))
      (refine Rl.textR_run ?_ (fun ρ => ?_) (fun ρ W hS hd => ?_) ?_; rotate_left; (focus go_simp); (focus (have hfact := t2.out W hS; go_simp; first | exact ⟨rfl, Below.refl _ _⟩ | (refine ⟨?_, Below.refl _ _⟩; rfl))); (try go_simp))
      (refine Rl.textR_run ?_ (fun ρ => ?_) (fun ρ W hS hd => ?_) ?_; rotate_left; (focus go_simp); (focus (obtain ⟨hc, hf⟩ := bcell hS; go_simp; refine (K3.out W).mono ?_; rintro e w1 ⟨rfl, hb⟩; refine ⟨_, rfl, ?_, hb⟩; rfl)); (try go_simp))
      (refine Rl.textR_run ?_ (fun ρ => ?_) (fun ρ W hS hd => ?_) ?_; rotate_left; (focus go_simp); (focus (obtain ⟨hc, hf⟩ := bcell hS; go_simp; first | exact ⟨rfl, Below.refl _ _⟩ | (refine ⟨?_, Below.refl _ _⟩; rfl))); (try go_simp))
      (refine Rl.textR_run ?_ (fun ρ => ?_) (fun ρ W hS hd => ?_) ?_; rotate_left; (focus go_simp); (focus (have hfact := t3.out W hS; go_simp; first | exact ⟨rfl, Below.refl _ _⟩ | (refine ⟨?_, Below.refl _ _⟩; rfl))); (try go_simp))
      (refine Rl.textR_run ?_ (fun ρ => ?_) (fun ρ W hS hd => ?_) ?_; rotate_left; (focus go_simp); (focus (obtain ⟨hc, hf⟩ := bcell hS; go_simp; refine (K4.out W).mono ?_; rintro e w1 ⟨rfl, hb⟩; refine ⟨_, rfl, ?_, hb⟩; rfl)); (try go_simp))
      (refine Rl.textR_run ?_ (fun ρ => ?_) (fun ρ W hS hd => ?_) ?_; rotate_left; (focus go_simp); (focus (obtain ⟨hc, hf⟩ := bcell hS; go_simp; first | exact ⟨rfl, Below.refl _ _⟩ | (refine ⟨?_, Below.refl _ _⟩; rfl))); (try go_simp))
      refine Rl.textR_nil ?_
      intro ρ W3 hg hk
      dsimp only
      have HB3 := Lib.hid (below_next HBA.out hg)
      clear hg hk TF t0 t1 t2 t3 K1 K2 K3 K4 HT HBA
      go_simp
      go_wp2_with fail
      go_roundw
      case rel => exact ⟨k + 1, by have := HK.out; omega, by rw [HZN.out], by go_num, HB3.out⟩
      case measure => have := HK.out; simp [intOf]; omega
    case neg =>
      obtain rfl : k = len := by omega
      have hd : decide (k < k) = false := decide_eq_false (by omega)
      have hd2 : decide ((k : Int) < (k : Int)) = false := decide_eq_false (by omega)
      have HE := Lib.hid (show res = strOfNums (ys ++ putRs (l.take k)) from by rw [HRES.out, HBY.out, List.take_of_length_le (by rw [HLEN.out]; exact Nat.le_refl _)])
      clear hlt hk
      generalize strOfNums (ys ++ putRs (l.take k)) = sz at *
      go_wp2_with fail
      go_ret
      exact ⟨by rw [HE.out]; first | done | rfl, HBK.out⟩
end Go.Proofs.Ytbhnjmdlagjfbaa
