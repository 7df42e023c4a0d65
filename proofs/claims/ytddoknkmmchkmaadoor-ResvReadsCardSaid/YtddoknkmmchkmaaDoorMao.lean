/- Laws that belong together: Reservations (layer 18): the bytes of a list (Put). Conditions: the numbers fit, the lengths' bounds.; Reservations (layer 18): Put, behind any bytes. Conditions: the numbers fit, the lengths' bounds.; Reservations (layer 18): Drop, Past; a list that nobody made. Conditions: the lengths' bounds. -/
import Derived.Test.YtddoknkmmchkmaaDoorMam
import Derived.Test.YtddoknkmmchkmaaDoorMApp8
namespace Go.Proofs.YtddoknkmmchkmaaDoor
set_option linter.unusedVariables false
open Go.ChangeShapes Go.WideShapes Go.ChangeAt Go.RowKit
attribute [local go_sem ↓] Go.wp_at_zero Go.wp_at_succ comesTo_value_eq comesTo_skip_eq comesTo_enter_eq

def i64R (x : Int) : Prop := -9223372036854775808 ≤ x ∧ x ≤ 9223372036854775807
def putRv (r : RV) : List Int := putI r.1 ++ putI r.2.1 ++ putI r.2.2.1 ++ putI r.2.2.2
def putRs (l : List RV) : List Int := l.flatMap putRv
def bytesR (l : List RV) (n : Int) : List Int := putI n ++ putI (l.length : Int) ++ putRs l
structure RVB (r : RV) : Prop where
  a : i64R r.1
  b : i64R r.2.1
  c : i64R r.2.2.1
  d : i64R r.2.2.2
theorem putRs_take (l : List RV) {k : Nat} (hk : k < l.length) : putRs (l.take (k + 1)) = putRs (l.take k) ++ putRv (l.getD k zR) := by
  unfold putRs
  rw [List.take_succ_eq_append_getElem hk, List.flatMap_append]
  simp [List.getD, List.getElem?_eq_getElem hk]
theorem putRv_len {r : RV} (h : RVB r) : (putRv r).length ≤ 40 := by
  have h1 := putI_len h.a
  have h2 := putI_len h.b
  have h3 := putI_len h.c
  have h4 := putI_len h.d
  unfold putRv
  simp only [List.length_append]
  omega
theorem putRs_len : ∀ {l : List RV}, (∀ r ∈ l, RVB r) → (putRs l).length ≤ 40 * l.length
  | [], _ => by simp [putRs]
  | r :: l, h => by
    have h1 := putRv_len (h r List.mem_cons_self)
    have h2 := putRs_len (l := l) fun x hx => h x (List.mem_cons_of_mem _ hx)
    unfold putRs at h2 ⊢
    rw [List.flatMap_cons, List.length_append, List.length_cons]
    omega
/-- the box of the bytes, and a row of its own behind it -/
structure LayR (w : World) (B : Nat) (xs : List Int) (wr : World) : Prop where
  ex : ∃ v, wr.heap[B]? = some (.cells #[v] 22 (0, 0)) ∧ OwnTxt wr (B + 1) v xs
  fr : Below B w wr
theorem LayR.below {w wr w' : World} {B : Nat} {xs : List Int} (h : LayR w B xs wr) (hb : Below wr.heap.size wr w') : LayR w B xs w' := by
  obtain ⟨v, h1, h2⟩ := h.ex
  have hlt := (Array.getElem?_eq_some_iff.1 h1).1
  exact ⟨⟨v, (hb.block _ hlt).trans h1, h2.of_block fun g hg => hb.block g (ownBlock_lt h2 hg)⟩, h.fr.trans (hb.mono (by omega))⟩
set_option maxRecDepth 100000 in
set_option maxHeartbeats 4000000 in
theorem put1_rs {w w0 : World} {B : Nat} {xs : List Int} (h : LayR w0 B xs w) (hl : xs.length ≤ 1000000) {x : Int} (hx : i64R x) :
    Calls Tryd.prog 39 #[.int .i64 x, .pointer (some ⟨B, 0, none⟩)] w fun e w' => (∃ v, e = .returned v) ∧ LayR w0 B (xs ++ putI x) w' ∧ StR w w' := by
  have hmx : Tryd.prog.follows .mixedOrders = true := by kernel_rfl
  obtain ⟨v, hv, ho⟩ := h.ex
  obtain ⟨a, c, hve, _⟩ := ho.shape
  subst hve
  have HF := Lib.hid h.fr
  have HX := Lib.hid hx
  have HL := Lib.hid hl
  have HV := Lib.hid hv
  have HO := Lib.hid ho
  clear h hv ho hx hl
  go_enter Tryd.func39, Tryd.ntmps39
  go_upto_region 0 with fail
  refine Ap.wp_region_K (S1 := fun _ => True) (S2 := fun X => X.cell? ⟨B, 0, none⟩ = some (.slice a xs.length c)) (js := 4) hmx ?_
  change Ap.wpAnyK _ _ _ _ _ _ _ 5 _ _ w.drew
  have HV0 := Lib.hid (show w.drew.heap[B]? = some (.cells #[.slice a xs.length c] 22 (0, 0)) from HV.out)
  have HST0 := Lib.hid (show StR w w.drew from ⟨Nat.le_refl _, fun _ _ _ _ => rfl⟩)
  have HO0 := Lib.hid (show OwnTxt w.drew (B + 1) (.slice a xs.length c) xs from HO.out.of_block fun g hg => rfl)
  have HF0 := Lib.hid (show Below B w0 w.drew from HF.out.drew)
  generalize w.drew = W0 at *
  have hSS : (fun _ : World => True) W0 ∧ (fun X : World => X.cell? ⟨B, 0, none⟩ = some (.slice a xs.length c)) W0 := ⟨trivial, cell_of_block (o := 0) HV0.out rfl⟩
  refine Ap.wpAnyK_take2 (i := 0) (v := .slice a xs.length c) rfl (by decide) (by decide +kernel) (by decide +kernel) (by decide +kernel) rfl (by decide +kernel) (by decide +kernel) (fun _ _ _ h => h) (.inl ⟨by first | rfl | (go_simp; done), fun X hX => by have hx1 := hX.2; clear hX; first | (go_simp; done) | (go_simp; rfl)⟩) hSS ?_
  refine Ap.wpAnyK_take1 (i := 1) (v := .int .i64 x) rfl (by decide) (by decide +kernel) (by decide +kernel) (by decide +kernel) (fun _ _ _ h => h) (.inl ⟨by first | rfl | (go_simp; done), fun X hX => by clear hX; first | (go_simp; done) | (go_simp; rfl)⟩) hSS ?_
  clear hSS
  refine Ap.anyK_call (i := 2) (by decide +kernel) rfl rfl (by go_simp) (putint_any (v := .slice none 0 0) (xs := []) (.inr ⟨rfl, none, 0, rfl, fun _ => rfl⟩) (by simp) HX.out) ?_
  rintro e W1 ⟨u, rfl, hu, hb⟩
  have hV1 := (hb.block _ (Array.getElem?_eq_some_iff.1 HV0.out).1).trans HV0.out
  have hO1 : OwnTxt W1 (B + 1) (.slice a xs.length c) xs := HO0.out.of_block fun g hg => hb.block g (ownBlock_lt HO0.out hg)
  have hlt := (Array.getElem?_eq_some_iff.1 HV0.out).1
  have HST1 := Lib.hid (HST0.out.trans (StR.of_below hb))
  have hF1 := HF0.out.trans (hb.mono (Nat.le_of_lt hlt))
  obtain ⟨ua, uc, hue, _⟩ := hu.shape
  rw [List.nil_append] at hu hue
  refine ⟨_, rfl, ⟨trivial, fun _ => cell_of_block (o := 0) hV1 rfl⟩, ?_⟩
  obtain ⟨v9, W9, g0, g1, g2, g3⟩ := A8.run_app8 hO1 hu.at (by have := putI_len HX.out; have := HL.out; omega) (Nat.le_trans hlt hb.size) 22
  have hV9 := (g2.block B (by omega)).trans hV1
  obtain ⟨a9, c9, h9, _⟩ := g1.shape
  subst h9
  subst hue
  refine Ap.anyK_val1 (i := 3) (v := .slice a9 (xs ++ putI x).length c9) (w' := W9) (by decide +kernel) rfl rfl (Ap.exec_app rfl (by go_simp) (by go_simp) g0) ⟨trivial, cell_of_block (o := 0) hV9 rfl⟩ ?_
  have y0 := cell_of_block (o := 0) hV9 rfl
  have f0 := free_of_block 0 hV9
  have hw := (wrote_refl hV9).set 0 (.slice a9 (xs ++ putI x).length c9)
  have HRES := Lib.hid (show LayR w0 B (xs ++ putI x) (W9.setCell ⟨B, 0, none⟩ (.slice a9 (xs ++ putI x).length c9)) from
    ⟨⟨_, hw.there, g1.of_block fun g hg => hw.rest g (by have := g1.blockGe hg; omega)⟩, hw.below (hF1.trans (g2.mono (by omega))) (Nat.le_refl _)⟩)
  have HST := Lib.hid (show StR w (W9.setCell ⟨B, 0, none⟩ (.slice a9 (xs ++ putI x).length c9)) from HST1.out.trans ⟨by rw [hw.size]; exact g3.size, fun j cs m hj => by
    have hjB : j ≠ B := fun e => by
      subst e
      rw [hV1] at hj
      simp only [Option.some.injEq, Obj.cells.injEq] at hj
      exact absurd hj.2.1 (by decide)
    have hjo : some j ≠ (Value.slice a xs.length c).ownBlock := fun e => by
      rcases hO1.own.2 with ⟨h1, _⟩ | ⟨g, cap, cur, h1, _, hh, _⟩
      · rw [h1] at e; cases e
      · rw [h1] at e
        simp only [Value.ownBlock, Option.some.injEq] at e
        subst e
        rw [hh] at hj
        simp only [Option.some.injEq, Obj.cells.injEq] at hj
        exact absurd hj.2.1 (by decide)
    rw [hw.rest j hjB]
    exact g3.block j (Array.getElem?_eq_some_iff.1 hj).1 hjo⟩)
  clear hw g0 g1 g2 g3 hV1 hO1 hF1 hu hb
  generalize (xs ++ putI x).length = n9 at *
  refine Ap.anyK_store (i := 4) (w' := W9.setCell ⟨B, 0, none⟩ (.slice a9 n9 c9)) (by decide +kernel) rfl rfl (by decide +kernel) (by first | (go_simp; done) | (go_simp; rfl)) trivial ?_
  refine Ap.wpAnyK_done (by decide +kernel) ?_ _
  clear hV9 y0 f0
  generalize W9.setCell ⟨B, 0, none⟩ (.slice a9 n9 c9) = WX at *
  go_simp
  go_wp2_with fail
  exact bodyPost_end (v := .tuple #[]) (by simp [results, Tryd.results39, go_sem]) rfl ⟨⟨_, rfl⟩, HRES.out, HST.out⟩
end Go.Proofs.YtddoknkmmchkmaaDoor
namespace Go.Proofs.YtddoknkmmchkmaaDoor
set_option linter.unusedVariables false
open Go.ChangeShapes Go.WideShapes Go.ChangeAt Go.RowKit
attribute [local go_sem ↓] Go.wp_at_zero Go.wp_at_succ comesTo_value_eq comesTo_skip_eq comesTo_enter_eq
set_option maxRecDepth 100000 in
set_option maxHeartbeats 4000000 in
theorem put_rno {w : World} {p v : Value} {zs : List Int} (h : NoRs w p) (ht : TxtAt w v zs) (hl : zs.length ≤ 100000) :
    Calls Tryd.prog 12 #[p, v] w fun e w' => ∃ u, e = .returned u ∧ OwnTxt w' w.heap.size u zs ∧ Below w.heap.size w w' := by
  have hA := below_alloc (Below.refl _ w) (.cells #[v] 22)
  have hN := World.alloc_heap_new w (.cells #[v] 22)
  have hb' : ∃ a n c, v = .slice a n c := by
    rcases ht with ⟨b, off, cap, rfl, _, _⟩ | ⟨_, a, cap, rfl, _⟩
    · exact ⟨_, _, _, rfl⟩
    · exact ⟨_, _, _, rfl⟩
  obtain ⟨va, vn, vc, rfl⟩ := hb'
  have KC := Lib.hid (clone_bytes (ht.below hA) (by omega))
  have HN := Lib.hid hN
  have HA := Lib.hid hA
  have HP := Lib.hid h
  have hp : ∃ o, p = .pointer o := by
    rcases h with rfl | ⟨F, rfl, _⟩
    · exact ⟨_, rfl⟩
    · exact ⟨_, rfl⟩
  obtain ⟨po, rfl⟩ := hp
  clear hN hA ht h
  go_enter Tryd.func12, Tryd.ntmps12
  go_upto_region 1 with fail
  generalize w.alloc (.cells #[.slice va vn vc] 22) = W0 at *
  have b0 := cell_of_block (o := 0) HN.out rfl
  go_wp2_with fail
  refine KC.out.mono ?_
  rintro e W1 ⟨u, rfl, hu, hb, _⟩
  have hV1 := (hb.block _ (Array.getElem?_eq_some_iff.1 HN.out).1).trans HN.out
  obtain ⟨ua, uc, hue, _⟩ := hu.shape
  subst hue
  have hw := (wrote_refl hV1).set 0 (.slice ua zs.length uc)
  have hlt := (Array.getElem?_eq_some_iff.1 HN.out).1
  have HLY := Lib.hid (show LayR w w.heap.size zs (W1.setCell ⟨w.heap.size, 0, none⟩ (.slice ua zs.length uc)) from
    ⟨⟨_, hw.there, (hu.base (B' := w.heap.size + 1) hlt).of_block fun g hg => hw.rest g (by have := hu.blockGe hg; omega)⟩, hw.below (below_next HA.out hb) (Nat.le_refl _)⟩)
  have HBX := Lib.hid (show (W1.setCell ⟨w.heap.size, 0, none⟩ (.slice ua zs.length uc)).heap[w.heap.size]? = some (.cells #[.slice ua zs.length uc] 22 (0, 0)) from hw.there)
  have y0 := cell_of_block (o := 0) hV1 rfl
  have f0 := free_of_block 0 hV1
  clear hw hu hb hV1 b0 KC hlt
  go_upto_region 2 with fail
  clear y0 f0
  generalize W1.setCell ⟨w.heap.size, 0, none⟩ (.slice ua zs.length uc) = W2 at *
  have KT := Lib.hid (there_rno (w := W2) (show NoRs W2 (.pointer po) from by
    rcases HP.out with h1 | ⟨F, h1, h2⟩
    · exact .inl h1
    · exact .inr ⟨F, h1, (HLY.out.fr.block F (Array.getElem?_eq_some_iff.1 h2).1).trans h2⟩))
  go_wp2_with fail
  refine KT.out.mono ?_
  rintro e w' ⟨rfl, rfl⟩
  have b0 := cell_of_block (o := 0) HBX.out rfl
  have HO := Lib.hid (show OwnTxt W2 w.heap.size (.slice ua zs.length uc) zs from by
    obtain ⟨v, h1, h2⟩ := HLY.out.ex
    rw [HBX.out] at h1
    simp only [Option.some.injEq, Obj.cells.injEq, Array.mk.injEq, List.cons.injEq, and_true] at h1
    subst h1
    exact h2.base (by omega))
  go_wp2_with fail
  go_ret
  exact ⟨_, rfl, HO.out, HLY.out.fr⟩
set_option maxRecDepth 100000 in
set_option maxHeartbeats 8000000 in
theorem put_rs {w : World} {B F : Nat} {l : List RV} {n : Int} {v : Value} {zs : List Int} (h : Rs w B F l n) (hR : ∀ r ∈ l, RVB r) (ht : TxtAt w v zs) (hl : zs.length ≤ 100000) :
    Calls Tryd.prog 12 #[.pointer (some ⟨F, 0, none⟩), v] w fun e w' => ∃ u, e = .returned u ∧ OwnTxt w' w.heap.size u (zs ++ bytesR l n) ∧ Below w.heap.size w w' := by
  have hltF := h.lt
  have hA := below_alloc (Below.refl _ w) (.cells #[v] 22)
  have hN := World.alloc_heap_new w (.cells #[v] 22)
  have hb' : ∃ a n c, v = .slice a n c := by
    rcases ht with ⟨b, off, cap, rfl, _, _⟩ | ⟨_, a, cap, rfl, _⟩
    · exact ⟨_, _, _, rfl⟩
    · exact ⟨_, _, _, rfl⟩
  obtain ⟨va, vn, vc, rfl⟩ := hb'
  have KC := Lib.hid (clone_bytes (ht.below hA) (by omega))
  have HN := Lib.hid hN
  have HA := Lib.hid hA
  have HR := Lib.hid hR
  have HL := Lib.hid hl
  have HPOS := Lib.hid h.pos
  have HLEN := Lib.hid h.len
  have HRS := Lib.hid h
  obtain ⟨x, x1, x2, _⟩ := h.at_
  obtain ⟨ad, c, hx, _, _, hrow⟩ := x2.rd
  subst hx
  have HF := Lib.hid x1
  have HROW := Lib.hid (fun X (hX : Below w.heap.size w X) => (show RdR X (.slice ad l.length c) l from x2.rd.below hX))
  have HAD := Lib.hid (show 0 < l.length → ∃ g, ad = some ⟨g, 0, none⟩ from fun hp => by obtain ⟨g, h1, _⟩ := hrow hp; exact ⟨g, h1⟩)
  have HLF := Lib.hid hltF
  clear hN hA ht h hR hl x1 x2 hrow hltF
  go_enter Tryd.func12, Tryd.ntmps12
  go_upto_region 1 with fail
  generalize w.alloc (.cells #[.slice va vn vc] 22) = W0 at *
  have b0 := cell_of_block (o := 0) HN.out rfl
  go_wp2_with fail
  refine KC.out.mono ?_
  rintro e W1 ⟨u, rfl, hu, hb, _⟩
  have hV1 := (hb.block _ (Array.getElem?_eq_some_iff.1 HN.out).1).trans HN.out
  obtain ⟨ua, uc, hue, _⟩ := hu.shape
  subst hue
  have hw := (wrote_refl hV1).set 0 (.slice ua zs.length uc)
  have hlt := (Array.getElem?_eq_some_iff.1 HN.out).1
  have HLY := Lib.hid (show LayR w w.heap.size zs (W1.setCell ⟨w.heap.size, 0, none⟩ (.slice ua zs.length uc)) from
    ⟨⟨_, hw.there, (hu.base (B' := w.heap.size + 1) hlt).of_block fun g hg => hw.rest g (by have := hu.blockGe hg; omega)⟩, hw.below (below_next HA.out hb) (Nat.le_refl _)⟩)
  have HBX := Lib.hid (show (W1.setCell ⟨w.heap.size, 0, none⟩ (.slice ua zs.length uc)).heap[w.heap.size]? = some (.cells #[.slice ua zs.length uc] 22 (0, 0)) from hw.there)
  have y0 := cell_of_block (o := 0) hV1 rfl
  have f0 := free_of_block 0 hV1
  clear hw hu hb hV1 b0 KC hlt
  go_upto_region 2 with fail
  clear y0 f0
  generalize W1.setCell ⟨w.heap.size, 0, none⟩ (.slice ua zs.length uc) = W2 at *
  have KT := Lib.hid (there_rs (HRS.out.below HLY.out.fr))
  have c1 : W2.cell? ⟨F, 1, none⟩ = some (.int .i64 n) := cell_of_block (o := 1) ((HLY.out.fr.block _ HLF.out).trans HF.out) rfl
  have hE := enters_of (P := Tryd.prog) Tryd.func39 (by kernel_rfl) rfl
  unfold Go.Proofs.Enters at hE
  go_wp2_with fail
  refine KT.out.mono ?_
  rintro e w' ⟨rfl, rfl⟩
  have K1 := Lib.hid (put1_rs HLY.out (by have := HL.out; omega) (x := n) (by have := HPOS.out; unfold i64R; omega))
  go_wp2_with fail
  refine K1.out.mono ?_
  rintro e W3 ⟨⟨u3, rfl⟩, hly, _⟩
  have HLY3 := Lib.hid hly
  have c0 : W3.cell? ⟨F, 0, none⟩ = some (.slice ad l.length c) := cell_of_block (o := 0) ((hly.fr.block _ HLF.out).trans HF.out) rfl
  have hpn := putI_len (v := n) (by have := HPOS.out; omega)
  have HPN := Lib.hid hpn
  have K2 := Lib.hid (put1_rs HLY3.out (by rw [List.length_append]; have := HL.out; omega) (x := (l.length : Int)) (by have := HLEN.out; unfold i64R; omega))
  clear c1 K1 hly KT hpn HBX
  go_wp2_with fail
  refine K2.out.mono ?_
  rintro e W4 ⟨⟨u4, rfl⟩, hly, _⟩
  have HLY4 := Lib.hid hly
  have HPM := Lib.hid (putI_len (v := (l.length : Int)) (by have := HLEN.out; omega))
  clear c0 K2 hly HLY3 HLY
  obtain ⟨base, hbase⟩ : ∃ bs, bs = zs ++ putI n ++ putI (l.length : Int) := ⟨_, rfl⟩
  rw [← hbase] at HLY4
  have HBL := Lib.hid (show base.length ≤ 100020 by rw [hbase]; simp only [List.length_append]; have := HPN.out; have := HPM.out; have := HL.out; omega)
  have HBE := Lib.hid (show base ++ putRs l = zs ++ bytesR l n by rw [hbase]; unfold bytesR; simp only [List.append_assoc])
  clear hbase
  have c0 : W4.cell? ⟨F, 0, none⟩ = some (.slice ad l.length c) := cell_of_block (o := 0) ((HLY4.out.fr.block _ HLF.out).trans HF.out) rfl
  go_wp2_with fail
  clear c0
  rcases Nat.eq_zero_or_pos l.length with hz | hz
  · obtain rfl := List.eq_nil_of_length_eq_zero hz
    clear hz
    have HE0 := Lib.hid (show base = zs ++ bytesR [] n by rw [← HBE.out]; simp [putRs])
    have hz0 : ([] : List RV).length = 0 := rfl
    rw [hz0]
    obtain ⟨v, h1, h2⟩ := HLY4.out.ex
    rw [HE0.out] at h2
    have b0 := cell_of_block (o := 0) h1 rfl
    obtain ⟨a5, c5, hv5, _⟩ := h2.shape
    generalize hn5 : (zs ++ bytesR [] n).length = n5 at hv5
    clear hn5
    have HO := Lib.hid (h2.base (B' := w.heap.size) (by omega))
    clear h1 h2
    go_loopw [33] (fun i wr => i = .int .i64 0 ∧ wr = W4) (fun _ _ => 0)
    case atStart => exact ⟨rfl, rfl⟩
    case round =>
      obtain ⟨rfl, rfl⟩ := hrel
      subst hv5
      go_wp2_with fail
      go_ret
      exact ⟨_, rfl, HO.out, HLY4.out.fr⟩
  obtain ⟨g, rfl⟩ := HAD.out hz
  clear hz HAD
  go_loopw [33] (fun i wr => ∃ k : Nat, k ≤ l.length ∧ i = .int .i64 k ∧ LayR w w.heap.size (base ++ putRs (l.take k)) wr) (fun i _ => l.length - (intOf i).toNat)
  case atStart => exact ⟨0, Nat.zero_le _, rfl, by simpa [putRs] using HLY4.out⟩
  case round =>
    obtain ⟨k, hk, rfl, hly⟩ := hrel
    by_cases hlt : k < l.length
    · have hd : decide (k < l.length) = true := decide_eq_true hlt
      have hd2 : decide ((k : Int) < (l.length : Int)) = true := decide_eq_true (by omega)
      have hkl : (k : Int) < (l.length : Int) := by omega
      have hw1 : IntKind.i64.wrap ((k : Int) + 1) = (k : Int) + 1 := by have := HLEN.out; rw [IntKind.wrap_i64]; omega
      obtain ⟨x0, x1, x2, x3⟩ := (HROW.out wr hly.fr).row k hlt
      have HB := Lib.hid (HR.out (l.getD k zR) (by simp [List.getD, List.getElem?_eq_getElem hlt]))
      have HT := Lib.hid (putRs_take l hlt)
      have HLK := Lib.hid (show (base ++ putRs (l.take k)).length ≤ 200000 by
        have h1 := putRs_len (l := l.take k) fun r hr => HR.out r (List.mem_of_mem_take hr)
        rw [List.length_take] at h1
        rw [List.length_append]
        have := HBL.out
        have := HLEN.out
        omega)
      generalize hrv : l.getD k zR = r at *
      obtain ⟨r1, r2, r3, r4⟩ := r
      dsimp only at x0 x1 x2 x3
      have HB1 := below_alloc (Below.refl _ wr) (.cells #[.int .i64 r1, .int .i64 r2, .int .i64 r3, .int .i64 r4] 64)
      have HN1 := Lib.hid (World.alloc_heap_new wr (.cells #[.int .i64 r1, .int .i64 r2, .int .i64 r3, .int .i64 r4] 64))
      have HY0 := Lib.hid (hly.below HB1)
      have hqz : w.heap.size < wr.heap.size := by obtain ⟨_, h1, _⟩ := hly.ex; exact (Array.getElem?_eq_some_iff.1 h1).1
      have HQZ := Lib.hid hqz
      clear HB1 hly hrv HLY4 hqz
      go_upto_region 10 with fail
      clear x0 x1 x2 x3
      generalize wr.alloc (.cells #[.int .i64 r1, .int .i64 r2, .int .i64 r3, .int .i64 r4] 64) = X0 at *
      generalize wr.heap.size = q at *
      obtain ⟨ys, hys⟩ : ∃ ys, ys = base ++ putRs (l.take k) := ⟨_, rfl⟩
      rw [← hys] at HY0 HLK
      have HYS := Lib.hid hys
      clear hys
      have y0 : X0.cell? ⟨q, 0, none⟩ = some (.int .i64 r1) := cell_of_block (o := 0) HN1.out rfl
      have K := Lib.hid (put1_rs HY0.out (by have := HLK.out; omega) (x := r1) HB.out.a)
      have HPL0 := Lib.hid (putI_len HB.out.a)
      go_wp2_with fail
      refine K.out.mono ?_
      rintro e X1 ⟨⟨uu0, rfl⟩, hly, hst⟩
      have HY1 := Lib.hid hly
      clear y0 K hly
      have HN2 := Lib.hid ((hst.block _ _ _ HN1.out).trans HN1.out)
      clear HN1 hst
      have HN1 := Lib.hid HN2.out
      clear HN2
      have y1 : X1.cell? ⟨q, 1, none⟩ = some (.int .i64 r2) := cell_of_block (o := 1) HN1.out rfl
      have K := Lib.hid (put1_rs HY1.out (by simp only [List.length_append]; have := HLK.out; have := HPL0.out; omega) (x := r2) HB.out.b)
      have HPL1 := Lib.hid (putI_len HB.out.b)
      go_wp2_with fail
      refine K.out.mono ?_
      rintro e X2 ⟨⟨uu1, rfl⟩, hly, hst⟩
      have HY2 := Lib.hid hly
      clear y1 K hly
      have HN2 := Lib.hid ((hst.block _ _ _ HN1.out).trans HN1.out)
      clear HN1 hst
      have HN1 := Lib.hid HN2.out
      clear HN2
      have y2 : X2.cell? ⟨q, 2, none⟩ = some (.int .i64 r3) := cell_of_block (o := 2) HN1.out rfl
      have K := Lib.hid (put1_rs HY2.out (by simp only [List.length_append]; have := HLK.out; have := HPL0.out; have := HPL1.out; omega) (x := r3) HB.out.c)
      have HPL2 := Lib.hid (putI_len HB.out.c)
      go_wp2_with fail
      refine K.out.mono ?_
      rintro e X3 ⟨⟨uu2, rfl⟩, hly, hst⟩
      have HY3 := Lib.hid hly
      clear y2 K hly
      have HN2 := Lib.hid ((hst.block _ _ _ HN1.out).trans HN1.out)
      clear HN1 hst
      have HN1 := Lib.hid HN2.out
      clear HN2
      have y3 : X3.cell? ⟨q, 3, none⟩ = some (.int .i64 r4) := cell_of_block (o := 3) HN1.out rfl
      have K := Lib.hid (put1_rs HY3.out (by simp only [List.length_append]; have := HLK.out; have := HPL0.out; have := HPL1.out; have := HPL2.out; omega) (x := r4) HB.out.d)
      have HPL3 := Lib.hid (putI_len HB.out.d)
      go_wp2_with fail
      refine K.out.mono ?_
      rintro e X4 ⟨⟨uu3, rfl⟩, hly, hst⟩
      have HY4 := Lib.hid hly
      clear y3 K hly
      have HYE := Lib.hid (show LayR w w.heap.size (base ++ putRs (l.take (k + 1))) X4 from by
        rw [HT.out, ← List.append_assoc, ← HYS.out]
        have := HY4.out
        unfold putRv
        simpa only [List.append_assoc] using this)
      clear HY0 HY1 HY2 HY3 HY4
      go_wp2_with fail
      go_roundw
      case rel => exact ⟨k + 1, by omega, by go_num, HYE.out⟩
      case measure => simp [intOf]; omega
    · obtain rfl : k = l.length := by omega
      have hd : decide (l.length < l.length) = false := decide_eq_false (by omega)
      have hd2 : decide ((l.length : Int) < (l.length : Int)) = false := decide_eq_false (by omega)
      rw [List.take_length, HBE.out] at hly
      have HLYF := Lib.hid hly
      obtain ⟨v, h1, h2⟩ := hly.ex
      have b0 := cell_of_block (o := 0) h1 rfl
      obtain ⟨a5, c5, hv5, _⟩ := h2.shape
      generalize hn5 : (zs ++ bytesR l n).length = n5 at hv5
      clear hn5
      have HO := Lib.hid (h2.base (B' := w.heap.size) (by omega))
      clear h1 h2 hly
      subst hv5
      go_wp2_with fail
      go_ret
      exact ⟨_, rfl, HO.out, HLYF.out.fr⟩
end Go.Proofs.YtddoknkmmchkmaaDoor
namespace Go.Proofs.YtddoknkmmchkmaaDoor
set_option linter.unusedVariables false
open Go.ChangeShapes Go.WideShapes Go.ChangeAt Go.RowKit
attribute [local go_sem ↓] Go.wp_at_zero Go.wp_at_succ comesTo_value_eq comesTo_skip_eq comesTo_enter_eq

/-- the list's row is another one, laid since -/
theorem relay {w w0 W W' : World} {B F : Nat} {l l' : List RV} {n : Int} {v : Value} (h : Rs w B F l n) (hB : B ≤ F) (hb : Below w.heap.size w W) (ho : OwnR W w0.heap.size v l') (h0 : w.heap.size ≤ w0.heap.size) (hl : l'.length ≤ 8) {a : Option Addr} {m c : Nat} (hv : v = .slice a m c)
    {x : Value} (hF : W.heap[F]? = some (.cells #[x, .int .i64 n] 53 (0, 0))) (hw : WroteTo F 53 #[v, .int .i64 n] W W') : Rs W' B F l' n ∧ FrL F w W' := by
  have hlt := h.lt
  have hne : ∀ k, v.ownBlock = some k → k ≠ F := fun k hk e => by have := Ap.own_blk ho k hk; omega
  refine ⟨⟨⟨v, hw.there, (ho.keep fun k hk => hw.rest k (hne k hk)).base (by omega), fun e => hne F e rfl⟩, h.pos, hl⟩, ⟨hw.os.trans hb.os, hw.tape.trans hb.tape, hw.output.trans hb.output, by rw [hw.size]; exact hb.size, fun b hlb hn hr => ⟨(hw.rest b hn).trans (hb.block b hlb), ?_⟩⟩⟩
  rintro ⟨m', c', x', hx⟩
  rw [hw.there] at hx
  simp only [Option.some.injEq, Obj.cells.injEq, Array.mk.injEq, List.cons.injEq, and_true, true_and] at hx
  obtain ⟨rfl, _⟩ := hx
  have := Ap.own_blk ho b rfl
  omega
def dropL (l : List RV) (i : Int) : List RV := l.filter fun r => r.1 != i
def dropR (l : List RV) (i : Int) : Int × List RV := if (dropL l i).length = l.length then (13, l) else (0, dropL l i)
set_option maxRecDepth 100000 in
set_option maxHeartbeats 4000000 in
theorem drop_rs {w : World} {B F : Nat} {l : List RV} {n : Int} (h : Rs w B F l n) (hB : B ≤ F) (i : Int) :
    Calls Tryd.prog 18 #[.pointer (some ⟨F, 0, none⟩), .int .i64 i] w fun e w' => e = .returned (.int .i64 (dropR l i).1) ∧ Rs w' B F (dropR l i).2 n ∧ FrL F w w' := by
  have hlt := h.lt
  have hA := below_alloc (Below.refl _ w) (.cells #[.int .i64 i] 3)
  have HN := Lib.hid (World.alloc_heap_new w (.cells #[.int .i64 i] 3))
  have HA := Lib.hid hA
  have HRS := Lib.hid h
  have HR1 := Lib.hid (h.below hA)
  have HLF := Lib.hid (And.intro hlt hB)
  have HLEN := Lib.hid h.len
  have KT := Lib.hid (there_rs (h.below hA))
  obtain ⟨v, h1, h2, _⟩ := h.at_
  obtain ⟨ad, c, rfl⟩ := h2.form
  have HF := Lib.hid ((hA.block _ hlt).trans h1)
  clear hA h1 h2 hlt hB
  have KTH := Lib.hid (those_pure HR1.out 45 #[.pointer (some ⟨w.heap.size, 0, none⟩)] (fun r => r.1 != i) (enters_of Tryd.func45 (by kernel_rfl) rfl) (fun r X hX => drop1 ((hX.block _ (by simp)).trans HN.out) r))
  clear h
  obtain ⟨res, hres⟩ : ∃ r, r = dropR l i := ⟨_, rfl⟩
  rw [← hres]
  have HRES := Lib.hid hres
  clear hres
  obtain ⟨dc, dl⟩ := res
  dsimp only
  go_enter Tryd.func18, Tryd.ntmps18
  go_upto_region 1 with fail
  have HSZ := Lib.hid (show w.heap.size ≤ (w.alloc (.cells #[.int .i64 i] 3)).heap.size from HA.out.size)
  generalize w.alloc (.cells #[.int .i64 i] 3) = W1 at *
  go_wp2_with fail
  refine KT.out.mono ?_
  rintro e w1 ⟨rfl, rfl⟩
  go_wp2_with fail
  refine KTH.out.mono ?_
  rintro e W2 ⟨v2, rfl, ho, hb⟩
  have HB2 := Lib.hid (below_next HA.out hb)
  have HO := Lib.hid (show OwnR W2 W1.heap.size v2 (dropL l i) from ho)
  have hF2 := (hb.block _ (Array.getElem?_eq_some_iff.1 HF.out).1).trans HF.out
  have HF2 := Lib.hid hF2
  obtain ⟨a2, c2, hv2⟩ := HO.out.form
  have HV := Lib.hid hv2
  have c0 : W2.cell? ⟨F, 0, none⟩ = some (.slice ad l.length c) := cell_of_block (o := 0) hF2 rfl
  have f0 := free_of_block 0 hF2
  have HW := Lib.hid ((wrote_refl hF2).set 0 v2)
  have HDL := Lib.hid (show (dropL l i).length ≤ 8 from Nat.le_trans (List.length_filter_le _ _) HLEN.out)
  subst hv2
  clear ho hb hF2 KT KTH
  obtain ⟨m, hm⟩ : ∃ m, m = (dropL l i).length := ⟨_, rfl⟩
  rw [← hm] at HW ⊢
  by_cases he : m = l.length
  · have HE := Lib.hid (show (dc, dl) = (13, l) by rw [HRES.out]; unfold dropR; rw [if_pos (by rw [← hm]; exact he)])
    have d1 : ((m : Int) == (l.length : Int)) = true := by rw [beq_iff_eq]; omega
    have d2 : (m == l.length) = true := by rw [beq_iff_eq]; exact he
    clear he hm
    go_wp2_with fail
    go_ret
    have := HE.out
    injection this with e1 e2
    subst e1 e2
    exact ⟨rfl, HRS.out.below HB2.out, FrL.of_below HLF.out.1 HB2.out⟩
  · have HE := Lib.hid (show (dc, dl) = (0, dropL l i) by rw [HRES.out]; unfold dropR; rw [if_neg (by rw [← hm]; exact he)])
    have d1 : ((m : Int) == (l.length : Int)) = false := by rw [beq_eq_false_iff_ne]; omega
    have d2 : (m == l.length) = false := by rw [beq_eq_false_iff_ne]; exact he
    have HRE := Lib.hid (relay HRS.out HLF.out.2 HB2.out HO.out HSZ.out HDL.out (by rw [← hm]) HF2.out (by rw [← hm]; exact HW.out))
    have HM := Lib.hid hm
    clear he hm
    go_wp2_with fail
    go_ret
    have := HE.out
    injection this with e1 e2
    subst e1 e2
    exact ⟨rfl, HRE.out.1, HRE.out.2⟩
/-- an own row of numbers -/
def OwnZ (w : World) (B : Nat) (v : Value) (l : List Int) : Prop := w.ownsRow B 3 1 v l.length (l.map (Value.int .i64))
theorem info_intZ : (Tryd.prog.info? 3).map (fun i => (i.zero, i.size, i.bytes)) = some (some (.int .i64 0), 1, 8) := by kernel_rfl
theorem eltZ : Ap.Elt Tryd.prog 47 3 1 8 :=
  ⟨Tryd.underlying47, by obtain ⟨i, h1, h2, h3, h4⟩ := info_parts3 info_intZ; exact ⟨i, _, h1, h2, h3, h4, rfl⟩, by decide⟩
theorem OwnZ.nil {w : World} {B : Nat} : OwnZ w B (.slice none 0 0) [] := ⟨rfl, .inl ⟨rfl, rfl⟩⟩
theorem OwnZ.form {w : World} {B : Nat} {v : Value} {l : List Int} (h : OwnZ w B v l) : ∃ a c, v = .slice a l.length c := by
  rcases h.2 with ⟨rfl, h1⟩ | ⟨g, cap, cur, hv, _⟩
  · exact ⟨none, 0, by rw [h1]⟩
  · exact ⟨_, _, hv⟩
theorem OwnZ.own {w : World} {B : Nat} {v : Value} {l : List Int} (h : OwnZ w B v l) {g : Nat} (hg : v.ownBlock = some g) : ∃ cs, w.heap[g]? = some (.cells cs 3 (0, 0)) := by
  rcases h.2 with ⟨rfl, _⟩ | ⟨g', cap, cur, rfl, _, hh, _⟩
  · cases hg
  · simp only [Value.ownBlock, Option.some.injEq] at hg
    subst hg
    exact ⟨_, hh⟩
/-- where Past stands: its time, what is gone so far -/
structure PastAt (w : World) (now : Int) (ids : List Int) (W : World) : Prop where
  z : W.heap[w.heap.size]? = some (.cells #[.int .i64 now] 36 (0, 0))
  g : ∃ v, W.heap[w.heap.size + 1]? = some (.cells #[v] 47 (0, 0)) ∧ OwnZ W (w.heap.size + 2) v ids
  bel : Below w.heap.size w W
theorem PastAt.same {w W W' : World} {now : Int} {ids : List Int} (h : PastAt w now ids W) (hs : W.heap.size ≤ W'.heap.size) (h1 : W'.os = W.os ∧ W'.tape = W.tape ∧ W'.output = W.output) (hb : ∀ j, j < W.heap.size → j < w.heap.size + 2 ∨ (∃ cs, W.heap[j]? = some (.cells cs 3 (0, 0))) → W'.heap[j]? = W.heap[j]?) : PastAt w now ids W' := by
  obtain ⟨v, g1, g2⟩ := h.g
  have hl := (Array.getElem?_eq_some_iff.1 g1).1
  refine ⟨(hb _ (by omega) (.inl (by omega))).trans h.z, ⟨v, (hb _ hl (.inl (by omega))).trans g1, Ap.own_keep g2 fun k hk => hb k (Ap.own_lt g2 k hk) (.inr (g2.own hk))⟩, ⟨h1.1.trans h.bel.os, h1.2.1.trans h.bel.tape, h1.2.2.trans h.bel.output, Nat.le_trans h.bel.size hs, fun j hj => (hb j (by omega) (.inl (by omega))).trans (h.bel.block j hj)⟩⟩
theorem PastAt.kp {w W W' : World} {now : Int} {ids : List Int} {B0 : Nat} (h : PastAt w now ids W) (hk : KpR B0 W W') (hB : w.heap.size + 2 ≤ B0) : PastAt w now ids W' :=
  h.same hk.size ⟨hk.os, hk.tape, hk.output⟩ fun j hj hor => by
    rcases hk.block j hj with h1 | ⟨h1, cs, m, h2⟩
    · exact h1
    · rcases hor with h3 | ⟨cs', h3⟩
      · omega
      · rw [h3] at h2
        simp only [Option.some.injEq, Obj.cells.injEq] at h2
        exact absurd h2.2.1 (by decide)
theorem PastAt.below {w W W' : World} {now : Int} {ids : List Int} (h : PastAt w now ids W) (hb : Below W.heap.size W W') : PastAt w now ids W' := h.same hb.size ⟨hb.os, hb.tape, hb.output⟩ fun j hj _ => hb.block j hj
def goneR (now : Int) (l : List RV) : List Int := (l.filter fun r => decide (r.2.2.1 ≤ now)).map (·.1)
theorem goneR_take (now : Int) (l : List RV) {k : Nat} (hk : k < l.length) : goneR now (l.take (k + 1)) = goneR now (l.take k) ++ (if (l.getD k zR).2.2.1 ≤ now then [(l.getD k zR).1] else []) := by
  unfold goneR
  rw [List.take_succ_eq_append_getElem hk, List.filter_append, List.map_append, show l.getD k zR = l[k] by simp [List.getD, List.getElem?_eq_getElem hk]]
  congr 1
  by_cases h : l[k].2.2.1 ≤ now
  · simp [h]
  · simp [h]
set_option maxRecDepth 100000 in
set_option maxHeartbeats 4000000 in
theorem past1 {w W : World} {now : Int} {ids : List Int} (h : PastAt w now ids W) (hl : ids.length ≤ 8) (r : RV) :
    Calls Tryd.prog 42 #[.agg #[.int .i64 r.1, .int .i64 r.2.1, .int .i64 r.2.2.1, .int .i64 r.2.2.2], .pointer (some ⟨w.heap.size, 0, none⟩), .pointer (some ⟨w.heap.size + 1, 0, none⟩)] W fun e w' => e = .returned (.bool (decide (now < r.2.2.1))) ∧ PastAt w now (ids ++ (if r.2.2.1 ≤ now then [r.1] else [])) w' ∧ StR W w' := by
  obtain ⟨r1, r2, r3, r4⟩ := r
  dsimp only
  have hb := below_alloc (Below.refl _ W) (.cells #[.int .i64 r1, .int .i64 r2, .int .i64 r3, .int .i64 r4] 64)
  have hN := Lib.hid (World.alloc_heap_new W (.cells #[.int .i64 r1, .int .i64 r2, .int .i64 r3, .int .i64 r4] 64))
  have HP := Lib.hid (h.below hb)
  have HST := Lib.hid (StR.of_below hb)
  have HL := Lib.hid hl
  have HLT := Lib.hid (show w.heap.size + 1 < W.heap.size from by obtain ⟨_, g1, _⟩ := h.g; exact (Array.getElem?_eq_some_iff.1 g1).1)
  obtain ⟨rb, hrb⟩ : ∃ b, b = decide (now < r3) := ⟨_, rfl⟩
  obtain ⟨ri, hri⟩ : ∃ x, x = ids ++ (if r3 ≤ now then [r1] else []) := ⟨_, rfl⟩
  rw [← hrb, ← hri]
  have HRB := Lib.hid hrb
  have HRI := Lib.hid hri
  clear h hb hl hrb hri
  go_enter Tryd.func42, Tryd.ntmps42
  go_upto_region 1 with fail
  generalize W.alloc (.cells #[.int .i64 r1, .int .i64 r2, .int .i64 r3, .int .i64 r4] 64) = W1 at *
  have hqne := HLT.out
  generalize W.heap.size = q at *
  have y0 : W1.cell? ⟨q, 0, none⟩ = some (.int .i64 r1) := cell_of_block (o := 0) hN.out rfl
  have y2 : W1.cell? ⟨q, 2, none⟩ = some (.int .i64 r3) := cell_of_block (o := 2) hN.out rfl
  have z0 : W1.cell? ⟨w.heap.size, 0, none⟩ = some (.int .i64 now) := cell_of_block (o := 0) HP.out.z rfl
  by_cases ht : r3 ≤ now
  · have d1 : decide (r3 ≤ now) = true := decide_eq_true ht
    have d2 : decide (r3 > now) = false := decide_eq_false (by omega)
    have d3 : decide (now < r3) = false := decide_eq_false (by omega)
    have HIF := Lib.hid (show ri = ids ++ [r1] ∧ rb = false from ⟨by rw [HRI.out, if_pos ht], by rw [HRB.out]; exact d3⟩)
    obtain ⟨v, g1, g2⟩ := HP.out.g
    obtain ⟨a, c, hv⟩ := g2.form
    subst hv
    have HG1 := Lib.hid g1
    have HG2 := Lib.hid g2
    clear ht
    go_upto_region 2 with fail
    have x0 : W1.cell? ⟨w.heap.size + 1, 0, none⟩ = some (.slice a ids.length c) := cell_of_block (o := 0) g1 rfl
    clear g1 g2
    refine wp_region_lit ?_
    refine wpList_yield (w' := W1) (v := .slice a ids.length c) rfl (by go_simp) ?_
    refine wpList_yield (w' := W1) (v := .pointer (some ⟨q, 0, none⟩)) rfl (by go_simp) ?_
    refine wpList_yield (w' := W1) (v := .int .i64 r1) rfl (by go_simp) ?_
    refine wpList_yield (w' := W1.alloc (.cells #[.int .i64 r1] 3)) (v := .slice (some ⟨W1.heap.size, 0, none⟩) 1 1) rfl (by go_simp) ?_
    obtain ⟨v4, w4, e0, e1, e2, e3, e4, e5⟩ := Ao.app_one eltZ 47 HG2.out [.int .i64 r1] rfl (by intro u hu; simp at hu; subst hu; rfl) (by have := HL.out; omega) (by decide) (show w.heap.size + 2 ≤ W1.heap.size from by have := (Array.getElem?_eq_some_iff.1 HG1.out).1; omega)
    have ho4 : OwnZ w4 (w.heap.size + 2) v4 (ids ++ [r1]) := by
      unfold OwnZ
      rw [List.length_append, List.map_append]
      exact e1
    obtain ⟨a4, c4, hf4⟩ := ho4.form
    have hf5 : v4 = .slice a4 (ids.length + 1) c4 := by rw [hf4, List.length_append]; rfl
    subst hf5
    refine wpList_yield (w' := w4) (v := .slice a4 (ids.length + 1) c4) rfl (Ap.exec_app rfl (by go_simp) (by go_simp) e0) ?_
    have hne : (Value.slice a ids.length c).ownBlock ≠ some (w.heap.size + 1) := fun e => by have := Ap.own_blk HG2.out _ e; omega
    have hg4 := (e2 _ (Array.getElem?_eq_some_iff.1 HG1.out).1 hne).trans HG1.out
    have hw := (wrote_refl hg4).set 0 (.slice a4 (ids.length + 1) c4)
    have hsame : ∀ j, j < W1.heap.size → j ≠ w.heap.size + 1 → (Value.slice a ids.length c).ownBlock ≠ some j → (w4.setCell ⟨w.heap.size + 1, 0, none⟩ (.slice a4 (ids.length + 1) c4)).heap[j]? = W1.heap[j]? := fun j j1 j2 j3 => (hw.rest j j2).trans (e2 j j1 j3)
    have HP5 := Lib.hid (show PastAt w now (ids ++ [r1]) (w4.setCell ⟨w.heap.size + 1, 0, none⟩ (.slice a4 (ids.length + 1) c4)) from
      ⟨(hsame _ (Array.getElem?_eq_some_iff.1 HP.out.z).1 (by omega) (fun e => by have := Ap.own_blk HG2.out _ e; omega)).trans HP.out.z, ⟨_, hw.there, Ap.own_keep ho4 fun k hk => hw.rest k (by have := Ap.own_blk ho4 k hk; omega)⟩, hw.below (HP.out.bel.trans (e5.mono (by omega))) (by omega)⟩)
    have HST5 := Lib.hid (show StR W (w4.setCell ⟨w.heap.size + 1, 0, none⟩ (.slice a4 (ids.length + 1) c4)) from HST.out.trans ⟨by rw [hw.size]; exact e3, fun j cs m hj => hsame j (Array.getElem?_eq_some_iff.1 hj).1 (fun e => by
        subst e
        rw [HG1.out] at hj
        simp only [Option.some.injEq, Obj.cells.injEq] at hj
        exact absurd hj.2.1 (by decide)) (fun e => by
        obtain ⟨cs', h5⟩ := HG2.out.own e
        rw [h5] at hj
        simp only [Option.some.injEq, Obj.cells.injEq] at hj
        exact absurd hj.2.1 (by decide))⟩)
    have hN5 := (HST5.out.block q #[.int .i64 r1, .int .i64 r2, .int .i64 r3, .int .i64 r4] (0, 0))
    have x4 := cell_of_block (o := 0) hg4 rfl
    have f4 := free_of_block 0 hg4
    have hq5 : (w4.setCell ⟨w.heap.size + 1, 0, none⟩ (.slice a4 (ids.length + 1) c4)).heap[q]? = some (.cells #[.int .i64 r1, .int .i64 r2, .int .i64 r3, .int .i64 r4] 64 (0, 0)) := by
      refine (hsame q (Array.getElem?_eq_some_iff.1 hN.out).1 (by omega) (fun e => ?_)).trans hN.out
      obtain ⟨cs', h5⟩ := HG2.out.own e
      rw [hN.out] at h5
      simp only [Option.some.injEq, Obj.cells.injEq] at h5
      exact absurd h5.2.1 (by decide)
    have HQ5 := Lib.hid hq5
    clear e0 e1 e2 e3 e4 e5 ho4 hg4 hw hsame hN5 y0 y2 z0 x0 hq5 hf4 hne
    go_upto_region 3 with fail
    clear x4 f4
    generalize w4.setCell ⟨w.heap.size + 1, 0, none⟩ (.slice a4 (ids.length + 1) c4) = W5 at *
    have y2 : W5.cell? ⟨q, 2, none⟩ = some (.int .i64 r3) := cell_of_block (o := 2) HQ5.out rfl
    have z0 : W5.cell? ⟨w.heap.size, 0, none⟩ = some (.int .i64 now) := cell_of_block (o := 0) HP5.out.z rfl
    go_wp2_with fail
    go_ret
    exact ⟨by rw [HIF.out.2]; rfl, by rw [HIF.out.1]; exact HP5.out, HST5.out⟩
  · have d1 : decide (r3 ≤ now) = false := decide_eq_false ht
    have d2 : decide (r3 > now) = true := decide_eq_true (by omega)
    have d3 : decide (now < r3) = true := decide_eq_true (by omega)
    have HIF := Lib.hid (show ri = ids ∧ rb = true from ⟨by rw [HRI.out, if_neg ht, List.append_nil], by rw [HRB.out]; exact d3⟩)
    clear ht
    go_wp2_with fail
    go_ret
    exact ⟨by rw [HIF.out.2]; rfl, by rw [HIF.out.1]; exact HP.out, HST.out⟩
def pastL (now : Int) (l : List RV) : List RV := l.filter fun r => decide (now < r.2.2.1)
set_option maxRecDepth 100000 in
set_option maxHeartbeats 4000000 in
theorem past_rs {w : World} {B F : Nat} {l : List RV} {n : Int} (h : Rs w B F l n) (hB : B ≤ F) (now : Int) :
    Calls Tryd.prog 14 #[.pointer (some ⟨F, 0, none⟩), .int .i64 now] w fun e w' => ∃ v, e = .returned v ∧ OwnZ w' w.heap.size v (goneR now l) ∧ Rs w' B F (pastL now l) n ∧ FrL F w w' := by
  have hlt := h.lt
  have b1 := below_alloc (Below.refl _ w) (.cells #[.int .i64 now] 36)
  have b2 := below_alloc (Below.refl _ (w.alloc (.cells #[.int .i64 now] 36))) (.cells #[.slice none 0 0] 47)
  have n1 := World.alloc_heap_new w (.cells #[.int .i64 now] 36)
  have n2 := World.alloc_heap_new (w.alloc (.cells #[.int .i64 now] 36)) (.cells #[.slice none 0 0] 47)
  rw [World.size_alloc] at n2
  have KT := Lib.hid (there_rs (h.below b1))
  have HPA := Lib.hid (show PastAt w now (goneR now (l.take 0)) ((w.alloc (.cells #[.int .i64 now] 36)).alloc (.cells #[.slice none 0 0] 47)) from
    ⟨(b2.block _ (by simp)).trans n1, ⟨_, n2, OwnZ.nil⟩, below_next b1 b2⟩)
  have HRS := Lib.hid h
  have HR2 := Lib.hid ((h.below b1).below b2)
  have HLF := Lib.hid (And.intro hlt hB)
  have HLEN := Lib.hid h.len
  obtain ⟨v, h1, h2, _⟩ := h.at_
  have HF := Lib.hid ((b2.block _ (Nat.lt_of_lt_of_le hlt b1.size)).trans ((b1.block _ hlt).trans h1))
  have HV := Lib.hid (fun X (hX : Below w.heap.size w X) => h2.rd.below hX)
  have HSZ := Lib.hid (show ((w.alloc (.cells #[.int .i64 now] 36)).alloc (.cells #[.slice none 0 0] 47)).heap.size = w.heap.size + 2 from by simp)
  clear b1 b2 n1 n2 h1 h2 hlt hB h
  go_enter Tryd.func14, Tryd.ntmps14
  go_wp2_with fail
  refine KT.out.mono ?_
  rintro e w1 ⟨rfl, rfl⟩
  go_upto_region 4 with fail
  generalize (w.alloc (.cells #[.int .i64 now] 36)).alloc (.cells #[.slice none 0 0] 47) = W2 at *
  have KTH := Lib.hid (those_any HR2.out 42 #[.pointer (some ⟨w.heap.size, 0, none⟩), .pointer (some ⟨w.heap.size + 1, 0, none⟩)] (fun r => decide (now < r.2.2.1)) (fun k W => PastAt w now (goneR now (l.take k)) W)
    (enters_of Tryd.func42 (by kernel_rfl) rfl) HPA.out
    (fun k W v' hi _ hF' _ => by
      rw [HF.out] at hF'
      simp only [Option.some.injEq, Obj.cells.injEq, Array.mk.injEq, List.cons.injEq, and_true, true_and] at hF'
      subst hF'
      exact HV.out W hi.bel)
    (fun k W W' hi hk => hi.kp hk (by rw [HSZ.out]; exact Nat.le_refl _))
    (fun k W hk hi => (past1 hi (by
        unfold goneR
        rw [List.length_map]
        refine Nat.le_trans (List.length_filter_le _ _) ?_
        rw [List.length_take]
        have := HLEN.out
        omega) (l.getD k zR)).mono (fun e w' ⟨h1, h2, h3⟩ => ⟨h1, by rw [goneR_take now l hk]; exact h2, h3⟩)))
  go_wp2_with fail
  refine KTH.out.mono ?_
  rintro e W3 ⟨v2, rfl, ho, hpa, _⟩
  rw [List.take_length] at hpa
  have HPA3 := Lib.hid hpa
  have hF3 := (hpa.bel.block F HLF.out.1).trans (show w.heap[F]? = some (.cells #[v, .int .i64 n] 53 (0, 0)) from by
    obtain ⟨v', u1, _, _⟩ := HRS.out.at_
    have u2 := (HPA.out.bel.block F HLF.out.1).trans u1
    rw [HF.out] at u2
    rw [u1]
    exact u2.symm)
  obtain ⟨a2, c2, hv2⟩ := ho.form
  have HW := Lib.hid ((wrote_refl hF3).set 0 v2)
  have HRE := Lib.hid (relay HRS.out HLF.out.2 hpa.bel ho (by rw [HSZ.out]; omega) (Nat.le_trans (List.length_filter_le _ _) HLEN.out) hv2 hF3 HW.out)
  have c0 : W3.cell? ⟨F, 0, none⟩ = some v := cell_of_block (o := 0) hF3 rfl
  have f0 := free_of_block 0 hF3
  have HG := Lib.hid (show ∃ vg, (W3.setCell ⟨F, 0, none⟩ v2).heap[w.heap.size + 1]? = some (.cells #[vg] 47 (0, 0)) ∧ OwnZ (W3.setCell ⟨F, 0, none⟩ v2) (w.heap.size + 2) vg (goneR now l) from by
    obtain ⟨vg, g1, g2⟩ := hpa.g
    have hF := HLF.out.1
    exact ⟨vg, (HW.out.rest _ (by omega)).trans g1, Ap.own_keep g2 fun k hk => HW.out.rest k (by have := Ap.own_blk g2 k hk; omega)⟩)
  subst hv2
  have HBS := Lib.hid (show w.heap.size + 2 ≤ (W3.setCell ⟨F, 0, none⟩ (.slice a2 (l.filter fun r => decide (now < r.2.2.1)).length c2)).heap.size from by
    rw [HW.out.size]
    have := (Array.getElem?_eq_some_iff.1 hpa.z).1
    obtain ⟨_, g1, _⟩ := hpa.g
    exact (Array.getElem?_eq_some_iff.1 g1).1)
  clear hpa hF3 ho HW KTH
  generalize (l.filter fun r => decide (now < r.2.2.1)).length = m at *
  go_upto_region 5 with fail
  clear c0 f0
  generalize W3.setCell ⟨F, 0, none⟩ (.slice a2 m c2) = W4 at *
  obtain ⟨vg, g1, g2⟩ := HG.out
  obtain ⟨ag, cg, hvg⟩ := g2.form
  have HO := Lib.hid (show OwnZ W4 w.heap.size vg (goneR now l) from by
    refine ⟨g2.1, ?_⟩
    rcases g2.2 with hn | ⟨g, cap, cur, hv, h1, rest⟩
    · exact .inl hn
    · exact .inr ⟨g, cap, cur, hv, by omega, rest⟩)
  have x0 : W4.cell? ⟨w.heap.size + 1, 0, none⟩ = some vg := cell_of_block (o := 0) g1 rfl
  subst hvg
  clear g1 g2
  go_wp2_with fail
  go_ret
  exact ⟨_, rfl, HO.out, HRE.out.1, HRE.out.2⟩
end Go.Proofs.YtddoknkmmchkmaaDoor
