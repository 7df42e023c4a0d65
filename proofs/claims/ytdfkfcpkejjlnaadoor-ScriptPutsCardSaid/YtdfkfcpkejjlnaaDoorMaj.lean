/- Laws that belong together: Steps read at any bytes (Read, layer 28). Condition: the errors' table.; The document's Read at any bytes (layer 28). Condition: the length's bound. -/
import Derived.Test.YtdfkfcpkejjlnaaDoorMai
import Derived.Test.YtdfkfcpkejjlnaaDoorMah
import Derived.Test.YtdfkfcpkejjlnaaDoorMab
import Derived.WalkMore
import Derived.Deep.DeepCutAuto
import Derived.Deep.CutBlock
import Derived.Scope
import Derived.Test.YtdfkfcpkejjlnaaDoorMCodRefE
import Derived.Laws.Strings
namespace Go.Proofs.YtdfkfcpkejjlnaaDoor
set_option linter.unusedVariables false
open Go.ChangeShapes Go.WideShapes Go.ChangeAt Go.RowKit Cs Rv
attribute [local go_sem ↓] Go.wp_at_zero Go.wp_at_succ comesTo_value_eq comesTo_skip_eq comesTo_enter_eq

theorem WL_store_part {P : Program} {ops : Array Oper} {rest : List Oper} {op : Oper} {a : Act} {w : World} {Q : Exit → Act → World → Prop} (hgd : op.guard = none) (ty : TypeId) (x y : Operand) (ho : op.op = .store ty x y) (b o : Nat) {T : TypeId} {cs : Array Value} (l : List Value)
    (hx : a.eval x = .pointer (some ⟨b, o, none⟩)) (hy : a.eval y = .agg l.toArray) (hb : w.heap[b]? = some (.cells cs T (0, 0))) (hl : o + l.length ≤ cs.size) (hi : (P.info? ty).map (·.size) = some l.length) (h1 : l.all (·.oneCell') = true)
    (h : ∀ w', WroteTo b T (setAll cs o l) w w' → WL P ops Q rest (a.put op.dst undef) w') : WL P ops Q (op :: rest) a w := ⟨wpList_store_part hgd ty x y ho b o l hx hy hb hl hi h1 (fun w' hw => (h w' hw).out)⟩
def lenV : Value → Nat | .slice _ n _ => n | _ => 0
/-- what Read comes to -/
def SReadEnd (w : World) (bs : List Int) (e : Ending) (w' : World) : Prop :=
  ∃ lv, e = .returned (.tuple #[lv, .int .i64 (readS bs).2]) ∧ OwnV 29 19 w' w.heap.size lv ((readS bs).1.map sC) ∧ Below w.heap.size w w'
theorem TxtAt.len_form {w : World} {v : Value} {xs : List Int} (h : TxtAt w v xs) : ∃ ad c, v = .slice ad xs.length c := by
  rcases h with ⟨b, o, cap, h1, _⟩ | ⟨rfl, a, cap, h1, _⟩
  · exact ⟨_, _, h1⟩
  · exact ⟨_, _, h1⟩
theorem info_stepW : (Tryd.prog.info? 29).map (fun i => (i.zero, i.size, i.bytes)) = some (some (.agg #[.int .i64 0, .int .i64 0, .int .i64 0, .int .i64 0, .int .i64 0, .int .i64 0, .int .i64 0, .int .i64 0, .int .i64 0, .int .i64 0, .int .i64 0, .int .i64 0, .bool false, .string ⟨#[]⟩, .int .i64 0, .int .i64 0, .int .i64 0, .int .i64 0, .int .i64 0]), 19, 160) := by kernel_rfl
theorem zs_size : (Value.agg #[.int .i64 0, .int .i64 0, .int .i64 0, .int .i64 0, .int .i64 0, .int .i64 0, .int .i64 0, .int .i64 0, .int .i64 0, .int .i64 0, .int .i64 0, .int .i64 0, .bool false, .string ⟨#[]⟩, .int .i64 0, .int .i64 0, .int .i64 0, .int .i64 0, .int .i64 0]).cells.size = 19 := by kernel_rfl
theorem eltS_info : ∃ (i : TypeInfo) (z : Value), Tryd.prog.info? 29 = some i ∧ i.zero = some z ∧ i.size = 19 ∧ i.bytes = 160 ∧ z.cells.size = 19 := by
  obtain ⟨i, h1, h2, h3, h4⟩ := info_partsV info_stepW
  exact ⟨i, _, h1, h2, h3, h4, zs_size⟩
theorem eltS : Ap.Elt Tryd.prog 22 29 19 160 where
  ul := Tryd.underlying22
  info := eltS_info
  pos := Nat.succ_pos _
theorem sC_form (y : List Int) (k : Int) : sC ⟨k, y, eS, 0, z4⟩ = .int .i64 k :: (cmdC y ++ [.string eS, .int .i64 0, .int .i64 0, .int .i64 0, .int .i64 0, .int .i64 0]) := by simp [sC, z4]
theorem sC_set0 {y : List Int} (h : y.length = 12) : setAll (sC ⟨0, z12, eS, 0, z4⟩).toArray 1 (cmdC y) = (sC ⟨0, y, eS, 0, z4⟩).toArray := by
  have hy := cmdC_len h
  have hz := cmdC_len (xs := z12) rfl
  rw [sC_form, sC_form]
  generalize cmdC y = m at *
  generalize cmdC z12 = z at *
  apply Array.ext_getElem?
  intro i
  rw [setAll_get]
  rcases i with _ | i
  · simp
  · by_cases hi : i < 12
    · rw [if_pos (by simp; omega)]
      simp only [List.getElem?_toArray, List.getElem?_cons_succ]
      rw [List.getElem?_append_left (by omega), show i + 1 - 1 = i by omega]
    · rw [if_neg (by simp; omega)]
      simp only [List.getElem?_toArray, List.getElem?_cons_succ]
      rw [List.getElem?_append_right (by omega), List.getElem?_append_right (by omega), hy, hz]
theorem readA4 {s sa sb sc sd : CS} {a b c d : Int} (e1 : intF s = (sa, a)) (e2 : intF sa = (sb, b)) (e3 : intF sb = (sc, c)) (e4 : intF sc = (sd, d)) : readA 4 s = (sd, [a, b, c, d]) := by
  simp only [readA, e1, e2, e3, e4]
set_option maxRecDepth 100000 in
set_option maxHeartbeats 2000000 in
theorem sread_big {w : World} {v : Value} {bs : List Int} (h : TxtAt w v bs) (hl : 65536 < bs.length) (hl2 : bs.length ≤ 1099511627775) : Calls Tryd.prog 14 #[v] w fun e w' => SReadEnd w bs e w' := by
  obtain ⟨ad, c, rfl⟩ := h.len_form
  have HE := Lib.hid (show ∀ e w', e = .returned (.tuple #[.slice none 0 0, .int .i64 3]) → w' = w → SReadEnd w bs e w' from fun e w' he hw => ⟨.slice none 0 0, by rw [readS_big' hl]; exact he, by rw [readS_big' hl]; exact OwnV.nil, by rw [hw]; exact Below.refl _ _⟩)
  obtain ⟨n, hn⟩ : ∃ n, n = bs.length := ⟨_, rfl⟩
  rw [← hn] at hl ⊢
  have d1 : decide ((n : Int) > 65536) = true := decide_eq_true (by omega)
  have d2 : decide ((65536 : Int) < (n : Int)) = true := decide_eq_true (by omega)
  clear h hn hl hl2
  generalize SReadEnd w bs = PE at *
  go_enter Tryd.func14, Tryd.ntmps14
  go_wp2_with fail
  go_step3
  go_wp2_with fail
  try go_ret2
  exact HE.out _ _ rfl rfl
set_option maxRecDepth 100000 in
set_option maxHeartbeats 8000000 in
theorem sread_some {w : World} {v : Value} {bs : List Int} (h : TxtAt w v bs) (hby : ∀ x ∈ bs, 0 ≤ x ∧ x ≤ 255) (hl : bs.length ≤ 65536) (hE : ErrAt w) : Calls Tryd.prog 14 #[v] w fun e w' => SReadEnd w bs e w' := by
  obtain ⟨ad, c, rfl⟩ := h.len_form
  have KR := Lib.hid (read_cur h (by omega))
  have HE := Lib.hid (fun X (hX : Below w.heap.size w X) => hE.below hX)
  have HEND := Lib.hid (show ∀ (B : Nat) (lv : Value) (L : List SV) (e : Ending) (w' : World) (code : Int), readS bs = (L, code) → w.heap.size ≤ B → e = .returned (.tuple #[lv, .int .i64 code]) → OwnV 29 19 w' B lv (L.map sC) → Below w.heap.size w w' → SReadEnd w bs e w' from fun B lv L e w' code hr hB he ho hb => ⟨lv, by rw [hr]; exact he, by rw [hr]; exact ho.lower hB, hb⟩)
  obtain ⟨n0, hn0⟩ : ∃ n, n = bs.length := ⟨_, rfl⟩
  have HN0 := Lib.hid hn0
  rw [← hn0] at hl KR ⊢
  have HL := Lib.hid hl
  have d1 : decide ((n0 : Int) > 65536) = false := decide_eq_false (by omega)
  have d2 : decide ((65536 : Int) < (n0 : Int)) = false := decide_eq_false (by omega)
  have HR0 := Lib.hid (show readS bs = rdS (bs.length + 1) ⟨bs, 0⟩ [] from by unfold readS; rw [if_neg (by omega)])
  have HBY := Lib.hid hby
  clear h hn0 hl hE hby
  generalize SReadEnd w bs = PE at *
  go_enter Tryd.func14, Tryd.ntmps14
  go_wp2_with fail
  go_step3
  go_wp2_with fail
  refine KR.out.mono ?_
  rintro e w1 ⟨C, rfl, hc, hb⟩
  have hct := hc.tight
  have HC1 := Lib.hid hct
  have HB1 := Lib.hid hb
  have HCL := Lib.hid (show w.heap.size ≤ C ∧ C < w1.heap.size from hct.mem)
  clear hc hb hct KR d1 d2
  go_wp2_with fail
  go_step3
  go_wp2_with fail
  go_loopw [4, 5] (fun lv bv wr => ∃ (st : CS) (L : List SV) (n : Nat) (la : Option Addr) (lc : Nat), lv = .slice la L.length lc ∧ bv = .int .i64 0 ∧ st.bad = 0 ∧ By st ∧ Cur wr C (fun j => w.heap.size ≤ j ∧ j < w1.heap.size) st ∧ OwnV 29 19 wr w1.heap.size (.slice la L.length lc) (L.map sC) ∧ w1.heap.size ≤ wr.heap.size ∧ Below w.heap.size w wr ∧ L.length + st.xs.length ≤ 65536 ∧ st.xs.length < n ∧ readS bs = rdS n st L) (fun lv _ _ => 65536 - lenV lv)
  case atStart => exact ⟨⟨bs, 0⟩, [], bs.length + 1, _, _, rfl, rfl, rfl, HBY.out, HC1.out, OwnV.nil, Nat.le_refl _, HB1.out, by have := HL.out; have := HN0.out; simp; omega, Nat.lt_succ_self _, HR0.out⟩
  case round =>
    obtain ⟨st, L, n, la, lc, rfl, rfl, hb0, hby, hc, ho, hs, hb, hlen, hn, hr⟩ := hrel
    have HBY1 := Lib.hid hby
    have HC := Lib.hid hc
    have HO := Lib.hid ho
    have HS := Lib.hid hs
    have HB := Lib.hid hb
    have HLEN := Lib.hid hlen
    have HN := Lib.hid hn
    have HR := Lib.hid hr
    have HB0 := Lib.hid hb0
    clear hby hc ho hs hb hlen hn hr hb0 HC1 HB1 HR0
    obtain ⟨m, hm⟩ : ∃ m, m = st.xs.length := ⟨_, rfl⟩
    have HM := Lib.hid hm
    have KX := Lib.hid (rest_cur HC.out)
    rw [← hm] at KX
    clear hm
    by_cases hx : st.xs = []
    · have d1 : decide ((m : Int) > 0) = false := decide_eq_false (by rw [HM.out, hx]; simp)
      have d2 : decide ((0 : Int) < (m : Int)) = false := decide_eq_false (by rw [HM.out, hx]; simp)
      have d3 : decide (0 < m) = false := decide_eq_false (by rw [HM.out, hx]; simp)
      have HQ := Lib.hid (show readS bs = (L, 0) from by obtain ⟨n', rfl⟩ : ∃ n', n = n' + 1 := ⟨n - 1, by have := HN.out; omega⟩; rw [HR.out, rdS_end hx])
      have hBw : w.heap.size ≤ w1.heap.size := Nat.le_of_lt (Nat.lt_of_le_of_lt HCL.out.1 HCL.out.2)
      have HFIN := Lib.hid (HEND.out w1.heap.size _ L (.returned (.tuple #[.slice la L.length lc, .int .i64 0])) wr 0 HQ.out hBw rfl HO.out HB.out)
      clear hx hBw HEND
      go_wp2_with fail
      refine KX.out.mono ?_
      rintro e w' ⟨rfl, hw⟩
      obtain rfl := hw
      go_wp2_with fail
      try go_ret2
      exact HFIN.out
    · have d1 : decide ((m : Int) > 0) = true := decide_eq_true (by have := List.length_pos_iff.2 hx; rw [HM.out]; omega)
      have d2 : decide ((0 : Int) < (m : Int)) = true := decide_eq_true (by have := List.length_pos_iff.2 hx; rw [HM.out]; omega)
      have d3 : decide (0 < m) = true := decide_eq_true (by have := List.length_pos_iff.2 hx; rw [HM.out]; omega)
      obtain ⟨q, rfl⟩ : ∃ n', n = n' + 1 := ⟨n - 1, by have := HN.out; omega⟩
      obtain ⟨s1, k, e1⟩ : ∃ s v, smallF st 5 = (s, v) := ⟨_, _, rfl⟩
      have hk := smallF_in (st := st) (most := 5) (by decide)
      rw [e1] at hk
      dsimp only at hk
      have HST := Lib.hid (show stepF st = if k = 0 then (if readB (textF s1).2 = true then stepV (textF s1).1 ⟨0, gotC (textF s1).2, eS, 0, z4⟩ else none) else if k = 1 then stepV (textF s1).1 ⟨1, z12, strOfNums (textF s1).2, 0, z4⟩ else if k = 2 then stepV (intF s1).1 ⟨2, z12, eS, (intF s1).2, z4⟩ else if k = 3 then stepV (readA 4 s1).1 ⟨3, z12, eS, 0, (readA 4 s1).2⟩ else stepV s1 ⟨k, z12, eS, 0, z4⟩ from by unfold stepF; rw [e1])
      have HLT := Lib.hid (show ∀ s' u, stepF st = some (s', u) → s'.bad = 0 ∧ By s' ∧ s'.xs.length < st.xs.length from fun s' u h => stepF_lt HBY1.out h)
      have HBS := Lib.hid (show By s1 from by have := smallF_by HBY1.out 5; rw [e1] at this; exact this)
      have HR1 := Lib.hid (show readS bs = contS q L (stepF st) from by rw [HR.out, rdS_step hx])
      have KS := Lib.hid (small_cur HC.out 5)
      rw [e1] at KS
      have hBw : w.heap.size ≤ w1.heap.size := Nat.le_of_lt (Nat.lt_of_le_of_lt HCL.out.1 HCL.out.2)
      have HBW := Lib.hid hBw
      clear e1 hx HR HBY1 hBw
      go_upto_region 6 with fail
      go_wp2_with fail
      refine KX.out.mono ?_
      rintro e w' ⟨rfl, hw⟩
      obtain rfl := hw
      clear KX
      go_upto_region 7 with fail
      clear d1 d2 d3
      refine wp_region_lit ?_
      refine wpList_yield (w' := wr) (v := .pointer (some ⟨C, 0, none⟩)) rfl (by first | (go_simp; done) | (go_simp; rfl)) ?_
      refine wpList_enter rfl (by go_simp) KS.out ?_
      rintro e w2 ⟨rfl, h2, f2⟩
      refine ⟨_, rfl, ?_⟩
      have HC2 := Lib.hid h2
      have HS2 := Lib.hid (Nat.le_trans HS.out f2.size)
      have HB2 := Lib.hid (HB.out.trans (f2.below (B := w.heap.size) HB.out.size (fun j hj => by have := HCL.out; omega)))
      have HO2 := Lib.hid (HO.out.keep (fun g hg => f2.block g (HO.out.blk hg).2.1 (by have := (HO.out.blk hg).1; have := HCL.out; omega)))
      clear h2 f2 HC HS HB HO KS
      refine wpList_yield (w' := w2) (v := .agg ([.int .i64 k, .int .i64 0, .int .i64 0, .int .i64 0, .int .i64 0, .int .i64 0, .int .i64 0, .int .i64 0, .int .i64 0, .int .i64 0, .int .i64 0, .int .i64 0, .bool false, .string ⟨#[]⟩, .int .i64 0, .int .i64 0, .int .i64 0, .int .i64 0, .int .i64 0] : List Value).toArray) rfl (by first | (go_simp; done) | (go_simp; rfl)) ?_
      refine wpList_yield (w' := w2.alloc (.cells #[.int .i64 0, .int .i64 0, .int .i64 0, .int .i64 0, .int .i64 0, .int .i64 0, .int .i64 0, .int .i64 0, .int .i64 0, .int .i64 0, .int .i64 0, .int .i64 0, .bool false, .string ⟨#[]⟩, .int .i64 0, .int .i64 0, .int .i64 0, .int .i64 0, .int .i64 0] 29)) (v := .pointer (some ⟨w2.heap.size, 0, none⟩)) rfl (by first | (go_simp; done) | (go_simp; rfl)) ?_
      refine wpList_store_all rfl 29 _ _ rfl w2.heap.size (cs := #[.int .i64 0, .int .i64 0, .int .i64 0, .int .i64 0, .int .i64 0, .int .i64 0, .int .i64 0, .int .i64 0, .int .i64 0, .int .i64 0, .int .i64 0, .int .i64 0, .bool false, .string ⟨#[]⟩, .int .i64 0, .int .i64 0, .int .i64 0, .int .i64 0, .int .i64 0]) (T := 29) [.int .i64 k, .int .i64 0, .int .i64 0, .int .i64 0, .int .i64 0, .int .i64 0, .int .i64 0, .int .i64 0, .int .i64 0, .int .i64 0, .int .i64 0, .int .i64 0, .bool false, .string ⟨#[]⟩, .int .i64 0, .int .i64 0, .int .i64 0, .int .i64 0, .int .i64 0] (by go_simp) (by go_simp) (World.alloc_heap_new _ _) rfl info_step rfl ?_
      intro V hV
      have hbV := hV.below (below_alloc (Below.refl _ w2) _) (Nat.le_refl _)
      have HPV := Lib.hid (show V.heap[w2.heap.size]? = some (.cells (sC ⟨k, z12, eS, 0, z4⟩).toArray 29 (0, 0)) from hV.there)
      have HCV := Lib.hid (HC2.out.below hbV)
      have HSV := Lib.hid (Nat.le_trans HS2.out hbV.size)
      have HBV := Lib.hid (below_next HB2.out hbV)
      have HOV := Lib.hid (HO2.out.below hbV)
      have HPW := Lib.hid (show w1.heap.size ≤ w2.heap.size from HS2.out)
      have HPO := Lib.hid (show ∀ g, Value.ownBlock (.slice la L.length lc) = some g → g ≠ w2.heap.size from fun g hg => by have := (HO2.out.blk hg).2.1; omega)
      clear hV hbV HC2 HS2 HB2 HO2
      go_upto_region 8 with fail
      generalize w2.heap.size = p at *
      have c00 : V.cell? ⟨p, 0, none⟩ = some (.int .i64 k) := cell_at HPV.out rfl
      go_upto_block 2 with fail
      clear c00
      go_cut [5] (fun bv W => ∃ (U : SV) (sq : CS), bv = .int .i64 0 ∧ stepF st = stepV sq U ∧ GoodS U ∧ Cur W C (fun j => w.heap.size ≤ j ∧ j < w1.heap.size) sq ∧ W.heap[p]? = some (.cells (sC U).toArray 29 (0, 0)) ∧ OwnV 29 19 W w1.heap.size (.slice la L.length lc) (L.map sC) ∧ w1.heap.size ≤ W.heap.size ∧ Below w.heap.size w W)
      case first =>
        rcases (by omega : k = 0 ∨ k = 1 ∨ k = 2 ∨ k = 3 ∨ k = 4 ∨ k = 5) with rfl | rfl | rfl | rfl | rfl | rfl
        · as_aux_lemma =>
            clear hk
            rw [if_pos rfl] at HST
            have c0 : V.cell? ⟨p, 0, none⟩ = some (.int .i64 0) := cell_at HPV.out rfl
            have HTM := Lib.hid (textF_mem HBS.out)
            have KT := Lib.hid (text_cur HCV.out)
            obtain ⟨s2, tx, e2⟩ : ∃ s t, textF s1 = (s, t) := ⟨_, _, rfl⟩
            rw [e2] at KT HST HTM
            dsimp only at HST HTM KT
            have HTL := Lib.hid (show tx.length ≤ 1099511627775 from by have h1 := textF_len HBS.out; rw [e2] at h1; have h2 := HCV.out.fits; dsimp only at h1; omega)
            clear e2
            go_upto_region 10 with fail
            clear c0
            refine wp_region_lit (WL.out ?_)
            refine WL.yield (w' := V) (v := .pointer (some ⟨C, 0, none⟩)) rfl (by first | (go_simp; done) | (go_simp; rfl)) ?_
            try go_simp
            refine WL.enter rfl (by go_simp) KT.out ?_
            rintro e w3 ⟨rfl, h3, f3⟩
            refine ⟨_, rfl, ?_⟩
            try go_simp
            obtain ⟨cc, W4, hcv, ht4, hb4⟩ := conv_txt w3 (strOfNums tx) (by rw [size_str]; have := HTL.out; omega)
            have htb : bytesOf (strOfNums tx) = tx := bytesOf_str tx (fun i hi => (HTM.out _ (by simp [List.getD, hi])).1) (fun i hi => (HTM.out _ (by simp [List.getD, hi])).2)
            rw [htb] at ht4
            have hf3 := f3.below (B := w.heap.size) (Nat.le_trans HBW.out HSV.out) (fun j hj => by have := HCL.out; omega)
            have HB4 := Lib.hid (below_next (HBV.out.trans hf3) hb4)
            have HS4 := Lib.hid (Nat.le_trans HSV.out (Nat.le_trans f3.size hb4.size))
            have HC4 := Lib.hid (h3.below hb4)
            have hP3 := (f3.block p (Array.getElem?_eq_some_iff.1 HPV.out).1 (by have := HCL.out; have := HPW.out; omega)).trans HPV.out
            have HP4 := Lib.hid ((hb4.block p (Array.getElem?_eq_some_iff.1 hP3).1).trans hP3)
            have HO4 := Lib.hid ((HOV.out.keep (fun g hg => f3.block g (HOV.out.blk hg).2.1 (by have := (HOV.out.blk hg).1; have := HCL.out; omega))).below hb4)
            have KC := Lib.hid (read_c W4 ht4 HTL.out (HE.out _ HB4.out))
            have HCG := Lib.hid (cmd_got HTM.out)
            have HG0 := Lib.hid (good0 HTM.out)
            have HS0 := Lib.hid (sC_set0 HCG.out.len)
            have HCODE := Lib.hid (show (readB tx = false → codeC tx = 11) ∧ (readB tx = true → codeC tx = 0) from ⟨codeC_no, codeC_yes⟩)
            have HYL := Lib.hid (cmdC_len HCG.out.len)
            have HY1 := Lib.hid (show (cmdC (gotC tx)).all (·.oneCell') = true from cmdC_ones HCG.out)
            clear HCG
            generalize gotC tx = gx at *
            generalize cmdC gx = xc at *
            generalize codeC tx = cd at *
            have HCV2 := hcv
            clear h3 f3 ht4 hb4 htb hf3 hP3 KT HCV HSV HBV HOV HPV
            refine WL.yield (w' := W4) (v := .slice (some ⟨w3.heap.size, 0, none⟩) (strOfNums tx).size cc) rfl (by first | (go_simp; done) | (go_simp; rfl)) ?_
            try go_simp
            clear HCV2 hcv
            generalize w3.heap.size = q4 at *
            generalize (strOfNums tx).size = ns at *
            refine WL.enter rfl (by go_simp) KC.out ?_
            rintro e w5 ⟨rfl, hb5⟩
            refine ⟨_, rfl, ?_⟩
            try go_simp
            have HB5 := Lib.hid (below_next HB4.out hb5)
            have HS5 := Lib.hid (Nat.le_trans HS4.out hb5.size)
            have HC5 := Lib.hid (HC4.out.below hb5)
            have HP5 := Lib.hid ((hb5.block p (Array.getElem?_eq_some_iff.1 HP4.out).1).trans HP4.out)
            have HO5 := Lib.hid (HO4.out.below hb5)
            clear hb5 HB4 HS4 HC4 HP4 HO4 KC
            refine WL.yield (w' := w5) (v := .tuple #[.agg xc.toArray, .int .i64 (cd)]) rfl (by go_simp) ?_
            try go_simp
            refine WL.yield (w' := w5) (v := .agg xc.toArray) rfl (by go_simp) ?_
            try go_simp
            refine WL.yield (w' := w5) (v := .int .i64 (cd)) rfl (by go_simp) ?_
            try go_simp
            refine WL.yield (w' := w5) (v := .pointer (some ⟨p, 1, none⟩)) rfl (by go_simp) ?_
            try go_simp
            refine WL_store_part rfl 26 _ _ rfl p 1 (xc) (by go_simp) (by go_simp) HP5.out (by rw [HYL.out]; decide) (by rw [HYL.out]; exact info_cmd) HY1.out ?_
            intro w6 h6
            rw [HS0.out] at h6
            have hf6 := wrote_fr h6
            have HB6 := Lib.hid (HB5.out.trans (hf6.below (B := w.heap.size) HB5.out.size (fun j hj => by have := HPW.out; have := HBW.out; omega)))
            have HS6 := Lib.hid (Nat.le_trans HS5.out hf6.size)
            have HC6 := Lib.hid (Fr.cur HC5.out hf6 (fun j hj hj2 hj3 => by have h4 : j = p := hj3; have h5 : w.heap.size ≤ j ∧ j < w1.heap.size := hj; have := HPW.out; omega))
            have HP6 := Lib.hid h6.there
            have HO6 := Lib.hid (HO5.out.keep (fun g hg => hf6.block g (HO5.out.blk hg).2.1 (HPO.out g hg)))
            clear h6 hf6 HB5 HS5 HC5 HP5 HO5 HYL HY1
            refine WL.yield (w' := w6) (v := .int .i64 (cd)) rfl (by go_simp) ?_
            try go_simp
            refine WL.nil ?_
            cases hrb : readB tx with
            | false =>
              have hcode : cd = 11 := HCODE.out.1 hrb
              have HQ := Lib.hid (show readS bs = (L, 11) from by rw [HR1.out, HST.out, hrb]; rfl)
              have HFIN := Lib.hid (HEND.out w1.heap.size _ L (.returned (.tuple #[.slice la L.length lc, .int .i64 11])) w6 11 HQ.out HBW.out rfl HO6.out HB6.out)
              rw [hcode]
              clear HEND HB6 HS6 HC6 HP6 HO6 hcode hrb HST HR1 HQ
              go_simp
              go_wp2_with fail
              try go_ret2
              exact HFIN.out
            | true =>
              have hcode : cd = 0 := HCODE.out.2 hrb
              have HSTQ := Lib.hid (show stepF st = stepV s2 ⟨0, gx, eS, 0, z4⟩ from by rw [HST.out, hrb, if_pos rfl])
              rw [hcode]
              clear hcode hrb
              have HPV := Lib.hid True.intro
              have HCV := Lib.hid True.intro
              have HSV := Lib.hid True.intro
              have HBV := Lib.hid True.intro
              have HOV := Lib.hid True.intro
              go_simp
              go_wp2_with fail
              go_meet
              exact ⟨⟨0, gx, eS, 0, z4⟩, s2, rfl, HSTQ.out, HG0.out, HC6.out, HP6.out, HO6.out, HS6.out, HB6.out⟩
        · as_aux_lemma =>
            clear hk
            rw [if_neg (by decide), if_pos rfl] at HST
            have c0 : V.cell? ⟨p, 0, none⟩ = some (.int .i64 1) := cell_at HPV.out rfl
            have HTM := Lib.hid (show True from trivial)
            have KT := Lib.hid (text_cur HCV.out)
            obtain ⟨s2, tx, e2⟩ : ∃ s t, textF s1 = (s, t) := ⟨_, _, rfl⟩
            rw [e2] at KT HST
            dsimp only at HST KT
            generalize strOfNums tx = sv at *
            clear e2
            go_upto_region 13 with fail
            clear c0
            go_wp2_with fail
            refine KT.out.mono ?_
            rintro e w3 ⟨rfl, h3, f3⟩
            have hf3 := f3.below (B := w.heap.size) (Nat.le_trans HBW.out HSV.out) (fun j hj => by have := HCL.out; omega)
            have HB3 := Lib.hid (HBV.out.trans hf3)
            have HS3 := Lib.hid (Nat.le_trans HSV.out f3.size)
            have HC3 := Lib.hid h3
            have hP3 := (f3.block p (Array.getElem?_eq_some_iff.1 HPV.out).1 (by have := HCL.out; have := HPW.out; omega)).trans HPV.out
            have HO3 := Lib.hid (HOV.out.keep (fun g hg => f3.block g (HOV.out.blk hg).2.1 (by have := (HOV.out.blk hg).1; have := HCL.out; omega)))
            have c13 : w3.cell? ⟨p, 13, none⟩ = some (.string ⟨#[]⟩) := cell_at hP3 rfl
            have fz := free_of_block 13 hP3
            have hw6 := (wrote_refl hP3).set 13 (.string sv)
            have hf6 := wrote_fr hw6
            have HB6 := Lib.hid (HB3.out.trans (hf6.below (B := w.heap.size) HB3.out.size (fun j hj => by have := HPW.out; have := HBW.out; omega)))
            have HS6 := Lib.hid (Nat.le_trans HS3.out hf6.size)
            have HC6 := Lib.hid (Fr.cur HC3.out hf6 (fun j hj hj2 hj3 => by have h4 : j = p := hj3; have h5 : w.heap.size ≤ j ∧ j < w1.heap.size := hj; have := HPW.out; omega))
            have HP6 := Lib.hid (show (w3.setCell ⟨p, 13, none⟩ (.string sv)).heap[p]? = some (.cells (sC ⟨1, z12, sv, 0, z4⟩).toArray 29 (0, 0)) from hw6.there)
            have HO6 := Lib.hid (HO3.out.keep (fun g hg => hf6.block g (HO3.out.blk hg).2.1 (HPO.out g hg)))
            clear h3 f3 hf3 hP3 hw6 hf6 HB3 HS3 HC3 HO3 KT
            have HZZ := Lib.hid True.intro
            go_wp2_with fail
            go_meet
            exact ⟨⟨1, z12, sv, 0, z4⟩, s2, rfl, HST.out, good1 sv, HC6.out, HP6.out, HO6.out, HS6.out, HB6.out⟩
        · as_aux_lemma =>
            clear hk
            rw [if_neg (by decide), if_neg (by decide), if_pos rfl] at HST
            have c0 : V.cell? ⟨p, 0, none⟩ = some (.int .i64 2) := cell_at HPV.out rfl
            have HTM := Lib.hid (i64_in HBS.out)
            have KT := Lib.hid (int_cur HCV.out)
            obtain ⟨s2, sv, e2⟩ : ∃ s t, intF s1 = (s, t) := ⟨_, _, rfl⟩
            rw [e2] at KT HST HTM
            dsimp only at HST KT HTM
            clear e2
            go_upto_region 15 with fail
            clear c0
            go_wp2_with fail
            refine KT.out.mono ?_
            rintro e w3 ⟨rfl, h3, f3⟩
            have hf3 := f3.below (B := w.heap.size) (Nat.le_trans HBW.out HSV.out) (fun j hj => by have := HCL.out; omega)
            have HB3 := Lib.hid (HBV.out.trans hf3)
            have HS3 := Lib.hid (Nat.le_trans HSV.out f3.size)
            have HC3 := Lib.hid h3
            have hP3 := (f3.block p (Array.getElem?_eq_some_iff.1 HPV.out).1 (by have := HCL.out; have := HPW.out; omega)).trans HPV.out
            have HO3 := Lib.hid (HOV.out.keep (fun g hg => f3.block g (HOV.out.blk hg).2.1 (by have := (HOV.out.blk hg).1; have := HCL.out; omega)))
            have c14 : w3.cell? ⟨p, 14, none⟩ = some (.int .i64 0) := cell_at hP3 rfl
            have fz := free_of_block 14 hP3
            have hw6 := (wrote_refl hP3).set 14 (.int .i64 sv)
            have hf6 := wrote_fr hw6
            have HB6 := Lib.hid (HB3.out.trans (hf6.below (B := w.heap.size) HB3.out.size (fun j hj => by have := HPW.out; have := HBW.out; omega)))
            have HS6 := Lib.hid (Nat.le_trans HS3.out hf6.size)
            have HC6 := Lib.hid (Fr.cur HC3.out hf6 (fun j hj hj2 hj3 => by have h4 : j = p := hj3; have h5 : w.heap.size ≤ j ∧ j < w1.heap.size := hj; have := HPW.out; omega))
            have HP6 := Lib.hid (show (w3.setCell ⟨p, 14, none⟩ (.int .i64 sv)).heap[p]? = some (.cells (sC ⟨2, z12, eS, sv, z4⟩).toArray 29 (0, 0)) from hw6.there)
            have HO6 := Lib.hid (HO3.out.keep (fun g hg => hf6.block g (HO3.out.blk hg).2.1 (HPO.out g hg)))
            clear h3 f3 hf3 hP3 hw6 hf6 HB3 HS3 HC3 HO3 KT
            have HZZ := Lib.hid True.intro
            go_wp2_with fail
            go_meet
            exact ⟨⟨2, z12, eS, sv, z4⟩, s2, rfl, HST.out, good2 HTM.out, HC6.out, HP6.out, HO6.out, HS6.out, HB6.out⟩
        · as_aux_lemma =>
            clear hk
            rw [if_neg (by decide), if_neg (by decide), if_neg (by decide), if_pos rfl] at HST
            have c0 : V.cell? ⟨p, 0, none⟩ = some (.int .i64 3) := cell_at HPV.out rfl
            obtain ⟨sa, qa, ea⟩ : ∃ s t, intF s1 = (s, t) := ⟨_, _, rfl⟩
            obtain ⟨sb, qb, eb⟩ : ∃ s t, intF sa = (s, t) := ⟨_, _, rfl⟩
            obtain ⟨sc, qc, ec⟩ : ∃ s t, intF sb = (s, t) := ⟨_, _, rfl⟩
            obtain ⟨sd, qd, ed⟩ : ∃ s t, intF sc = (s, t) := ⟨_, _, rfl⟩
            rw [readA4 ea eb ec ed] at HST
            have HGQ := Lib.hid (show ∀ y ∈ [qa, qb, qc, qd], i64S y from by have h1 := readA_i64 4 HBS.out; rw [readA4 ea eb ec ed] at h1; exact h1)
            dsimp only at HST
            have EA := Lib.hid ea
            have EB := Lib.hid eb
            have EC := Lib.hid ec
            have ED := Lib.hid ed
            clear ea eb ec ed
            go_upto_region 18 with fail
            clear c0
            go_loopw [46] (fun i W => ∃ m : Nat, m ≤ 4 ∧ i = .int .i64 m ∧ Cur W C (fun j => w.heap.size ≤ j ∧ j < w1.heap.size) ([s1, sa, sb, sc, sd].getD m s1) ∧ W.heap[p]? = some (.cells (sC ⟨3, z12, eS, 0, [if 0 < m then qa else 0, if 1 < m then qb else 0, if 2 < m then qc else 0, if 3 < m then qd else 0]⟩).toArray 29 (0, 0)) ∧ OwnV 29 19 W w1.heap.size (.slice la L.length lc) (L.map sC) ∧ w1.heap.size ≤ W.heap.size ∧ Below w.heap.size w W) (fun i _ => 4 - (intOf i).toNat)
            case atStart => exact ⟨0, Nat.zero_le _, rfl, HCV.out, HPV.out, HOV.out, HSV.out, HBV.out⟩
            case round =>
              obtain ⟨m, hm, rfl, hc, hp, ho, hs, hb⟩ := hrel
              rename_i V2 _ _ _ _
              clear HCV HPV HOV HSV HBV
              rcases (by omega : m = 0 ∨ m = 1 ∨ m = 2 ∨ m = 3 ∨ m = 4) with rfl | rfl | rfl | rfl | rfl
              · have HCV := Lib.hid (show Cur wr C (fun j => w.heap.size ≤ j ∧ j < w1.heap.size) s1 from hc)
                have HPV := Lib.hid (show wr.heap[p]? = some (.cells (sC ⟨3, z12, eS, 0, [0, 0, 0, 0]⟩).toArray 29 (0, 0)) from hp)
                have HOV := Lib.hid ho
                have HSV := Lib.hid hs
                have HBV := Lib.hid hb
                have KT := Lib.hid (int_cur HCV.out)
                rw [EA.out] at KT
                clear hc hp ho hs hb hm
                go_wp2_with fail
                refine KT.out.mono ?_
                rintro e w3 ⟨rfl, h3, f3⟩
                have hf3 := f3.below (B := w.heap.size) (Nat.le_trans HBW.out HSV.out) (fun j hj => by have := HCL.out; omega)
                have HB3 := Lib.hid (HBV.out.trans hf3)
                have HS3 := Lib.hid (Nat.le_trans HSV.out f3.size)
                have HC3 := Lib.hid h3
                have hP3 := (f3.block p (Array.getElem?_eq_some_iff.1 HPV.out).1 (by have := HCL.out; have := HPW.out; omega)).trans HPV.out
                have HO3 := Lib.hid (HOV.out.keep (fun g hg => f3.block g (HOV.out.blk hg).2.1 (by have := (HOV.out.blk hg).1; have := HCL.out; omega)))
                have c15 : w3.cell? ⟨p, 15, none⟩ = some (.int .i64 0) := cell_at hP3 rfl
                have fz := free_of_block 15 hP3
                have hw6 := (wrote_refl hP3).set 15 (.int .i64 qa)
                have hf6 := wrote_fr hw6
                have HB6 := Lib.hid (HB3.out.trans (hf6.below (B := w.heap.size) HB3.out.size (fun j hj => by have := HPW.out; have := HBW.out; omega)))
                have HS6 := Lib.hid (Nat.le_trans HS3.out hf6.size)
                have HC6 := Lib.hid (Fr.cur HC3.out hf6 (fun j hj hj2 hj3 => by have h4 : j = p := hj3; have h5 : w.heap.size ≤ j ∧ j < w1.heap.size := hj; have := HPW.out; omega))
                have HP6 := Lib.hid (show (w3.setCell ⟨p, 15, none⟩ (.int .i64 qa)).heap[p]? = some (.cells (sC ⟨3, z12, eS, 0, [qa, 0, 0, 0]⟩).toArray 29 (0, 0)) from hw6.there)
                have HO6 := Lib.hid (HO3.out.keep (fun g hg => hf6.block g (HO3.out.blk hg).2.1 (HPO.out g hg)))
                clear h3 f3 hf3 hP3 hw6 hf6 HB3 HS3 HC3 HO3 KT HCV HPV HOV HSV HBV
                go_wp2_with fail
                go_roundw
                case rel => exact ⟨1, by omega, by rfl, HC6.out, HP6.out, HO6.out, HS6.out, HB6.out⟩
                case measure => simp [intOf]
              · have HCV := Lib.hid (show Cur wr C (fun j => w.heap.size ≤ j ∧ j < w1.heap.size) sa from hc)
                have HPV := Lib.hid (show wr.heap[p]? = some (.cells (sC ⟨3, z12, eS, 0, [qa, 0, 0, 0]⟩).toArray 29 (0, 0)) from hp)
                have HOV := Lib.hid ho
                have HSV := Lib.hid hs
                have HBV := Lib.hid hb
                have KT := Lib.hid (int_cur HCV.out)
                rw [EB.out] at KT
                clear hc hp ho hs hb hm
                go_wp2_with fail
                refine KT.out.mono ?_
                rintro e w3 ⟨rfl, h3, f3⟩
                have hf3 := f3.below (B := w.heap.size) (Nat.le_trans HBW.out HSV.out) (fun j hj => by have := HCL.out; omega)
                have HB3 := Lib.hid (HBV.out.trans hf3)
                have HS3 := Lib.hid (Nat.le_trans HSV.out f3.size)
                have HC3 := Lib.hid h3
                have hP3 := (f3.block p (Array.getElem?_eq_some_iff.1 HPV.out).1 (by have := HCL.out; have := HPW.out; omega)).trans HPV.out
                have HO3 := Lib.hid (HOV.out.keep (fun g hg => f3.block g (HOV.out.blk hg).2.1 (by have := (HOV.out.blk hg).1; have := HCL.out; omega)))
                have c16 : w3.cell? ⟨p, 16, none⟩ = some (.int .i64 0) := cell_at hP3 rfl
                have fz := free_of_block 16 hP3
                have hw6 := (wrote_refl hP3).set 16 (.int .i64 qb)
                have hf6 := wrote_fr hw6
                have HB6 := Lib.hid (HB3.out.trans (hf6.below (B := w.heap.size) HB3.out.size (fun j hj => by have := HPW.out; have := HBW.out; omega)))
                have HS6 := Lib.hid (Nat.le_trans HS3.out hf6.size)
                have HC6 := Lib.hid (Fr.cur HC3.out hf6 (fun j hj hj2 hj3 => by have h4 : j = p := hj3; have h5 : w.heap.size ≤ j ∧ j < w1.heap.size := hj; have := HPW.out; omega))
                have HP6 := Lib.hid (show (w3.setCell ⟨p, 16, none⟩ (.int .i64 qb)).heap[p]? = some (.cells (sC ⟨3, z12, eS, 0, [qa, qb, 0, 0]⟩).toArray 29 (0, 0)) from hw6.there)
                have HO6 := Lib.hid (HO3.out.keep (fun g hg => hf6.block g (HO3.out.blk hg).2.1 (HPO.out g hg)))
                clear h3 f3 hf3 hP3 hw6 hf6 HB3 HS3 HC3 HO3 KT HCV HPV HOV HSV HBV
                go_wp2_with fail
                go_roundw
                case rel => exact ⟨2, by omega, by rfl, HC6.out, HP6.out, HO6.out, HS6.out, HB6.out⟩
                case measure => simp [intOf]
              · have HCV := Lib.hid (show Cur wr C (fun j => w.heap.size ≤ j ∧ j < w1.heap.size) sb from hc)
                have HPV := Lib.hid (show wr.heap[p]? = some (.cells (sC ⟨3, z12, eS, 0, [qa, qb, 0, 0]⟩).toArray 29 (0, 0)) from hp)
                have HOV := Lib.hid ho
                have HSV := Lib.hid hs
                have HBV := Lib.hid hb
                have KT := Lib.hid (int_cur HCV.out)
                rw [EC.out] at KT
                clear hc hp ho hs hb hm
                go_wp2_with fail
                refine KT.out.mono ?_
                rintro e w3 ⟨rfl, h3, f3⟩
                have hf3 := f3.below (B := w.heap.size) (Nat.le_trans HBW.out HSV.out) (fun j hj => by have := HCL.out; omega)
                have HB3 := Lib.hid (HBV.out.trans hf3)
                have HS3 := Lib.hid (Nat.le_trans HSV.out f3.size)
                have HC3 := Lib.hid h3
                have hP3 := (f3.block p (Array.getElem?_eq_some_iff.1 HPV.out).1 (by have := HCL.out; have := HPW.out; omega)).trans HPV.out
                have HO3 := Lib.hid (HOV.out.keep (fun g hg => f3.block g (HOV.out.blk hg).2.1 (by have := (HOV.out.blk hg).1; have := HCL.out; omega)))
                have c17 : w3.cell? ⟨p, 17, none⟩ = some (.int .i64 0) := cell_at hP3 rfl
                have fz := free_of_block 17 hP3
                have hw6 := (wrote_refl hP3).set 17 (.int .i64 qc)
                have hf6 := wrote_fr hw6
                have HB6 := Lib.hid (HB3.out.trans (hf6.below (B := w.heap.size) HB3.out.size (fun j hj => by have := HPW.out; have := HBW.out; omega)))
                have HS6 := Lib.hid (Nat.le_trans HS3.out hf6.size)
                have HC6 := Lib.hid (Fr.cur HC3.out hf6 (fun j hj hj2 hj3 => by have h4 : j = p := hj3; have h5 : w.heap.size ≤ j ∧ j < w1.heap.size := hj; have := HPW.out; omega))
                have HP6 := Lib.hid (show (w3.setCell ⟨p, 17, none⟩ (.int .i64 qc)).heap[p]? = some (.cells (sC ⟨3, z12, eS, 0, [qa, qb, qc, 0]⟩).toArray 29 (0, 0)) from hw6.there)
                have HO6 := Lib.hid (HO3.out.keep (fun g hg => hf6.block g (HO3.out.blk hg).2.1 (HPO.out g hg)))
                clear h3 f3 hf3 hP3 hw6 hf6 HB3 HS3 HC3 HO3 KT HCV HPV HOV HSV HBV
                go_wp2_with fail
                go_roundw
                case rel => exact ⟨3, by omega, by rfl, HC6.out, HP6.out, HO6.out, HS6.out, HB6.out⟩
                case measure => simp [intOf]
              · have HCV := Lib.hid (show Cur wr C (fun j => w.heap.size ≤ j ∧ j < w1.heap.size) sc from hc)
                have HPV := Lib.hid (show wr.heap[p]? = some (.cells (sC ⟨3, z12, eS, 0, [qa, qb, qc, 0]⟩).toArray 29 (0, 0)) from hp)
                have HOV := Lib.hid ho
                have HSV := Lib.hid hs
                have HBV := Lib.hid hb
                have KT := Lib.hid (int_cur HCV.out)
                rw [ED.out] at KT
                clear hc hp ho hs hb hm
                go_wp2_with fail
                refine KT.out.mono ?_
                rintro e w3 ⟨rfl, h3, f3⟩
                have hf3 := f3.below (B := w.heap.size) (Nat.le_trans HBW.out HSV.out) (fun j hj => by have := HCL.out; omega)
                have HB3 := Lib.hid (HBV.out.trans hf3)
                have HS3 := Lib.hid (Nat.le_trans HSV.out f3.size)
                have HC3 := Lib.hid h3
                have hP3 := (f3.block p (Array.getElem?_eq_some_iff.1 HPV.out).1 (by have := HCL.out; have := HPW.out; omega)).trans HPV.out
                have HO3 := Lib.hid (HOV.out.keep (fun g hg => f3.block g (HOV.out.blk hg).2.1 (by have := (HOV.out.blk hg).1; have := HCL.out; omega)))
                have c18 : w3.cell? ⟨p, 18, none⟩ = some (.int .i64 0) := cell_at hP3 rfl
                have fz := free_of_block 18 hP3
                have hw6 := (wrote_refl hP3).set 18 (.int .i64 qd)
                have hf6 := wrote_fr hw6
                have HB6 := Lib.hid (HB3.out.trans (hf6.below (B := w.heap.size) HB3.out.size (fun j hj => by have := HPW.out; have := HBW.out; omega)))
                have HS6 := Lib.hid (Nat.le_trans HS3.out hf6.size)
                have HC6 := Lib.hid (Fr.cur HC3.out hf6 (fun j hj hj2 hj3 => by have h4 : j = p := hj3; have h5 : w.heap.size ≤ j ∧ j < w1.heap.size := hj; have := HPW.out; omega))
                have HP6 := Lib.hid (show (w3.setCell ⟨p, 18, none⟩ (.int .i64 qd)).heap[p]? = some (.cells (sC ⟨3, z12, eS, 0, [qa, qb, qc, qd]⟩).toArray 29 (0, 0)) from hw6.there)
                have HO6 := Lib.hid (HO3.out.keep (fun g hg => hf6.block g (HO3.out.blk hg).2.1 (HPO.out g hg)))
                clear h3 f3 hf3 hP3 hw6 hf6 HB3 HS3 HC3 HO3 KT HCV HPV HOV HSV HBV
                go_wp2_with fail
                go_roundw
                case rel => exact ⟨4, by omega, by rfl, HC6.out, HP6.out, HO6.out, HS6.out, HB6.out⟩
                case measure => simp [intOf]
              · have HCV := Lib.hid (show Cur wr C (fun j => w.heap.size ≤ j ∧ j < w1.heap.size) sd from hc)
                have HPV := Lib.hid (show wr.heap[p]? = some (.cells (sC ⟨3, z12, eS, 0, [qa, qb, qc, qd]⟩).toArray 29 (0, 0)) from hp)
                have HOV := Lib.hid ho
                have HSV := Lib.hid hs
                have HBV := Lib.hid hb
                clear hc hp ho hs hb hm
                go_wp2_with fail
                go_meet
                exact ⟨⟨3, z12, eS, 0, [qa, qb, qc, qd]⟩, sd, rfl, HST.out, good3 rfl HGQ.out, HCV.out, HPV.out, HOV.out, HSV.out, HBV.out⟩
        · as_aux_lemma =>
            clear hk
            rw [if_neg (by decide), if_neg (by decide), if_neg (by decide), if_neg (by decide)] at HST
            have c0 : V.cell? ⟨p, 0, none⟩ = some (.int .i64 4) := cell_at HPV.out rfl
            clear c0
            go_wp2_with fail
            go_meet
            exact ⟨⟨4, z12, eS, 0, z4⟩, s1, rfl, HST.out, good4 (by unfold i64S; omega), HCV.out, HPV.out, HOV.out, HSV.out, HBV.out⟩
        · as_aux_lemma =>
            clear hk
            rw [if_neg (by decide), if_neg (by decide), if_neg (by decide), if_neg (by decide)] at HST
            have c0 : V.cell? ⟨p, 0, none⟩ = some (.int .i64 5) := cell_at HPV.out rfl
            clear c0
            go_wp2_with fail
            go_meet
            exact ⟨⟨5, z12, eS, 0, z4⟩, s1, rfl, HST.out, good4 (by unfold i64S; omega), HCV.out, HPV.out, HOV.out, HSV.out, HBV.out⟩
      case rest =>
        obtain ⟨U, sq, rfl, hst, hgu, hc9, hp9, ho9, hs9, hb9⟩ := hcut
        have HSTP := Lib.hid hst
        have HGU := Lib.hid hgu
        have HC9 := Lib.hid hc9
        have HP9 := Lib.hid hp9
        have HS9 := Lib.hid hs9
        have HB9 := Lib.hid hb9
        have HO9 := Lib.hid ho9
        clear hst hgu hc9 hp9 ho9 hs9 hb9
        have HLL := Lib.hid (sC_len HGU.out)
        have HONE := Lib.hid (sC_one HGU.out)
        have HNOX := Lib.hid (show (stepF st = none) → readS bs = (L, 11) from fun h => by rw [HR1.out, h]; rfl)
        have HYESX := Lib.hid (show (stepF st = some (sq, U)) → readS bs = rdS q sq (L ++ [U]) from fun h => by rw [HR1.out, h]; rfl)
        have KB := Lib.hid (bad_cur HC9.out (HE.out _ HB9.out))
        obtain ⟨bad, hbad⟩ : ∃ b, b = sq.bad := ⟨_, rfl⟩
        rw [← hbad] at KB
        have HBAD := Lib.hid hbad
        clear hbad HPV HCV HSV HBV HOV HST HR1 hk
        by_cases hz : bad = 0
        · subst hz
          have KR9 := fun W => right_s HGU.out W
          obtain ⟨r, hr⟩ : ∃ r, r = rightS U := ⟨_, rfl⟩
          have HRU := Lib.hid hr
          rw [← hr] at KR9
          have KR := Lib.hid KR9
          clear KR9 hr

          go_upto_region 22 with fail

          refine wp_region_lit (WL.out ?_)
          refine WL.yield (w' := wc) (v := .pointer (some ⟨C, 0, none⟩)) rfl (by first | (go_simp; done) | (go_simp; rfl)) ?_
          try go_simp
          refine WL.enter rfl (by go_simp) KB.out ?_
          rintro e w7 ⟨rfl, hb7⟩
          refine ⟨_, rfl, ?_⟩
          try go_simp
          have HC7 := Lib.hid (HC9.out.below hb7)
          have HP7 := Lib.hid ((hb7.block p (Array.getElem?_eq_some_iff.1 HP9.out).1).trans HP9.out)
          have HS7 := Lib.hid (Nat.le_trans HS9.out hb7.size)
          have HB7 := Lib.hid (below_next HB9.out hb7)
          have HO7 := Lib.hid (HO9.out.below hb7)
          clear hb7 HC9 HP9 HS9 HB9 HO9 KB

          refine WL.yield (w' := w7) (v := .bool false) rfl (by first | (go_simp; done) | (go_simp; rfl)) ?_
          try go_simp
          refine WL.yield (w' := w7) (v := .bool false) rfl (by first | (go_simp; done) | (go_simp; rfl)) ?_
          try go_simp
          refine WL.yield_w (w' := w7) (v := .agg (sC U).toArray) (by kernel_rfl) (exec_load_elt 29 _ rfl p 0 (by go_simp) (sC U) _ (range_of_block HP7.out) Tryd.underlying29 rfl (by rw [HLL.out]; exact info_step)) ?_
          try go_simp
          refine WL.enter_w (by kernel_rfl) (by go_simp) (KR.out w7) ?_
          rintro e w8 ⟨rfl, hb8⟩
          refine ⟨_, rfl, ?_⟩
          try go_simp
          have HC8 := Lib.hid (HC7.out.below hb8)
          have HP8 := Lib.hid ((hb8.block p (Array.getElem?_eq_some_iff.1 HP7.out).1).trans HP7.out)
          have HS8 := Lib.hid (Nat.le_trans HS7.out hb8.size)
          have HB8 := Lib.hid (below_next HB7.out hb8)
          have HO8 := Lib.hid (HO7.out.below hb8)
          clear hb8 HC7 HP7 HS7 HB7 HO7 KR

          cases r with
          | true =>
            refine WL.yield_w (w' := w8) (v := .bool false) (by kernel_rfl) (by first | (go_simp; done) | (go_simp; rfl)) ?_
            try go_simp
            refine WL.yield (w' := w8) (v := .bool false) rfl (by first | (go_simp; done) | (go_simp; rfl)) ?_
            refine WL.nil ?_
            go_simp
            have HYES := Lib.hid (show stepF st = some (sq, U) from by rw [HSTP.out]; exact stepV_okk HBAD.out.symm HRU.out.symm)
            have hlt := HLT.out _ _ HYES.out
            have HL9 := Lib.hid (HYESX.out HYES.out)
            have HLQ := Lib.hid hlt
            clear hlt HYES HNOX HYESX HSTP
            go_upto_region 24 with fail
            obtain ⟨k9, x0, x1, x2, x3, x4, x5, x6, x7, x8, x9, x10, x11, s9, n9, qa, qb, qc, qd, hU9⟩ := good_open HGU.out
            obtain ⟨hb9, hhb9⟩ : ∃ hb9, hb9 = (x11 == 1) := ⟨_, rfl⟩
            have hU10 : sC U = ([.int .i64 k9, .int .i64 x0, .int .i64 x1, .int .i64 x2, .int .i64 x3, .int .i64 x4, .int .i64 x5, .int .i64 x6, .int .i64 x7, .int .i64 x8, .int .i64 x9, .int .i64 x10, .bool hb9, .string s9, .int .i64 n9, .int .i64 qa, .int .i64 qb, .int .i64 qc, .int .i64 qd] : List Value) := by rw [hU9, hhb9]; rfl
            have HP8L := HP8.out
            rw [hU10] at HP8L
            have hone2 := HONE.out
            rw [hU10] at hone2
            have HU10 := Lib.hid hU10
            clear hU9 hhb9 hU10
            have hal := below_alloc (Below.refl _ w8) (.cells #[.int .i64 k9, .int .i64 x0, .int .i64 x1, .int .i64 x2, .int .i64 x3, .int .i64 x4, .int .i64 x5, .int .i64 x6, .int .i64 x7, .int .i64 x8, .int .i64 x9, .int .i64 x10, .bool hb9, .string s9, .int .i64 n9, .int .i64 qa, .int .i64 qb, .int .i64 qc, .int .i64 qd] 29)
            obtain ⟨v', W9, hrun, hown, hgr, hnew, hbel⟩ := app_one eltS 22 (HO8.out.below hal) ([.int .i64 k9, .int .i64 x0, .int .i64 x1, .int .i64 x2, .int .i64 x3, .int .i64 x4, .int .i64 x5, .int .i64 x6, .int .i64 x7, .int .i64 x8, .int .i64 x9, .int .i64 x10, .bool hb9, .string s9, .int .i64 n9, .int .i64 qa, .int .i64 qb, .int .i64 qc, .int .i64 qd] : List Value) rfl (by simpa using hone2) (by rw [List.length_map]; have := HLEN.out; omega) (by decide) (Nat.le_trans HS8.out hal.size) (World.alloc_heap_new _ _)
            obtain ⟨a9, c9, rfl⟩ := hown.form
            have hlm : ((L.map sC) ++ [([.int .i64 k9, .int .i64 x0, .int .i64 x1, .int .i64 x2, .int .i64 x3, .int .i64 x4, .int .i64 x5, .int .i64 x6, .int .i64 x7, .int .i64 x8, .int .i64 x9, .int .i64 x10, .bool hb9, .string s9, .int .i64 n9, .int .i64 qa, .int .i64 qb, .int .i64 qc, .int .i64 qd] : List Value)]).length = (L ++ [U]).length := by simp
            rw [hlm] at hown hrun hnew
            obtain ⟨NN, hNN⟩ : ∃ NN, NN = (L ++ [U]).length := ⟨_, rfl⟩
            rw [← hNN] at hrun
            have HNN := Lib.hid hNN
            clear hNN
            have hCa := HC8.out.below hal
            have hC9 : Cur W9 C (fun j => w.heap.size ≤ j ∧ j < w1.heap.size) sq := Fr.cur hCa (Fr.of_under hbel) (fun j hj hj2 hj3 => by have h4 : w1.heap.size ≤ j := hj3; have h5 : w.heap.size ≤ j ∧ j < w1.heap.size := hj; omega)
            have HC10 := Lib.hid hC9
            have HO10 := Lib.hid (show OwnV 29 19 W9 w1.heap.size (.slice a9 (L ++ [U]).length c9) ((L ++ [U]).map sC) from by rw [List.map_append, show [U].map sC = [sC U] from rfl, HU10.out]; exact hown)
            have HS10 := Lib.hid (Nat.le_trans HS8.out (Nat.le_trans hal.size hbel.size))
            have HB10 := Lib.hid ((below_next HB8.out hal).trans (hbel.mono HBW.out))
            clear hal hgr hnew hbel hown hCa hC9 hlm
            refine wp_region_lit (WL.out ?_)
            refine WL.yield (w' := w8) (v := .slice la L.length lc) rfl (by first | (go_simp; done) | (go_simp; rfl)) ?_
            try go_simp
            refine WL.yield (w' := w8) (v := .agg ([.int .i64 k9, .int .i64 x0, .int .i64 x1, .int .i64 x2, .int .i64 x3, .int .i64 x4, .int .i64 x5, .int .i64 x6, .int .i64 x7, .int .i64 x8, .int .i64 x9, .int .i64 x10, .bool hb9, .string s9, .int .i64 n9, .int .i64 qa, .int .i64 qb, .int .i64 qc, .int .i64 qd] : List Value).toArray) rfl (exec_load_elt 29 _ rfl p 0 (by go_simp) ([.int .i64 k9, .int .i64 x0, .int .i64 x1, .int .i64 x2, .int .i64 x3, .int .i64 x4, .int .i64 x5, .int .i64 x6, .int .i64 x7, .int .i64 x8, .int .i64 x9, .int .i64 x10, .bool hb9, .string s9, .int .i64 n9, .int .i64 qa, .int .i64 qb, .int .i64 qc, .int .i64 qd] : List Value) _ (range_of_block HP8L) Tryd.underlying29 rfl info_step) ?_
            try go_simp
            refine WL.yield (w' := w8.alloc (.cells #[.int .i64 k9, .int .i64 x0, .int .i64 x1, .int .i64 x2, .int .i64 x3, .int .i64 x4, .int .i64 x5, .int .i64 x6, .int .i64 x7, .int .i64 x8, .int .i64 x9, .int .i64 x10, .bool hb9, .string s9, .int .i64 n9, .int .i64 qa, .int .i64 qb, .int .i64 qc, .int .i64 qd] 29)) (v := .slice (some ⟨w8.heap.size, 0, none⟩) 1 1) rfl (by first | (go_simp; done) | (go_simp; rfl)) ?_
            try go_simp
            refine WL.yield (w' := W9) (v := .slice a9 NN c9) rfl (Ap.exec_app rfl (by first | rfl | go_simp) (by first | rfl | go_simp) hrun) ?_
            try go_simp
            clear HP8 HC8 HO8 HS8 HB8 hrun HP8L hone2 HU10
            refine WL.yield (w' := W9) (v := .slice a9 NN c9) rfl (by go_simp) ?_
            refine WL.nil ?_
            go_simp
            go_wp2_with fail
            go_roundw
            case rel => exact ⟨sq, L ++ [U], q, a9, c9, by rw [HNN.out], rfl, HLQ.out.1, HLQ.out.2.1, HC10.out, HO10.out, HS10.out, HB10.out, by have := HLQ.out.2.2; have := HLEN.out; rw [List.length_append, List.length_singleton]; omega, by have := HLQ.out.2.2; have := HN.out; omega, HL9.out⟩
            case measure => have h1 := HNN.out; have := HLQ.out.2.2; have := HLEN.out; rw [List.length_append, List.length_singleton] at h1; simp [lenV]; omega
          | false =>
            refine WL.yield_w (w' := w8) (v := .bool true) (by kernel_rfl) (by first | (go_simp; done) | (go_simp; rfl)) ?_
            try go_simp
            refine WL.yield (w' := w8) (v := .bool true) rfl (by first | (go_simp; done) | (go_simp; rfl)) ?_
            refine WL.nil ?_
            go_simp
            have HQ := Lib.hid (HNOX.out (by rw [HSTP.out]; exact stepV_nor (by rw [← HRU.out]; decide)))
            have HFIN := Lib.hid (HEND.out w1.heap.size _ L (.returned (.tuple #[.slice la L.length lc, .int .i64 11])) w8 11 HQ.out HBW.out rfl HO8.out HB8.out)
            clear HNOX HYESX HSTP HP8 HC8 HO8 HS8 HB8 HEND
            go_wp2_with fail
            try go_ret2
            exact HFIN.out
        · have db : (bad != 0) = true := by simpa using hz
          have HQ := Lib.hid (HNOX.out (by rw [HSTP.out]; exact stepV_nob (by rw [← HBAD.out]; exact hz)))
          clear hz HNOX HYESX HSTP
          go_upto_region 22 with fail
          go_wp2_with fail
          refine KB.out.mono ?_
          rintro e w7 ⟨rfl, hb7⟩
          have HFIN := Lib.hid (HEND.out w1.heap.size _ L (.returned (.tuple #[.slice la L.length lc, .int .i64 11])) w7 11 HQ.out HBW.out rfl (HO9.out.below hb7) (below_next HB9.out hb7))
          clear hb7 HEND HC9 HP9 HS9 HB9 HO9 KB
          go_wp2_with fail
          try go_ret2
          exact HFIN.out
/-- Read at any bytes -/
theorem sread_any {w : World} {v : Value} {bs : List Int} (h : TxtAt w v bs) (hby : ∀ x ∈ bs, 0 ≤ x ∧ x ≤ 255) (hl : bs.length ≤ 1099511627775) (hE : ErrAt w) : Calls Tryd.prog 14 #[v] w fun e w' => SReadEnd w bs e w' := by
  by_cases hb : 65536 < bs.length
  · exact sread_big h hb hl
  · exact sread_some h hby (by omega) hE
end Go.Proofs.YtdfkfcpkejjlnaaDoor
namespace Go.Proofs.YtdfkfcpkejjlnaaDoor
set_option linter.unusedVariables false
open Go.ChangeShapes Go.WideShapes Go.ChangeAt Go.RowKit Cs Rv
attribute [local go_sem ↓] Go.wp_at_zero Go.wp_at_succ comesTo_value_eq comesTo_skip_eq comesTo_enter_eq

def rcL (st : CS) : List Value := [.string (strOfNums st.xs), .int .i64 st.bad]
theorem info_cur2 : (Tryd.prog.info? 71).map (·.size) = some 2 := by kernel_rfl
/-- what Read comes to -/
def DReadEnd (w : World) (bs : List Int) (e : Ending) (w' : World) : Prop :=
  ∃ lv, e = .returned (.tuple #[lv, .int .i64 (readS bs).2]) ∧ OwnV 35 18 w' w.heap.size lv ((readS bs).1.map (fun s => dC (ownS s))) ∧ Below w.heap.size w w'
/-- where the reading stands: the cursor, the step, the row -/
structure RS (w : World) (C p : Nat) (st : CS) (l : List Value) (lv : Value) (L : List SV) (W : World) : Prop where
  cur : W.heap[C]? = some (.cells (rcL st).toArray 71 (0, 0))
  stp : W.heap[p]? = some (.cells l.toArray 35 (0, 0))
  own : OwnV 35 18 W (C + 1) lv (L.map (fun s => dC (ownS s)))
  apart : ∀ g, lv.ownBlock = some g → g ≠ p
  bel : Below C w W
  lt : C < p
theorem RS.below {w : World} {C p : Nat} {st : CS} {l : List Value} {lv : Value} {L : List SV} {W W' : World} (h : RS w C p st l lv L W) (hb : Below W.heap.size W W') : RS w C p st l lv L W' :=
  ⟨(hb.block C (Array.getElem?_eq_some_iff.1 h.cur).1).trans h.cur, (hb.block p (Array.getElem?_eq_some_iff.1 h.stp).1).trans h.stp, h.own.below hb, h.apart, h.bel.trans (hb.mono (Nat.le_of_lt (Array.getElem?_eq_some_iff.1 h.cur).1)), h.lt⟩
theorem RS.turn {w : World} {C p : Nat} {st st' : CS} {l : List Value} {lv : Value} {L : List SV} {W W' : World} (h : RS w C p st l lv L W) (hw : WroteTo C 71 (rcL st').toArray W W') : RS w C p st' l lv L W' :=
  ⟨hw.there, (hw.rest p (by have := h.lt; omega)).trans h.stp, h.own.keep (fun g hg => hw.rest g (by have := (h.own.blk hg).1; omega)), h.apart, hw.below h.bel (Nat.le_refl _), h.lt⟩
theorem RS.set {w : World} {C p : Nat} {st : CS} {l l' : List Value} {lv : Value} {L : List SV} {W W' : World} (h : RS w C p st l lv L W) (hw : WroteTo p 35 l'.toArray W W') : RS w C p st l' lv L W' :=
  ⟨(hw.rest C (by have := h.lt; omega)).trans h.cur, hw.there, h.own.keep (fun g hg => hw.rest g (h.apart g hg)), h.apart, hw.below h.bel (Nat.le_of_lt h.lt), h.lt⟩
theorem RS.as {w : World} {C p : Nat} {st : CS} {l l' : List Value} {lv : Value} {L : List SV} {W : World} (h : RS w C p st l lv L W) (e : l = l') : RS w C p st l' lv L W := e ▸ h
theorem setAll_rc (st st' : CS) : setAll (rcL st).toArray 0 (rcL st') = (rcL st').toArray := setAll_full rfl
theorem WL_skip {P : Program} {ops : Array Oper} {rest : List Oper} {o : Oper} {a : Act} {w w' : World} {Q : Exit → Act → World → Prop} (hgd : o.guard = none) (h : (execOp a.eval o).run P w = .ok .skip w') (hr : WL P ops Q rest (a.put o.dst undef) w') : WL P ops Q (o :: rest) a w :=
  ⟨wpList_plain hgd fun K hK => by
    unfold Oper.wp
    rw [h]
    exact hK _ _ hr.out⟩
theorem dC_form (y : List Int) : dC ⟨0, y, eS, z4⟩ = .int .i64 0 :: (numC y ++ [.string eS, .int .i64 0, .int .i64 0, .int .i64 0, .int .i64 0]) := by simp [dC, z4]
theorem dC_set0 {y : List Int} (h : y.length = 12) : setAll (dC ⟨0, z12, eS, z4⟩).toArray 1 (numC y) = (dC ⟨0, y, eS, z4⟩).toArray := by
  have hy := numC_len y
  rw [h] at hy
  have hz : (numC z12).length = 12 := rfl
  rw [dC_form, dC_form]
  generalize numC y = m at *
  generalize numC z12 = z at *
  apply Array.ext_getElem?
  intro i
  rw [setAll_get]
  rcases i with _ | i
  · simp
  · by_cases hi : i < 12
    · rw [if_pos (by simp; omega)]
      simp only [List.getElem?_toArray, List.getElem?_cons_succ]
      rw [List.getElem?_append_left (by omega), show i + 1 - 1 = i by omega]
    · rw [if_neg (by simp; omega)]
      simp only [List.getElem?_toArray, List.getElem?_cons_succ]
      rw [List.getElem?_append_right (by omega), List.getElem?_append_right (by omega), hy, hz]
theorem numC_ones (x : List Int) : (numC x).all (·.oneCell') = true := by unfold numC; simp [Value.oneCell']
theorem own0 (y : List Int) : dC (ownS ⟨0, y, eS, 0, z4⟩) = dC ⟨0, y, eS, z4⟩ := rfl
theorem info_dstepW : (Tryd.prog.info? 35).map (fun i => (i.zero, i.size, i.bytes)) = some (some (.agg #[.int .i64 0, .int .i64 0, .int .i64 0, .int .i64 0, .int .i64 0, .int .i64 0, .int .i64 0, .int .i64 0, .int .i64 0, .int .i64 0, .int .i64 0, .int .i64 0, .int .i64 0, .string ⟨#[]⟩, .int .i64 0, .int .i64 0, .int .i64 0, .int .i64 0]), 18, 152) := by kernel_rfl
theorem zd_size : (Value.agg #[.int .i64 0, .int .i64 0, .int .i64 0, .int .i64 0, .int .i64 0, .int .i64 0, .int .i64 0, .int .i64 0, .int .i64 0, .int .i64 0, .int .i64 0, .int .i64 0, .int .i64 0, .string ⟨#[]⟩, .int .i64 0, .int .i64 0, .int .i64 0, .int .i64 0]).cells.size = 18 := by kernel_rfl
theorem eltDS_info : ∃ (i : TypeInfo) (z : Value), Tryd.prog.info? 35 = some i ∧ i.zero = some z ∧ i.size = 18 ∧ i.bytes = 152 ∧ z.cells.size = 18 := by
  obtain ⟨i, h1, h2, h3, h4⟩ := info_partsV info_dstepW
  exact ⟨i, _, h1, h2, h3, h4, zd_size⟩
theorem eltDS : Ap.Elt Tryd.prog 23 35 18 152 where
  ul := Tryd.underlying23
  info := eltDS_info
  pos := Nat.succ_pos _
theorem str_full {xs : List Int} (h : xs ≠ []) : (strOfNums xs).toList.isEmpty = false := by
  have h1 := size_str xs
  rw [Go.ByteArray.toList_eq]
  have h2 : (strOfNums xs).data.toList.length = xs.length := by rw [Array.length_toList]; exact h1
  cases hl : (strOfNums xs).data.toList with
  | nil => rw [hl] at h2; exact absurd (List.eq_nil_of_length_eq_zero h2.symm) h
  | cons _ _ => rfl
set_option maxRecDepth 100000 in
set_option maxHeartbeats 2000000 in
theorem dread_big {w : World} {bs : List Int} (hl : 65536 < bs.length) : Calls Tryd.prog 15 #[.string (strOfNums bs)] w fun e w' => DReadEnd w bs e w' := by
  have HE := Lib.hid (show ∀ e w', e = .returned (.tuple #[.slice none 0 0, .int .i64 3]) → w' = w → DReadEnd w bs e w' from fun e w' he hw => ⟨.slice none 0 0, by rw [readS_big' hl]; exact he, by rw [readS_big' hl]; exact OwnV.nil, by rw [hw]; exact Below.refl _ _⟩)
  have hz : (strOfNums bs).size = bs.length := size_str bs
  generalize strOfNums bs = s at *
  obtain ⟨n, hn⟩ : ∃ n, n = s.size := ⟨_, rfl⟩
  have d1 : decide ((s.size : Int) > 65536) = true := decide_eq_true (by omega)
  have d2 : decide ((65536 : Int) < (s.size : Int)) = true := decide_eq_true (by omega)
  have d3 : decide (65536 < s.size) = true := decide_eq_true (by omega)
  clear hn hl hz
  generalize DReadEnd w bs = PE at *
  go_enter Tryd.func15, Tryd.ntmps15
  go_wp2_with fail
  try go_ret2
  exact HE.out _ _ rfl rfl
set_option maxRecDepth 100000 in
set_option maxHeartbeats 8000000 in
theorem dread_some {w : World} {bs : List Int} (hby : ∀ x ∈ bs, 0 ≤ x ∧ x ≤ 255) (hl : bs.length ≤ 65536) : Calls Tryd.prog 15 #[.string (strOfNums bs)] w fun e w' => DReadEnd w bs e w' := by
  have HEND := Lib.hid (show ∀ (B : Nat) (lv : Value) (L : List SV) (e : Ending) (w' : World) (code : Int), readS bs = (L, code) → w.heap.size ≤ B → e = .returned (.tuple #[lv, .int .i64 code]) → OwnV 35 18 w' B lv (L.map (fun s => dC (ownS s))) → Below w.heap.size w w' → DReadEnd w bs e w' from fun B lv L e w' code hr hB he ho hb => ⟨lv, by rw [hr]; exact he, by rw [hr]; exact ho.lower hB, hb⟩)
  have HR0 := Lib.hid (show readS bs = rdS (bs.length + 1) ⟨bs, 0⟩ [] from by unfold readS; rw [if_neg (by omega)])
  have HBY := Lib.hid hby
  have HL := Lib.hid hl
  have hz : (strOfNums bs).size = bs.length := size_str bs
  obtain ⟨sv, hsv⟩ : ∃ s, s = strOfNums bs := ⟨_, rfl⟩
  rw [← hsv] at hz ⊢
  have d1 : decide ((sv.size : Int) > 65536) = false := decide_eq_false (by omega)
  have d2 : decide ((65536 : Int) < (sv.size : Int)) = false := decide_eq_false (by omega)
  have d3 : decide (65536 < sv.size) = false := decide_eq_false (by omega)
  have hb1 := below_alloc (Below.refl _ w) (.cells #[.string sv, .int .i64 0] 71)
  have HC1 := Lib.hid (show (w.alloc (.cells #[.string sv, .int .i64 0] 71)).heap[w.heap.size]? = some (.cells (rcL ⟨bs, 0⟩).toArray 71 (0, 0)) from by rw [World.alloc_heap_new w _, hsv]; rfl)
  have HB1 := Lib.hid hb1
  clear hsv hl hby hz hb1
  generalize DReadEnd w bs = PE at *
  obtain ⟨C, hC⟩ : ∃ C, C = w.heap.size := ⟨_, rfl⟩
  have HCW := Lib.hid hC
  clear hC
  go_enter Tryd.func15, Tryd.ntmps15
  go_upto_region 5 with fail
  clear d1 d2 d3
  generalize w.alloc (.cells #[.string sv, .int .i64 0] 71) = w1 at *
  rw [← HCW.out] at HC1 HB1 HEND ⊢
  go_wp2_with fail
  go_loopw [4] (fun lv wr => ∃ (st : CS) (L : List SV) (n : Nat) (la : Option Addr) (lc : Nat), lv = .slice la L.length lc ∧ st.bad = 0 ∧ By st ∧ wr.heap[C]? = some (.cells (rcL st).toArray 71 (0, 0)) ∧ OwnV 35 18 wr (C + 1) (.slice la L.length lc) (L.map (fun s => dC (ownS s))) ∧ Below C w wr ∧ L.length + st.xs.length ≤ 65536 ∧ st.xs.length < n ∧ readS bs = rdS n st L) (fun lv _ => 65536 - lenV lv)
  case atStart => exact ⟨⟨bs, 0⟩, [], bs.length + 1, _, _, rfl, rfl, HBY.out, HC1.out, OwnV.nil, HB1.out, by have := HL.out; simp; omega, Nat.lt_succ_self _, HR0.out⟩
  case round =>
    obtain ⟨st, L, n, la, lc, rfl, hb0, hby, hc, ho, hb, hlen, hn, hr⟩ := hrel
    have HBY1 := Lib.hid hby
    have HC := Lib.hid hc
    have HO := Lib.hid ho
    have HB := Lib.hid hb
    have HLEN := Lib.hid hlen
    have HN := Lib.hid hn
    have HR := Lib.hid hr
    have HB0 := Lib.hid hb0
    clear hby hc ho hb hlen hn hr hb0 HC1 HB1 HR0
    obtain ⟨sx, hsx⟩ : ∃ s, s = strOfNums st.xs := ⟨_, rfl⟩
    have cs0 : wr.cell? ⟨C, 0, none⟩ = some (.string sx) := by rw [hsx]; exact cell_at HC.out rfl
    by_cases hx : st.xs = []
    · have hsq : sx = ⟨#[]⟩ := by rw [hsx, hx]; rfl
      have HQ := Lib.hid (show readS bs = (L, 0) from by obtain ⟨n', rfl⟩ : ∃ n', n = n' + 1 := ⟨n - 1, by have := HN.out; omega⟩; rw [HR.out, rdS_end hx])
      have HFIN := Lib.hid (HEND.out (C + 1) _ L (.returned (.tuple #[.slice la L.length lc, .int .i64 0])) wr 0 HQ.out (Nat.le_succ _) rfl HO.out HB.out)
      clear hx HEND hsx
      subst hsq
      go_wp2_with fail
      try go_ret2
      exact HFIN.out
    · have dq3 : sx.toList.isEmpty = false := by rw [hsx]; exact str_full hx
      obtain ⟨q, rfl⟩ : ∃ n', n = n' + 1 := ⟨n - 1, by have := HN.out; omega⟩
      obtain ⟨s1, k, e1⟩ : ∃ s v, smallF st 5 = (s, v) := ⟨_, _, rfl⟩
      have hk := smallF_in (st := st) (most := 5) (by decide)
      rw [e1] at hk
      dsimp only at hk
      have HST := Lib.hid (show stepF st = if k = 0 then (if readB (textF s1).2 = true then stepV (textF s1).1 ⟨0, gotC (textF s1).2, eS, 0, z4⟩ else none) else if k = 1 then stepV (textF s1).1 ⟨1, z12, strOfNums (textF s1).2, 0, z4⟩ else if k = 2 then stepV (intF s1).1 ⟨2, z12, eS, (intF s1).2, z4⟩ else if k = 3 then stepV (readA 4 s1).1 ⟨3, z12, eS, 0, (readA 4 s1).2⟩ else stepV s1 ⟨k, z12, eS, 0, z4⟩ from by unfold stepF; rw [e1])
      have HLT := Lib.hid (show ∀ s' u, stepF st = some (s', u) → s'.bad = 0 ∧ By s' ∧ s'.xs.length < st.xs.length from fun s' u h => stepF_lt HBY1.out h)
      have HBS := Lib.hid (show By s1 from by have := smallF_by HBY1.out 5; rw [e1] at this; exact this)
      have HSL := Lib.hid (show s1.xs.length ≤ 65536 from by have h1 := (smallF_suffix st 5).length_le; rw [e1] at h1; have := HLEN.out; dsimp only at h1; omega)
      have HR1 := Lib.hid (show readS bs = contS q L (stepF st) from by rw [HR.out, rdS_step hx])
      have KS := Lib.hid (show ∀ W, Calls Tryd.prog 36 #[.agg (rcL st).toArray, .int .i64 5] W fun e w' => e = .returned (.tuple #[.agg (rcL s1).toArray, .int .i64 k]) ∧ Below W.heap.size W w' from fun W => by have := rsmall_any st HBY1.out (by have := HLEN.out; omega) 5 W; rw [e1] at this; exact this)
      clear e1 hx HR HBY1 hsx
      go_upto_region 6 with fail
      clear cs0 dq3
      refine wp_region_lit (WL.out ?_)
      refine WL.yield (w' := wr) (v := .agg #[.int .i64 0, .int .i64 0, .int .i64 0, .int .i64 0, .int .i64 0, .int .i64 0, .int .i64 0, .int .i64 0, .int .i64 0, .int .i64 0, .int .i64 0, .int .i64 0, .int .i64 0, .string ⟨#[]⟩, .int .i64 0, .int .i64 0, .int .i64 0, .int .i64 0]) rfl (by first | (go_simp; done) | (go_simp; rfl)) ?_
      try go_simp
      refine WL.yield (w' := wr.alloc (.cells #[.int .i64 0, .int .i64 0, .int .i64 0, .int .i64 0, .int .i64 0, .int .i64 0, .int .i64 0, .int .i64 0, .int .i64 0, .int .i64 0, .int .i64 0, .int .i64 0, .int .i64 0, .string ⟨#[]⟩, .int .i64 0, .int .i64 0, .int .i64 0, .int .i64 0] 35)) (v := .pointer (some ⟨wr.heap.size, 0, none⟩)) rfl (by first | (go_simp; done) | (go_simp; rfl)) ?_
      try go_simp
      refine WL_store_part rfl 35 _ _ rfl wr.heap.size 0 ([.int .i64 0, .int .i64 0, .int .i64 0, .int .i64 0, .int .i64 0, .int .i64 0, .int .i64 0, .int .i64 0, .int .i64 0, .int .i64 0, .int .i64 0, .int .i64 0, .int .i64 0, .string ⟨#[]⟩, .int .i64 0, .int .i64 0, .int .i64 0, .int .i64 0] : List Value) (by go_simp) (by go_simp) (World.alloc_heap_new _ _) (by decide) (by exact info_dstep) rfl ?_
      intro V hV
      have hbV := hV.below (below_alloc (Below.refl _ wr) _) (Nat.le_refl _)
      have HS := Lib.hid (show RS w C wr.heap.size st ([.int .i64 0, .int .i64 0, .int .i64 0, .int .i64 0, .int .i64 0, .int .i64 0, .int .i64 0, .int .i64 0, .int .i64 0, .int .i64 0, .int .i64 0, .int .i64 0, .int .i64 0, .string ⟨#[]⟩, .int .i64 0, .int .i64 0, .int .i64 0, .int .i64 0] : List Value) (.slice la L.length lc) L V from ⟨(hbV.block C (Array.getElem?_eq_some_iff.1 HC.out).1).trans HC.out, hV.there, HO.out.below hbV, fun g hg => by have := (HO.out.blk hg).2.1; omega, HB.out.trans (hbV.mono (Nat.le_of_lt (Array.getElem?_eq_some_iff.1 HC.out).1)), (Array.getElem?_eq_some_iff.1 HC.out).1⟩)
      clear hV hbV HC HO HB
      refine WL.nil ?_
      generalize wr.heap.size = p at *
      go_simp
      go_upto_region 9 with fail
      refine wp_region_lit (WL.out ?_)
      refine WL.yield (w' := V) (v := .agg (rcL st).toArray) rfl (exec_load_elt 71 _ rfl C 0 (by go_simp) (rcL st) _ (range_of_block HS.out.cur) Tryd.underlying71 rfl info_cur2) ?_
      try go_simp
      refine WL.enter rfl (by go_simp) (KS.out V) ?_
      rintro e w2 ⟨rfl, hb2⟩
      refine ⟨_, rfl, ?_⟩
      have HS2 := Lib.hid (HS.out.below hb2)
      clear hb2 HS KS
      try go_simp
      refine WL.yield (w' := w2) (v := .tuple #[.agg (rcL s1).toArray, .int .i64 k]) rfl (by go_simp) ?_
      try go_simp
      refine WL.yield (w' := w2) (v := .agg (rcL s1).toArray) rfl (by go_simp) ?_
      try go_simp
      refine WL.yield (w' := w2) (v := .int .i64 k) rfl (by go_simp) ?_
      try go_simp
      refine WL_store_part rfl 71 _ _ rfl C 0 (rcL s1) (by go_simp) (by go_simp) HS2.out.cur (Nat.le_refl _) info_cur2 rfl ?_
      intro w3 h3
      rw [setAll_rc] at h3
      have HS3 := Lib.hid (HS2.out.turn h3)
      clear h3 HS2
      try go_simp
      refine WL.yield (w' := w3) (v := .pointer (some ⟨p, 0, none⟩)) rfl (by first | (go_simp; done) | (go_simp; rfl)) ?_
      try go_simp
      have c0 : w3.cell? ⟨p, 0, none⟩ = some (.int .i64 0) := cell_at HS3.out.stp rfl
      have fz := free_of_block 0 HS3.out.stp
      refine WL_skip (w' := w3.setCell ⟨p, 0, none⟩ (.int .i64 k)) rfl (by first | (go_simp; done) | (go_simp; rfl)) ?_
      have h4 := (wrote_refl HS3.out.stp).set 0 (.int .i64 k)
      have HS4 := Lib.hid (HS3.out.set (l' := ([.int .i64 k, .int .i64 0, .int .i64 0, .int .i64 0, .int .i64 0, .int .i64 0, .int .i64 0, .int .i64 0, .int .i64 0, .int .i64 0, .int .i64 0, .int .i64 0, .int .i64 0, .string ⟨#[]⟩, .int .i64 0, .int .i64 0, .int .i64 0, .int .i64 0] : List Value)) h4)
      clear h4 c0 fz HS3
      generalize w3.setCell ⟨p, 0, none⟩ (.int .i64 k) = w4 at *
      refine WL.nil ?_
      go_simp
      have c0 : w4.cell? ⟨p, 0, none⟩ = some (.int .i64 k) := cell_at HS4.out.stp rfl
      go_upto_block 2 with fail
      clear c0
      go_cut [8] (fun ev W => ∃ (U : SV) (sq : CS) (e : Int), ev = .int .i64 e ∧ (e = 0 ∨ e = 11) ∧ stepF st = (if e = 0 then stepV sq U else none) ∧ GoodS U ∧ RS w C p sq (dC (ownS U)) (.slice la L.length lc) L W)
      case first =>
        rcases (by omega : k = 0 ∨ k = 1 ∨ k = 2 ∨ k = 3 ∨ k = 4 ∨ k = 5) with rfl | rfl | rfl | rfl | rfl | rfl
        · as_aux_lemma =>
            clear hk
            rw [if_pos rfl] at HST
            have c0 : w4.cell? ⟨p, 0, none⟩ = some (.int .i64 0) := cell_at HS4.out.stp rfl
            have HTM := Lib.hid (textF_mem HBS.out)
            have KT := Lib.hid (show ∀ W, Calls Tryd.prog 37 #[.agg (rcL s1).toArray] W fun e w' => e = .returned (.tuple #[.agg (rcL (textF s1).1).toArray, .string (strOfNums (textF s1).2)]) ∧ Below W.heap.size W w' from fun W => rtext_any s1 HBS.out (by have := HSL.out; omega) W)
            have HTL := Lib.hid (textF_len HBS.out)
            obtain ⟨s2, tx, e2⟩ : ∃ s t, textF s1 = (s, t) := ⟨_, _, rfl⟩
            rw [e2] at KT HST HTM HTL
            dsimp only at HST HTM KT HTL
            clear e2
            have KC := Lib.hid (fun W => rread_any tx HTM.out (by have := HTL.out; have := HSL.out; omega) W)
            have HCG := Lib.hid (cmd_got HTM.out)
            have HG0 := Lib.hid (good0 HTM.out)
            have HS0 := Lib.hid (dC_set0 HCG.out.len)
            have HCODE := Lib.hid (show (readB tx = false → codeC tx = 11) ∧ (readB tx = true → codeC tx = 0) from ⟨codeC_no, codeC_yes⟩)
            have HYL := Lib.hid (show (numC (gotC tx)).length = 12 from by rw [numC_len]; exact HCG.out.len)
            have HY1 := Lib.hid (numC_ones (gotC tx))
            clear HCG
            generalize gotC tx = gx at *
            have HXE := Lib.hid (show ∃ y, y = numC gx from ⟨_, rfl⟩)
            obtain ⟨xc, hxc⟩ := HXE.out
            rw [← hxc] at KC HS0 HYL HY1
            clear HXE
            have HXC := Lib.hid hxc
            clear hxc
            generalize codeC tx = cd at *
            obtain ⟨tv, htv⟩ : ∃ t, t = strOfNums tx := ⟨_, rfl⟩
            rw [← htv] at KC KT
            clear htv
            go_upto_region 12 with fail
            clear c0
            refine wp_region_lit (WL.out ?_)
            refine WL.yield (w' := w4) (v := .agg (rcL s1).toArray) rfl (exec_load_elt 71 _ rfl C 0 (by go_simp) (rcL s1) _ (range_of_block HS4.out.cur) Tryd.underlying71 rfl info_cur2) ?_
            try go_simp
            refine WL.enter rfl (by go_simp) (KT.out w4) ?_
            rintro e wa ⟨rfl, hba⟩
            refine ⟨_, rfl, ?_⟩
            have HSa := Lib.hid (HS4.out.below hba)
            clear hba HS4
            try go_simp
            refine WL.yield (w' := wa) (v := .tuple #[.agg (rcL s2).toArray, .string tv]) rfl (by go_simp) ?_
            try go_simp
            refine WL.yield (w' := wa) (v := .agg (rcL s2).toArray) rfl (by go_simp) ?_
            try go_simp
            refine WL.yield (w' := wa) (v := .string tv) rfl (by go_simp) ?_
            try go_simp
            refine WL_store_part rfl 71 _ _ rfl C 0 (rcL s2) (by go_simp) (by go_simp) HSa.out.cur (Nat.le_refl _) info_cur2 rfl ?_
            intro w5 hn
            rw [setAll_rc] at hn
            have HS5 := Lib.hid (HSa.out.turn hn)
            clear hn HSa
            try go_simp
            refine WL.yield (w' := w5) (v := .string tv) rfl (by go_simp) ?_
            refine WL.nil ?_
            go_simp
            go_upto_region 13 with fail
            refine wp_region_lit (WL.out ?_)
            refine WL.yield (w' := w5) (v := .string tv) rfl (by go_simp) ?_
            try go_simp
            refine WL.enter rfl (by go_simp) (KC.out w5) ?_
            rintro e w6 ⟨rfl, hb6⟩
            refine ⟨_, rfl, ?_⟩
            have HS6 := Lib.hid (HS5.out.below hb6)
            clear hb6 HS5
            try go_simp
            refine WL.yield (w' := w6) (v := .tuple #[.agg xc.toArray, .int .i64 cd]) rfl (by go_simp) ?_
            try go_simp
            refine WL.yield (w' := w6) (v := .agg xc.toArray) rfl (by go_simp) ?_
            try go_simp
            refine WL.yield (w' := w6) (v := .int .i64 cd) rfl (by go_simp) ?_
            try go_simp
            refine WL.yield (w' := w6) (v := .pointer (some ⟨p, 1, none⟩)) rfl (by first | (go_simp; done) | (go_simp; rfl)) ?_
            try go_simp
            refine WL_store_part rfl 32 _ _ rfl p 1 xc (by go_simp) (by go_simp) HS6.out.stp (by rw [HYL.out]; decide) (by rw [HYL.out]; exact info_dcmd) HY1.out ?_
            intro w7 h7
            have h7' : WroteTo p 35 (dC ⟨0, gx, eS, z4⟩).toArray w6 w7 := by rw [← HS0.out]; exact h7
            have HS7 := Lib.hid (HS6.out.set h7')
            clear h7 h7' HS6
            try go_simp
            refine WL.yield (w' := w7) (v := .int .i64 cd) rfl (by go_simp) ?_
            refine WL.nil ?_
            go_simp
            cases hrb : readB tx with
            | false =>
              have hcode : cd = 11 := HCODE.out.1 hrb
              have HQ := Lib.hid (show stepF st = (if (11 : Int) = 0 then stepV s2 ⟨0, gx, eS, 0, z4⟩ else none) from by rw [HST.out, hrb]; rfl)
              subst hcode
              clear hrb HST HR1
              go_wp2_with fail
              go_meet
              exact ⟨⟨0, gx, eS, 0, z4⟩, s2, 11, rfl, .inr rfl, HQ.out, HG0.out, HS7.out.as rfl⟩
            | true =>
              have hcode : cd = 0 := HCODE.out.2 hrb
              have HQ := Lib.hid (show stepF st = (if (0 : Int) = 0 then stepV s2 ⟨0, gx, eS, 0, z4⟩ else none) from by rw [HST.out, hrb, if_pos rfl, if_pos rfl])
              subst hcode
              clear hrb HST HR1
              go_wp2_with fail
              go_meet
              exact ⟨⟨0, gx, eS, 0, z4⟩, s2, 0, rfl, .inl rfl, HQ.out, HG0.out, HS7.out.as rfl⟩
        · as_aux_lemma =>
            clear hk
            rw [if_neg (by decide), if_pos rfl] at HST
            have c0 : w4.cell? ⟨p, 0, none⟩ = some (.int .i64 1) := cell_at HS4.out.stp rfl
            have HTM := Lib.hid (textF_mem HBS.out)
            have KT := Lib.hid (show ∀ W, Calls Tryd.prog 37 #[.agg (rcL s1).toArray] W fun e w' => e = .returned (.tuple #[.agg (rcL (textF s1).1).toArray, .string (strOfNums (textF s1).2)]) ∧ Below W.heap.size W w' from fun W => rtext_any s1 HBS.out (by have := HSL.out; omega) W)
            have HTL := Lib.hid (textF_len HBS.out)
            obtain ⟨s2, tx, e2⟩ : ∃ s t, textF s1 = (s, t) := ⟨_, _, rfl⟩
            rw [e2] at KT HST HTM HTL
            dsimp only at HST HTM KT HTL
            clear e2
            generalize strOfNums tx = tv at *
            go_upto_region 15 with fail
            clear c0
            refine wp_region_lit (WL.out ?_)
            refine WL.yield (w' := w4) (v := .agg (rcL s1).toArray) rfl (exec_load_elt 71 _ rfl C 0 (by go_simp) (rcL s1) _ (range_of_block HS4.out.cur) Tryd.underlying71 rfl info_cur2) ?_
            try go_simp
            refine WL.enter rfl (by go_simp) (KT.out w4) ?_
            rintro e wa ⟨rfl, hba⟩
            refine ⟨_, rfl, ?_⟩
            have HSa := Lib.hid (HS4.out.below hba)
            clear hba HS4
            try go_simp
            refine WL.yield (w' := wa) (v := .tuple #[.agg (rcL s2).toArray, .string tv]) rfl (by go_simp) ?_
            try go_simp
            refine WL.yield (w' := wa) (v := .agg (rcL s2).toArray) rfl (by go_simp) ?_
            try go_simp
            refine WL.yield (w' := wa) (v := .string tv) rfl (by go_simp) ?_
            try go_simp
            refine WL_store_part rfl 71 _ _ rfl C 0 (rcL s2) (by go_simp) (by go_simp) HSa.out.cur (Nat.le_refl _) info_cur2 rfl ?_
            intro w5 hn
            rw [setAll_rc] at hn
            have HS5 := Lib.hid (HSa.out.turn hn)
            clear hn HSa
            try go_simp
            refine WL.yield (w' := w5) (v := .pointer (some ⟨p, 13, none⟩)) rfl (by first | (go_simp; done) | (go_simp; rfl)) ?_
            try go_simp
            have cz : w5.cell? ⟨p, 13, none⟩ = some (.string ⟨#[]⟩) := cell_at HS5.out.stp rfl
            have fz := free_of_block 13 HS5.out.stp
            refine WL_skip (w' := w5.setCell ⟨p, 13, none⟩ (.string tv)) rfl (by first | (go_simp; done) | (go_simp; rfl)) ?_
            have hn := (wrote_refl HS5.out.stp).set 13 (.string tv)
            have HS6 := Lib.hid (HS5.out.set (l' := ([.int .i64 1, .int .i64 0, .int .i64 0, .int .i64 0, .int .i64 0, .int .i64 0, .int .i64 0, .int .i64 0, .int .i64 0, .int .i64 0, .int .i64 0, .int .i64 0, .int .i64 0, .string tv, .int .i64 0, .int .i64 0, .int .i64 0, .int .i64 0] : List Value)) hn)
            clear hn cz fz HS5
            generalize w5.setCell ⟨p, 13, none⟩ (.string tv) = w6 at *
            refine WL.nil ?_
            go_simp
            go_wp2_with fail
            go_meet
            exact ⟨⟨1, z12, tv, 0, z4⟩, s2, 0, rfl, .inl rfl, (by rw [HST.out]; rfl), good1 tv, HS6.out.as rfl⟩
        · as_aux_lemma =>
            clear hk
            rw [if_neg (by decide), if_neg (by decide), if_pos rfl] at HST
            have c0 : w4.cell? ⟨p, 0, none⟩ = some (.int .i64 2) := cell_at HS4.out.stp rfl
            have HTM := Lib.hid (i64_in HBS.out)
            have KT := Lib.hid (show ∀ W, Calls Tryd.prog 39 #[.agg (rcL s1).toArray] W fun e w' => e = .returned (.tuple #[.agg (rcL (intF s1).1).toArray, .int .i64 (intF s1).2]) ∧ Below W.heap.size W w' from fun W => rint_any s1 HBS.out (by have := HSL.out; omega) W)
            obtain ⟨s2, tv, e2⟩ : ∃ s t, intF s1 = (s, t) := ⟨_, _, rfl⟩
            rw [e2] at KT HST HTM
            dsimp only at HST HTM KT
            clear e2
            go_upto_region 17 with fail
            clear c0
            refine wp_region_lit (WL.out ?_)
            refine WL.yield (w' := w4) (v := .agg (rcL s1).toArray) rfl (exec_load_elt 71 _ rfl C 0 (by go_simp) (rcL s1) _ (range_of_block HS4.out.cur) Tryd.underlying71 rfl info_cur2) ?_
            try go_simp
            refine WL.enter rfl (by go_simp) (KT.out w4) ?_
            rintro e wa ⟨rfl, hba⟩
            refine ⟨_, rfl, ?_⟩
            have HSa := Lib.hid (HS4.out.below hba)
            clear hba HS4
            try go_simp
            refine WL.yield (w' := wa) (v := .tuple #[.agg (rcL s2).toArray, .int .i64 tv]) rfl (by go_simp) ?_
            try go_simp
            refine WL.yield (w' := wa) (v := .agg (rcL s2).toArray) rfl (by go_simp) ?_
            try go_simp
            refine WL.yield (w' := wa) (v := .int .i64 tv) rfl (by go_simp) ?_
            try go_simp
            refine WL_store_part rfl 71 _ _ rfl C 0 (rcL s2) (by go_simp) (by go_simp) HSa.out.cur (Nat.le_refl _) info_cur2 rfl ?_
            intro w5 hn
            rw [setAll_rc] at hn
            have HS5 := Lib.hid (HSa.out.turn hn)
            clear hn HSa
            try go_simp
            refine WL.yield (w' := w5) (v := .pointer (some ⟨p, 14, none⟩)) rfl (by first | (go_simp; done) | (go_simp; rfl)) ?_
            try go_simp
            refine WL.yield (w' := w5) (v := .pointer (some ⟨p, 14, none⟩)) rfl (by first | (go_simp; done) | (go_simp; rfl)) ?_
            try go_simp
            have cz : w5.cell? ⟨p, 14, none⟩ = some (.int .i64 0) := cell_at HS5.out.stp rfl
            have fz := free_of_block 14 HS5.out.stp
            refine WL_skip (w' := w5.setCell ⟨p, 14, none⟩ (.int .i64 tv)) rfl (by first | (go_simp; done) | (go_simp; rfl)) ?_
            have hn := (wrote_refl HS5.out.stp).set 14 (.int .i64 tv)
            have HS6 := Lib.hid (HS5.out.set (l' := ([.int .i64 2, .int .i64 0, .int .i64 0, .int .i64 0, .int .i64 0, .int .i64 0, .int .i64 0, .int .i64 0, .int .i64 0, .int .i64 0, .int .i64 0, .int .i64 0, .int .i64 0, .string ⟨#[]⟩, .int .i64 tv, .int .i64 0, .int .i64 0, .int .i64 0] : List Value)) hn)
            clear hn cz fz HS5
            generalize w5.setCell ⟨p, 14, none⟩ (.int .i64 tv) = w6 at *
            refine WL.nil ?_
            go_simp
            go_wp2_with fail
            go_meet
            exact ⟨⟨2, z12, eS, tv, z4⟩, s2, 0, rfl, .inl rfl, (by rw [HST.out]; rfl), good2 HTM.out, HS6.out.as rfl⟩
        · as_aux_lemma =>
            clear hk
            rw [if_neg (by decide), if_neg (by decide), if_neg (by decide), if_pos rfl] at HST
            have c0 : w4.cell? ⟨p, 0, none⟩ = some (.int .i64 3) := cell_at HS4.out.stp rfl
            have HKI := Lib.hid (show ∀ (s : CS), By s → s.xs.length ≤ 65536 → ∀ W, Calls Tryd.prog 39 #[.agg (rcL s).toArray] W fun e w' => e = .returned (.tuple #[.agg (rcL (intF s).1).toArray, .int .i64 (intF s).2]) ∧ Below W.heap.size W w' from fun s hs hl W => rint_any s hs (by omega) W)
            have hsl := HSL.out
            obtain ⟨sa, qa, ea⟩ : ∃ s t, intF s1 = (s, t) := ⟨_, _, rfl⟩
            obtain ⟨sb, qb, eb⟩ : ∃ s t, intF sa = (s, t) := ⟨_, _, rfl⟩
            obtain ⟨sc, qc, ec⟩ : ∃ s t, intF sb = (s, t) := ⟨_, _, rfl⟩
            obtain ⟨sd, qd, ed⟩ : ∃ s t, intF sc = (s, t) := ⟨_, _, rfl⟩
            rw [readA4 ea eb ec ed] at HST
            have HGQ := Lib.hid (show ∀ y ∈ [qa, qb, qc, qd], i64S y from by have h1 := readA_i64 4 HBS.out; rw [readA4 ea eb ec ed] at h1; exact h1)
            dsimp only at HST
            have ba : By sa := by have := intF_by HBS.out; rw [ea] at this; exact this
            have bb : By sb := by have := intF_by ba; rw [eb] at this; exact this
            have bc : By sc := by have := intF_by bb; rw [ec] at this; exact this
            have la1 : sa.xs.length ≤ 65536 := by have := (intF_suffix s1).length_le; rw [ea] at this; dsimp only at this; omega
            have lb1 : sb.xs.length ≤ 65536 := by have := (intF_suffix sa).length_le; rw [eb] at this; dsimp only at this; omega
            have lc1 : sc.xs.length ≤ 65536 := by have := (intF_suffix sb).length_le; rw [ec] at this; dsimp only at this; omega
            have K0 := Lib.hid (HKI.out s1 HBS.out hsl)
            have K1 := Lib.hid (HKI.out sa ba la1)
            have K2 := Lib.hid (HKI.out sb bb lb1)
            have K3 := Lib.hid (HKI.out sc bc lc1)
            rw [ea] at K0
            rw [eb] at K1
            rw [ec] at K2
            rw [ed] at K3
            dsimp only at K0 K1 K2 K3
            clear ea eb ec ed ba bb bc la1 lb1 lc1 HKI hsl
            go_wp2_with fail
            clear c0
            go_loopw [9] (fun i W => ∃ m : Nat, m ≤ 4 ∧ i = .int .i64 m ∧ RS w C p ([s1, sa, sb, sc, sd].getD m s1) (dC ⟨3, z12, eS, [if 0 < m then qa else 0, if 1 < m then qb else 0, if 2 < m then qc else 0, if 3 < m then qd else 0]⟩) (.slice la L.length lc) L W) (fun i _ => 4 - (intOf i).toNat)
            case atStart => exact ⟨0, Nat.zero_le _, rfl, HS4.out⟩
            case round =>
              obtain ⟨m, hm, rfl, hs⟩ := hrel
              clear HS4
              rcases (by omega : m = 0 ∨ m = 1 ∨ m = 2 ∨ m = 3 ∨ m = 4) with rfl | rfl | rfl | rfl | rfl
              · have HSm := Lib.hid (show RS w C p s1 (dC ⟨3, z12, eS, [0, 0, 0, 0]⟩) (.slice la L.length lc) L wr from hs)
                clear hs hm
                go_upto_region 22 with fail
                refine wp_region_lit (WL.out ?_)
                refine WL.yield (w' := wr) (v := .int .i64 0) rfl (by first | (go_simp; done) | (go_simp; rfl)) ?_
                try go_simp
                refine WL.yield (w' := wr) (v := .agg (rcL s1).toArray) rfl (exec_load_elt 71 _ rfl C 0 (by go_simp) (rcL s1) _ (range_of_block HSm.out.cur) Tryd.underlying71 rfl info_cur2) ?_
                try go_simp
                refine WL.enter rfl (by go_simp) (K0.out wr) ?_
                rintro e wa ⟨rfl, hba⟩
                refine ⟨_, rfl, ?_⟩
                have HSa := Lib.hid (HSm.out.below hba)
                clear hba HSm
                try go_simp
                refine WL.yield (w' := wa) (v := .tuple #[.agg (rcL sa).toArray, .int .i64 qa]) rfl (by go_simp) ?_
                try go_simp
                refine WL.yield (w' := wa) (v := .agg (rcL sa).toArray) rfl (by go_simp) ?_
                try go_simp
                refine WL.yield (w' := wa) (v := .int .i64 qa) rfl (by go_simp) ?_
                try go_simp
                refine WL_store_part rfl 71 _ _ rfl C 0 (rcL sa) (by go_simp) (by go_simp) HSa.out.cur (Nat.le_refl _) info_cur2 rfl ?_
                intro w5 hn
                rw [setAll_rc] at hn
                have HS5 := Lib.hid (HSa.out.turn hn)
                clear hn HSa
                try go_simp
                refine WL.yield (w' := w5) (v := .pointer (some ⟨p, 14, none⟩)) rfl (by first | (go_simp; done) | (go_simp; rfl)) ?_
                try go_simp
                refine WL.yield (w' := w5) (v := .pointer (some ⟨p, 14, none⟩)) rfl (by first | (go_simp; done) | (go_simp; rfl)) ?_
                try go_simp
                have cz : w5.cell? ⟨p, 14, none⟩ = some (.int .i64 0) := cell_at HS5.out.stp rfl
                have fz := free_of_block 14 HS5.out.stp
                refine WL_skip (w' := w5.setCell ⟨p, 14, none⟩ (.int .i64 qa)) rfl (by first | (go_simp; done) | (go_simp; rfl)) ?_
                have hn := (wrote_refl HS5.out.stp).set 14 (.int .i64 qa)
                have HS6 := Lib.hid (HS5.out.set (l' := dC ⟨3, z12, eS, [qa, 0, 0, 0]⟩) hn)
                clear hn cz fz HS5
                generalize w5.setCell ⟨p, 14, none⟩ (.int .i64 qa) = w6 at *
                refine WL.nil ?_
                go_simp
                go_wp2_with fail
                go_roundw
                case rel => exact ⟨1, by omega, by rfl, HS6.out⟩
                case measure => simp [intOf]
              · have HSm := Lib.hid (show RS w C p sa (dC ⟨3, z12, eS, [qa, 0, 0, 0]⟩) (.slice la L.length lc) L wr from hs)
                clear hs hm
                go_upto_region 22 with fail
                refine wp_region_lit (WL.out ?_)
                refine WL.yield (w' := wr) (v := .int .i64 1) rfl (by first | (go_simp; done) | (go_simp; rfl)) ?_
                try go_simp
                refine WL.yield (w' := wr) (v := .agg (rcL sa).toArray) rfl (exec_load_elt 71 _ rfl C 0 (by go_simp) (rcL sa) _ (range_of_block HSm.out.cur) Tryd.underlying71 rfl info_cur2) ?_
                try go_simp
                refine WL.enter rfl (by go_simp) (K1.out wr) ?_
                rintro e wa ⟨rfl, hba⟩
                refine ⟨_, rfl, ?_⟩
                have HSa := Lib.hid (HSm.out.below hba)
                clear hba HSm
                try go_simp
                refine WL.yield (w' := wa) (v := .tuple #[.agg (rcL sb).toArray, .int .i64 qb]) rfl (by go_simp) ?_
                try go_simp
                refine WL.yield (w' := wa) (v := .agg (rcL sb).toArray) rfl (by go_simp) ?_
                try go_simp
                refine WL.yield (w' := wa) (v := .int .i64 qb) rfl (by go_simp) ?_
                try go_simp
                refine WL_store_part rfl 71 _ _ rfl C 0 (rcL sb) (by go_simp) (by go_simp) HSa.out.cur (Nat.le_refl _) info_cur2 rfl ?_
                intro w5 hn
                rw [setAll_rc] at hn
                have HS5 := Lib.hid (HSa.out.turn hn)
                clear hn HSa
                try go_simp
                refine WL.yield (w' := w5) (v := .pointer (some ⟨p, 14, none⟩)) rfl (by first | (go_simp; done) | (go_simp; rfl)) ?_
                try go_simp
                refine WL.yield (w' := w5) (v := .pointer (some ⟨p, 15, none⟩)) rfl (by first | (go_simp; done) | (go_simp; rfl)) ?_
                try go_simp
                have cz : w5.cell? ⟨p, 15, none⟩ = some (.int .i64 0) := cell_at HS5.out.stp rfl
                have fz := free_of_block 15 HS5.out.stp
                refine WL_skip (w' := w5.setCell ⟨p, 15, none⟩ (.int .i64 qb)) rfl (by first | (go_simp; done) | (go_simp; rfl)) ?_
                have hn := (wrote_refl HS5.out.stp).set 15 (.int .i64 qb)
                have HS6 := Lib.hid (HS5.out.set (l' := dC ⟨3, z12, eS, [qa, qb, 0, 0]⟩) hn)
                clear hn cz fz HS5
                generalize w5.setCell ⟨p, 15, none⟩ (.int .i64 qb) = w6 at *
                refine WL.nil ?_
                go_simp
                go_wp2_with fail
                go_roundw
                case rel => exact ⟨2, by omega, by rfl, HS6.out⟩
                case measure => simp [intOf]
              · have HSm := Lib.hid (show RS w C p sb (dC ⟨3, z12, eS, [qa, qb, 0, 0]⟩) (.slice la L.length lc) L wr from hs)
                clear hs hm
                go_upto_region 22 with fail
                refine wp_region_lit (WL.out ?_)
                refine WL.yield (w' := wr) (v := .int .i64 2) rfl (by first | (go_simp; done) | (go_simp; rfl)) ?_
                try go_simp
                refine WL.yield (w' := wr) (v := .agg (rcL sb).toArray) rfl (exec_load_elt 71 _ rfl C 0 (by go_simp) (rcL sb) _ (range_of_block HSm.out.cur) Tryd.underlying71 rfl info_cur2) ?_
                try go_simp
                refine WL.enter rfl (by go_simp) (K2.out wr) ?_
                rintro e wa ⟨rfl, hba⟩
                refine ⟨_, rfl, ?_⟩
                have HSa := Lib.hid (HSm.out.below hba)
                clear hba HSm
                try go_simp
                refine WL.yield (w' := wa) (v := .tuple #[.agg (rcL sc).toArray, .int .i64 qc]) rfl (by go_simp) ?_
                try go_simp
                refine WL.yield (w' := wa) (v := .agg (rcL sc).toArray) rfl (by go_simp) ?_
                try go_simp
                refine WL.yield (w' := wa) (v := .int .i64 qc) rfl (by go_simp) ?_
                try go_simp
                refine WL_store_part rfl 71 _ _ rfl C 0 (rcL sc) (by go_simp) (by go_simp) HSa.out.cur (Nat.le_refl _) info_cur2 rfl ?_
                intro w5 hn
                rw [setAll_rc] at hn
                have HS5 := Lib.hid (HSa.out.turn hn)
                clear hn HSa
                try go_simp
                refine WL.yield (w' := w5) (v := .pointer (some ⟨p, 14, none⟩)) rfl (by first | (go_simp; done) | (go_simp; rfl)) ?_
                try go_simp
                refine WL.yield (w' := w5) (v := .pointer (some ⟨p, 16, none⟩)) rfl (by first | (go_simp; done) | (go_simp; rfl)) ?_
                try go_simp
                have cz : w5.cell? ⟨p, 16, none⟩ = some (.int .i64 0) := cell_at HS5.out.stp rfl
                have fz := free_of_block 16 HS5.out.stp
                refine WL_skip (w' := w5.setCell ⟨p, 16, none⟩ (.int .i64 qc)) rfl (by first | (go_simp; done) | (go_simp; rfl)) ?_
                have hn := (wrote_refl HS5.out.stp).set 16 (.int .i64 qc)
                have HS6 := Lib.hid (HS5.out.set (l' := dC ⟨3, z12, eS, [qa, qb, qc, 0]⟩) hn)
                clear hn cz fz HS5
                generalize w5.setCell ⟨p, 16, none⟩ (.int .i64 qc) = w6 at *
                refine WL.nil ?_
                go_simp
                go_wp2_with fail
                go_roundw
                case rel => exact ⟨3, by omega, by rfl, HS6.out⟩
                case measure => simp [intOf]
              · have HSm := Lib.hid (show RS w C p sc (dC ⟨3, z12, eS, [qa, qb, qc, 0]⟩) (.slice la L.length lc) L wr from hs)
                clear hs hm
                go_upto_region 22 with fail
                refine wp_region_lit (WL.out ?_)
                refine WL.yield (w' := wr) (v := .int .i64 3) rfl (by first | (go_simp; done) | (go_simp; rfl)) ?_
                try go_simp
                refine WL.yield (w' := wr) (v := .agg (rcL sc).toArray) rfl (exec_load_elt 71 _ rfl C 0 (by go_simp) (rcL sc) _ (range_of_block HSm.out.cur) Tryd.underlying71 rfl info_cur2) ?_
                try go_simp
                refine WL.enter rfl (by go_simp) (K3.out wr) ?_
                rintro e wa ⟨rfl, hba⟩
                refine ⟨_, rfl, ?_⟩
                have HSa := Lib.hid (HSm.out.below hba)
                clear hba HSm
                try go_simp
                refine WL.yield (w' := wa) (v := .tuple #[.agg (rcL sd).toArray, .int .i64 qd]) rfl (by go_simp) ?_
                try go_simp
                refine WL.yield (w' := wa) (v := .agg (rcL sd).toArray) rfl (by go_simp) ?_
                try go_simp
                refine WL.yield (w' := wa) (v := .int .i64 qd) rfl (by go_simp) ?_
                try go_simp
                refine WL_store_part rfl 71 _ _ rfl C 0 (rcL sd) (by go_simp) (by go_simp) HSa.out.cur (Nat.le_refl _) info_cur2 rfl ?_
                intro w5 hn
                rw [setAll_rc] at hn
                have HS5 := Lib.hid (HSa.out.turn hn)
                clear hn HSa
                try go_simp
                refine WL.yield (w' := w5) (v := .pointer (some ⟨p, 14, none⟩)) rfl (by first | (go_simp; done) | (go_simp; rfl)) ?_
                try go_simp
                refine WL.yield (w' := w5) (v := .pointer (some ⟨p, 17, none⟩)) rfl (by first | (go_simp; done) | (go_simp; rfl)) ?_
                try go_simp
                have cz : w5.cell? ⟨p, 17, none⟩ = some (.int .i64 0) := cell_at HS5.out.stp rfl
                have fz := free_of_block 17 HS5.out.stp
                refine WL_skip (w' := w5.setCell ⟨p, 17, none⟩ (.int .i64 qd)) rfl (by first | (go_simp; done) | (go_simp; rfl)) ?_
                have hn := (wrote_refl HS5.out.stp).set 17 (.int .i64 qd)
                have HS6 := Lib.hid (HS5.out.set (l' := dC ⟨3, z12, eS, [qa, qb, qc, qd]⟩) hn)
                clear hn cz fz HS5
                generalize w5.setCell ⟨p, 17, none⟩ (.int .i64 qd) = w6 at *
                refine WL.nil ?_
                go_simp
                go_wp2_with fail
                go_roundw
                case rel => exact ⟨4, by omega, by rfl, HS6.out⟩
                case measure => simp [intOf]
              · have HSm := Lib.hid (show RS w C p sd (dC ⟨3, z12, eS, [qa, qb, qc, qd]⟩) (.slice la L.length lc) L wr from hs)
                clear hs hm
                go_wp2_with fail
                go_meet
                exact ⟨⟨3, z12, eS, 0, [qa, qb, qc, qd]⟩, sd, 0, rfl, .inl rfl, (by rw [HST.out]; rfl), good3 rfl HGQ.out, HSm.out.as rfl⟩
        · as_aux_lemma =>
            clear hk
            rw [if_neg (by decide), if_neg (by decide), if_neg (by decide), if_neg (by decide)] at HST
            have c0 : w4.cell? ⟨p, 0, none⟩ = some (.int .i64 4) := cell_at HS4.out.stp rfl
            clear c0
            go_wp2_with fail
            go_meet
            exact ⟨⟨4, z12, eS, 0, z4⟩, s1, 0, rfl, .inl rfl, (by rw [HST.out]; rfl), good4 (by unfold i64S; omega), HS4.out.as rfl⟩
        · as_aux_lemma =>
            clear hk
            rw [if_neg (by decide), if_neg (by decide), if_neg (by decide), if_neg (by decide)] at HST
            have c0 : w4.cell? ⟨p, 0, none⟩ = some (.int .i64 5) := cell_at HS4.out.stp rfl
            clear c0
            go_wp2_with fail
            go_meet
            exact ⟨⟨5, z12, eS, 0, z4⟩, s1, 0, rfl, .inl rfl, (by rw [HST.out]; rfl), good4 (by unfold i64S; omega), HS4.out.as rfl⟩
      case rest =>
        obtain ⟨U, sq, ev, rfl, hev, hst, hgu, hs9⟩ := hcut
        have HSTP := Lib.hid hst
        have HGU := Lib.hid hgu
        have HS9 := Lib.hid hs9
        have HEV := Lib.hid hev
        have HNOX := Lib.hid (show (stepF st = none) → readS bs = (L, 11) from fun h => by rw [HR1.out, h]; rfl)
        have HYESX := Lib.hid (show (stepF st = some (sq, U)) → readS bs = rdS q sq (L ++ [U]) from fun h => by rw [HR1.out, h]; rfl)
        have HFAIL := Lib.hid (show stepF st = none → ∀ W, RS w C p sq (dC (ownS U)) (.slice la L.length lc) L W → PE (.returned (.tuple #[.slice la L.length lc, .int .i64 11])) W from fun h W hW => HEND.out (C + 1) _ L _ W 11 (HNOX.out h) (Nat.le_succ _) rfl hW.own hW.bel)
        obtain ⟨bad, hbad⟩ : ∃ b, b = sq.bad := ⟨_, rfl⟩
        have HBAD := Lib.hid hbad
        have c1 : wc.cell? ⟨C, 1, none⟩ = some (.int .i64 bad) := by rw [hbad]; exact cell_at HS9.out.cur rfl
        clear hbad hst hgu hs9 hev HS4 HST HR1 hk HEND HNOX
        by_cases hz : bad = 0
        · subst hz
          by_cases he : ev = 0
          · subst he
            rw [if_pos rfl] at HSTP
            have KR9 := fun W => right_d (good_own HGU.out) W
            rw [show rightK (ownS U).k (ownS U).x (ownS U).s = rightS U from rfl] at KR9
            have HLL := Lib.hid (dC_len (good_own HGU.out))
            have HONE := Lib.hid (dC_one (good_own HGU.out))
            obtain ⟨r, hr⟩ : ∃ r, r = rightS U := ⟨_, rfl⟩
            have HRU := Lib.hid hr
            rw [← hr] at KR9
            have KR := Lib.hid KR9
            clear KR9 hr
            go_upto_region 23 with fail
            refine wp_region_lit (WL.out ?_)
            refine WL.yield (w' := wc) (v := .pointer (some ⟨C, 1, none⟩)) rfl (by first | (go_simp; done) | (go_simp; rfl)) ?_
            try go_simp
            refine WL.yield (w' := wc) (v := .int .i64 0) rfl (by first | (go_simp; done) | (go_simp; rfl)) ?_
            try go_simp
            clear c1
            refine WL.yield (w' := wc) (v := .bool false) rfl (by first | (go_simp; done) | (go_simp; rfl)) ?_
            try go_simp
            refine WL.yield (w' := wc) (v := .bool false) rfl (by first | (go_simp; done) | (go_simp; rfl)) ?_
            try go_simp
            refine WL.yield_w (w' := wc) (v := .int .i64 0) (by kernel_rfl) (by first | (go_simp; done) | (go_simp; rfl)) ?_
            try go_simp
            refine WL.yield_w (w' := wc) (v := .bool false) (by kernel_rfl) (by first | (go_simp; done) | (go_simp; rfl)) ?_
            try go_simp
            refine WL.yield (w' := wc) (v := .bool false) rfl (by first | (go_simp; done) | (go_simp; rfl)) ?_
            try go_simp
            refine WL.yield (w' := wc) (v := .bool false) rfl (by first | (go_simp; done) | (go_simp; rfl)) ?_
            try go_simp
            refine WL.yield_w (w' := wc) (v := .agg (dC (ownS U)).toArray) (by kernel_rfl) (exec_load_elt 35 _ rfl p 0 (by go_simp) (dC (ownS U)) _ (range_of_block HS9.out.stp) Tryd.underlying35 rfl (by rw [HLL.out]; exact info_dstep)) ?_
            try go_simp
            refine WL.enter_w (by kernel_rfl) (by go_simp) (KR.out wc) ?_
            rintro e w8 ⟨rfl, hb8⟩
            refine ⟨_, rfl, ?_⟩
            have HS8 := Lib.hid (HS9.out.below hb8)
            clear hb8 HS9 KR
            try go_simp
            cases r with
            | true =>
              refine WL.yield_w (w' := w8) (v := .bool false) (by kernel_rfl) (by first | (go_simp; done) | (go_simp; rfl)) ?_
              try go_simp
              refine WL.yield (w' := w8) (v := .bool false) rfl (by first | (go_simp; done) | (go_simp; rfl)) ?_
              refine WL.nil ?_
              go_simp
              have HYES := Lib.hid (show stepF st = some (sq, U) from by rw [HSTP.out]; exact stepV_okk HBAD.out.symm HRU.out.symm)
              have HLQ := Lib.hid (HLT.out _ _ HYES.out)
              have HL9 := Lib.hid (HYESX.out HYES.out)
              clear HYES HYESX HSTP HFAIL
              go_upto_region 25 with fail
              obtain ⟨k9, x0, x1, x2, x3, x4, x5, x6, x7, x8, x9, x10, x11, s9, qa, qb, qc, qd, hU9⟩ := goodD_open (good_own HGU.out)
              have hU10 : dC (ownS U) = ([.int .i64 k9, .int .i64 x0, .int .i64 x1, .int .i64 x2, .int .i64 x3, .int .i64 x4, .int .i64 x5, .int .i64 x6, .int .i64 x7, .int .i64 x8, .int .i64 x9, .int .i64 x10, .int .i64 x11, .string s9, .int .i64 qa, .int .i64 qb, .int .i64 qc, .int .i64 qd] : List Value) := by rw [hU9]; rfl
              have HP8L := HS8.out.stp
              rw [hU10] at HP8L
              have hone2 := HONE.out
              rw [hU10] at hone2
              have HU10 := Lib.hid hU10
              clear hU9 hU10
              have hal := below_alloc (Below.refl _ w8) (.cells #[.int .i64 k9, .int .i64 x0, .int .i64 x1, .int .i64 x2, .int .i64 x3, .int .i64 x4, .int .i64 x5, .int .i64 x6, .int .i64 x7, .int .i64 x8, .int .i64 x9, .int .i64 x10, .int .i64 x11, .string s9, .int .i64 qa, .int .i64 qb, .int .i64 qc, .int .i64 qd] 35)
              have hClt := (Array.getElem?_eq_some_iff.1 HS8.out.cur).1
              obtain ⟨v', W9, hrun, hown, hgr, hnew, hbel⟩ := app_one eltDS 23 (HS8.out.own.below hal) ([.int .i64 k9, .int .i64 x0, .int .i64 x1, .int .i64 x2, .int .i64 x3, .int .i64 x4, .int .i64 x5, .int .i64 x6, .int .i64 x7, .int .i64 x8, .int .i64 x9, .int .i64 x10, .int .i64 x11, .string s9, .int .i64 qa, .int .i64 qb, .int .i64 qc, .int .i64 qd] : List Value) rfl (by simpa using hone2) (by rw [List.length_map]; have := HLEN.out; omega) (by decide) (Nat.le_trans hClt hal.size) (World.alloc_heap_new _ _)
              obtain ⟨a9, c9, rfl⟩ := hown.form
              have hlm : ((L.map (fun s => dC (ownS s))) ++ [([.int .i64 k9, .int .i64 x0, .int .i64 x1, .int .i64 x2, .int .i64 x3, .int .i64 x4, .int .i64 x5, .int .i64 x6, .int .i64 x7, .int .i64 x8, .int .i64 x9, .int .i64 x10, .int .i64 x11, .string s9, .int .i64 qa, .int .i64 qb, .int .i64 qc, .int .i64 qd] : List Value)]).length = (L ++ [U]).length := by simp
              rw [hlm] at hown hrun hnew
              obtain ⟨NN, hNN⟩ : ∃ NN, NN = (L ++ [U]).length := ⟨_, rfl⟩
              rw [← hNN] at hrun
              have HNN := Lib.hid hNN
              clear hNN
              have HC10 := Lib.hid (show W9.heap[C]? = some (.cells (rcL sq).toArray 71 (0, 0)) from (hbel.block C (Nat.lt_succ_self _)).trans ((hal.block C hClt).trans HS8.out.cur))
              have HO10 := Lib.hid (show OwnV 35 18 W9 (C + 1) (.slice a9 (L ++ [U]).length c9) ((L ++ [U]).map (fun s => dC (ownS s))) from by rw [List.map_append, show [U].map (fun s => dC (ownS s)) = [dC (ownS U)] from rfl, HU10.out]; exact hown)
              have HB10 := Lib.hid (show Below C w W9 from HS8.out.bel.trans ((hal.mono (Nat.le_of_lt hClt)).trans (hbel.mono (Nat.le_succ _))))
              clear hal hgr hnew hbel hown hlm hClt
              refine wp_region_lit (WL.out ?_)
              refine WL.yield (w' := w8) (v := .slice la L.length lc) rfl (by first | (go_simp; done) | (go_simp; rfl)) ?_
              try go_simp
              refine WL.yield (w' := w8) (v := .agg ([.int .i64 k9, .int .i64 x0, .int .i64 x1, .int .i64 x2, .int .i64 x3, .int .i64 x4, .int .i64 x5, .int .i64 x6, .int .i64 x7, .int .i64 x8, .int .i64 x9, .int .i64 x10, .int .i64 x11, .string s9, .int .i64 qa, .int .i64 qb, .int .i64 qc, .int .i64 qd] : List Value).toArray) rfl (exec_load_elt 35 _ rfl p 0 (by go_simp) ([.int .i64 k9, .int .i64 x0, .int .i64 x1, .int .i64 x2, .int .i64 x3, .int .i64 x4, .int .i64 x5, .int .i64 x6, .int .i64 x7, .int .i64 x8, .int .i64 x9, .int .i64 x10, .int .i64 x11, .string s9, .int .i64 qa, .int .i64 qb, .int .i64 qc, .int .i64 qd] : List Value) _ (range_of_block HP8L) Tryd.underlying35 rfl info_dstep) ?_
              try go_simp
              refine WL.yield (w' := w8.alloc (.cells #[.int .i64 k9, .int .i64 x0, .int .i64 x1, .int .i64 x2, .int .i64 x3, .int .i64 x4, .int .i64 x5, .int .i64 x6, .int .i64 x7, .int .i64 x8, .int .i64 x9, .int .i64 x10, .int .i64 x11, .string s9, .int .i64 qa, .int .i64 qb, .int .i64 qc, .int .i64 qd] 35)) (v := .slice (some ⟨w8.heap.size, 0, none⟩) 1 1) rfl (by first | (go_simp; done) | (go_simp; rfl)) ?_
              try go_simp
              refine WL.yield (w' := W9) (v := .slice a9 NN c9) rfl (Ap.exec_app rfl (by first | rfl | go_simp) (by first | rfl | go_simp) hrun) ?_
              try go_simp
              clear HS8 hrun HP8L hone2 HU10
              refine WL.yield (w' := W9) (v := .slice a9 NN c9) rfl (by go_simp) ?_
              refine WL.nil ?_
              go_simp
              go_wp2_with fail
              go_roundw
              case rel => exact ⟨sq, L ++ [U], q, a9, c9, by rw [HNN.out], HLQ.out.1, HLQ.out.2.1, HC10.out, HO10.out, HB10.out, by have := HLQ.out.2.2; have := HLEN.out; rw [List.length_append, List.length_singleton]; omega, by have := HLQ.out.2.2; have := HN.out; omega, HL9.out⟩
              case measure => have h1 := HNN.out; have := HLQ.out.2.2; have := HLEN.out; rw [List.length_append, List.length_singleton] at h1; simp [lenV]; omega
            | false =>
              refine WL.yield_w (w' := w8) (v := .bool true) (by kernel_rfl) (by first | (go_simp; done) | (go_simp; rfl)) ?_
              try go_simp
              refine WL.yield (w' := w8) (v := .bool true) rfl (by first | (go_simp; done) | (go_simp; rfl)) ?_
              refine WL.nil ?_
              go_simp
              have HFIN := Lib.hid (HFAIL.out (by rw [HSTP.out]; exact stepV_nor (by rw [← HRU.out]; decide)) _ HS8.out)
              clear HYESX HSTP HS8 HFAIL
              go_wp2_with fail
              try go_ret2
              exact HFIN.out
          · have he11 : ev = 11 := by have := HEV.out; omega
            subst he11
            have HFIN := Lib.hid (HFAIL.out (by rw [HSTP.out]; rfl) _ HS9.out)
            clear HYESX HSTP HFAIL HEV he HS9
            go_wp2_with fail
            try go_ret2
            exact HFIN.out
        · have db : (bad != 0) = true := by simpa using hz
          have HFIN := Lib.hid (HFAIL.out (by rw [HSTP.out]; split; exact stepV_nob (by rw [← HBAD.out]; exact hz); rfl) _ HS9.out)
          clear hz HYESX HSTP HFAIL HEV HS9
          go_wp2_with fail
          try go_ret2
          exact HFIN.out
/-- the document's Read at any bytes -/
theorem dread_any {w : World} {bs : List Int} (hby : ∀ x ∈ bs, 0 ≤ x ∧ x ≤ 255) : Calls Tryd.prog 15 #[.string (strOfNums bs)] w fun e w' => DReadEnd w bs e w' := by
  by_cases hb : 65536 < bs.length
  · exact dread_big hb
  · exact dread_some hby (by omega)
end Go.Proofs.YtdfkfcpkejjlnaaDoor
