/- Laws that belong together: The bytes of any steps (Put, layer 28). Condition: the numbers fit; at most 60 steps.; The bytes of no steps; the document's bytes of steps (Put, layer 28). Condition: the numbers fit; at most 60 steps. -/
import Derived.Test.YtdfkfcpkejjlnaaDoorMScC
import Derived.Test.YtdfkfcpkejjlnaaDoorMRowV
import Derived.Shelf.Abstract
import Derived.Test.YtdfkfcpkejjlnaaDoorMah
import Derived.Test.YtdfkfcpkejjlnaaDoorMad
namespace Go.Proofs.YtdfkfcpkejjlnaaDoor
set_option linter.unusedVariables false
open Go.ChangeShapes Go.WideShapes Go.ChangeAt Go.RowKit Cs Rv
attribute [local go_sem ↓] Go.wp_at_zero Go.wp_at_succ comesTo_value_eq comesTo_skip_eq comesTo_enter_eq

/-- a row of steps -/
def RowS (w : World) (v : Value) (L : List SV) : Prop := RowV 19 w v (L.map sC)
theorem RowS.below {w w' : World} {v : Value} {L : List SV} (h : RowS w v L) (hb : Below w.heap.size w w') : RowS w' v L := RowV.below h hb
theorem sC_len {v : SV} (g : GoodS v) : (sC v).length = 19 := by unfold sC; simp [cmdC_len g.x.len, g.q]
theorem idx4_0 (a b c d : Int) (W : World) : (Instr.index 27 (.agg #[.int .i64 a, .int .i64 b, .int .i64 c, .int .i64 d]) (.int .i64 0)).run Tryd.prog W = .ok (.int .i64 a) W := by kernel_rfl
theorem idx4_1 (a b c d : Int) (W : World) : (Instr.index 27 (.agg #[.int .i64 a, .int .i64 b, .int .i64 c, .int .i64 d]) (.int .i64 1)).run Tryd.prog W = .ok (.int .i64 b) W := by kernel_rfl
theorem idx4_2 (a b c d : Int) (W : World) : (Instr.index 27 (.agg #[.int .i64 a, .int .i64 b, .int .i64 c, .int .i64 d]) (.int .i64 2)).run Tryd.prog W = .ok (.int .i64 c) W := by kernel_rfl
theorem idx4_3 (a b c d : Int) (W : World) : (Instr.index 27 (.agg #[.int .i64 a, .int .i64 b, .int .i64 c, .int .i64 d]) (.int .i64 3)).run Tryd.prog W = .ok (.int .i64 d) W := by kernel_rfl
theorem putS_take {L : List SV} {j : Nat} {v : SV} (h : L[j]? = some v) : putS (L.take (j + 1)) = putS (L.take j) ++ (if rightS v then bytesS v else []) := by
  have hj := (List.getElem?_eq_some_iff.1 h).1
  have hv := (List.getElem?_eq_some_iff.1 h).2
  rw [List.take_succ_eq_append_getElem hj, hv]
  unfold putS
  rw [List.flatMap_append]
  simp
theorem range_mid {w : World} {b : Nat} {l : List Value} {T : TypeId} (hb : w.heap[b]? = some (.cells l.toArray T (0, 0))) (o n : Nat) {m : List Value} (hm : (l.drop o).take n = m) : w.rangeAt b o m := fun j u hj => by
  subst hm
  refine cell_of_block hb ?_
  rw [List.getElem?_take] at hj
  split at hj
  · rw [List.getElem?_drop] at hj
    simpa using hj
  · cases hj
theorem cell_at {w : World} {b : Nat} {l : List Value} {T : TypeId} (hb : w.heap[b]? = some (.cells l.toArray T (0, 0))) {o : Nat} {u : Value} (h : l[o]? = some u) : w.cell? ⟨b, o, none⟩ = some u := cell_of_block hb (by simpa using h)
theorem sC_one {v : SV} (g : GoodS v) : (sC v).all (·.oneCell') = true := by
  obtain ⟨k, x0, x1, x2, x3, x4, x5, x6, x7, x8, x9, x10, x11, s, n, a, b, c, d, rfl⟩ := good_open g
  rfl
theorem sC_parts {v : SV} (g : GoodS v) : (sC v)[0]? = some (.int .i64 v.k) ∧ (sC v)[13]? = some (.string v.s) ∧ (sC v)[14]? = some (.int .i64 v.n) ∧ ((sC v).drop 1).take 12 = cmdC v.x ∧ ((sC v).drop 15).take 4 = v.q.map (.int .i64) := by
  obtain ⟨k, x0, x1, x2, x3, x4, x5, x6, x7, x8, x9, x10, x11, s, n, a, b, c, d, rfl⟩ := good_open g
  exact ⟨rfl, rfl, rfl, rfl, rfl⟩
theorem info_cmd : (Tryd.prog.info? 26).map (·.size) = some 12 := by kernel_rfl
theorem info_step : (Tryd.prog.info? 29).map (·.size) = some 19 := by kernel_rfl
set_option maxRecDepth 100000 in
set_option maxHeartbeats 8000000 in
theorem put_some {w : World} {rb off rc : Nat} {L : List SV} (hlc : L.length ≤ rc) (hlt : rb < w.heap.size) (hrow : ∀ k l, (L.map sC)[k]? = some l → w.rangeAt rb (off + k * 19) l) (hg : ∀ x ∈ L, GoodS x) (hl : L.length ≤ 60) :
    Calls Tryd.prog 11 #[.slice (some ⟨rb, off, none⟩) L.length rc] w fun e w' => ∃ u, e = .returned u ∧ OwnTxt w' w.heap.size u (putS L) ∧ Below w.heap.size w w' := by
  have hE1 := enters_of (P := Tryd.prog) Tryd.func21 (by kernel_rfl) rfl
  have hE2 := enters_of (P := Tryd.prog) Tryd.func23 (by kernel_rfl) rfl
  unfold Go.Proofs.Enters at hE1 hE2
  have HG := Lib.hid hg
  have HL := Lib.hid hl
  have HROW := Lib.hid hrow
  have HLT := Lib.hid hlt
  have HLC := Lib.hid hlc
  have hb1 := below_alloc (Below.refl _ w) (.cells #[.slice none 0 0] 40)
  have HN1 := World.alloc_heap_new w (.cells #[.slice none 0 0] 40)
  have HE1 := Lib.hid hb1
  have HY1 := Lib.hid (show LayY w.heap.size [] _ from ⟨none, 0, 0, HN1, OwnTxt.nil⟩)
  clear hg hl hrow hlt hlc hb1 HN1
  obtain ⟨N, hN⟩ : ∃ N, N = L.length := ⟨_, rfl⟩
  have HNL := Lib.hid hN
  rw [← hN]
  clear hN
  go_enter Tryd.func11, Tryd.ntmps11
  go_upto_region 2 with fail
  generalize w.alloc (.cells #[.slice none 0 0] 40) = W0 at *
  obtain ⟨B, hB⟩ : ∃ B, B = w.heap.size := ⟨_, rfl⟩
  have HBW := Lib.hid hB
  rw [← hB] at HY1 ⊢
  clear hB
  go_wp2_with fail
  go_loopw [14] (fun i wr => ∃ j : Nat, j ≤ N ∧ i = .int .i64 j ∧ LayY B (putS (L.take j)) wr ∧ FrY B w wr) (fun i _ => N - (intOf i).toNat)
  case atStart => exact ⟨0, Nat.zero_le _, rfl, HY1.out, FrY.of (by rw [HBW.out]; exact Nat.le_refl _) HE1.out⟩
  case round =>
    obtain ⟨j, hj, rfl, hy, hf⟩ := hrel
    have HY := Lib.hid hy
    have HF := Lib.hid hf
    clear hy hf HY1 HE1
    by_cases hjn : j < N
    · have hd : decide ((j : Int) < (N : Int)) = true := decide_eq_true (by omega)
      have hjI : (j : Int) < (N : Int) := by omega
      have hw1 : IntKind.i64.wrap ((j : Int) + 1) = (j : Int) + 1 := by have := HNL.out; have := HL.out; rw [IntKind.wrap_i64]; omega
      have HJ := Lib.hid hjn
      have HPL := Lib.hid (show (putS (L.take j)).length ≤ 18000 from by have := putS_len (L.take j) (fun x hx => HG.out x (List.mem_of_mem_take hx)); have := HNL.out; have := HL.out; rw [List.length_take] at *; omega)
      obtain ⟨v, hv⟩ : ∃ v, L[j]? = some v := ⟨_, List.getElem?_eq_getElem (by have := HNL.out; omega)⟩
      have hgv := HG.out v (List.mem_of_getElem? hv)
      have HT := Lib.hid (putS_take hv)
      have hc0 := HROW.out j (sC v) (by rw [List.getElem?_map, hv]; rfl)
      have hc1 : wr.rangeAt rb (off + j * 19) (sC v) := fun i u hi => (HF.out.below.cell (p := ⟨rb, off + j * 19 + i, none⟩) (by rw [HBW.out]; exact HLT.out)).trans (hc0 i u hi)
      have kr := fun W => right_s hgv W
      have HKK := Lib.hid (fun (h : rightS v = true) => right_kind h)
      have HBL := Lib.hid (fun (h : rightS v = true) => bytes_len hgv h)
      have HRS := Lib.hid (fun (h : rightS v = true) (h1 : v.k = 1) => (show v.s.size ≤ 264 from by unfold rightS rightK at h; rw [h1] at h; simpa using h))
      obtain ⟨r, hr⟩ : ∃ r, r = rightS v := ⟨_, rfl⟩
      rw [← hr] at HT kr HKK HBL HRS
      clear hr hv hc0 hj hjn
      obtain ⟨hp0, hp13, hp14, hp1, hp15⟩ := sC_parts hgv
      have hll := sC_len hgv
      have hone := sC_one hgv
      have kc := fun W => put_c hgv.x W
      have hpcl := putC_le hgv.x
      have HGK := Lib.hid hgv.k64
      have HGN := Lib.hid hgv.n64
      have hgq := hgv.q64
      have hq4 := hgv.q
      have hxl := cmdC_len hgv.x.len
      have HPCM0 := putC_mem v.x
      have HBY := Lib.hid (show bytesS v = putI v.k ++ (if v.k = 0 then putTx (putC v.x) else if v.k = 1 then putTx (bytesOf v.s) else if v.k = 2 then putI v.n else if v.k = 3 then v.q.flatMap putI else []) from rfl)
      rw [HBY.out] at HT HBL
      clear HBY
      generalize sC v = l at *
      obtain ⟨k, x, s, n, q⟩ := v
      dsimp only at *
      obtain ⟨qa, qb, qc, qd, rfl⟩ := four hq4
      generalize putC x = pc at *
      generalize cmdC x = xc at *
      have HPCM := Lib.hid HPCM0
      have HC := Lib.hid hc1
      have KR := Lib.hid kr
      have KC := Lib.hid kc
      have HPC := Lib.hid hpcl
      have HGQ := Lib.hid hgq
      have HLL := Lib.hid hll
      have HP0 := Lib.hid hp0
      have HP13 := Lib.hid hp13
      have HP14 := Lib.hid hp14
      have HM1 := Lib.hid hp1
      have HM15 := Lib.hid (show (l.drop 15).take 4 = [.int .i64 qa, .int .i64 qb, .int .i64 qc, .int .i64 qd] from hp15)
      have HONE := Lib.hid hone
      have HXL := Lib.hid hxl
      clear hgv kr kc hpcl hc1 HPCM0 hgq hq4 hll hp0 hp13 hp14 hp1 hp15 hone hxl
      go_upto_region 6 with fail
      refine wp_region_lit ?_
      refine wpList_yield (w' := wr) (v := .pointer (some ⟨rb, off + j * 19, none⟩)) rfl (by first | (go_simp; done) | (go_simp; rfl)) ?_
      refine wpList_load_elt rfl 29 _ rfl rb (off + j * 19) (by go_simp) l _ HC.out Tryd.underlying29 rfl (by rw [HLL.out]; exact info_step) ?_
      refine wpList_yield (w' := wr.alloc (.cells #[.int .i64 0, .int .i64 0, .int .i64 0, .int .i64 0, .int .i64 0, .int .i64 0, .int .i64 0, .int .i64 0, .int .i64 0, .int .i64 0, .int .i64 0, .int .i64 0, .bool false, .string ⟨#[]⟩, .int .i64 0, .int .i64 0, .int .i64 0, .int .i64 0, .int .i64 0] 29)) (v := .pointer (some ⟨wr.heap.size, 0, none⟩)) rfl (by first | (go_simp; done) | (go_simp; rfl)) ?_
      refine wpList_store_all rfl 29 _ _ rfl wr.heap.size (cs := #[.int .i64 0, .int .i64 0, .int .i64 0, .int .i64 0, .int .i64 0, .int .i64 0, .int .i64 0, .int .i64 0, .int .i64 0, .int .i64 0, .int .i64 0, .int .i64 0, .bool false, .string ⟨#[]⟩, .int .i64 0, .int .i64 0, .int .i64 0, .int .i64 0, .int .i64 0]) (T := 29) l (by go_simp) (by go_simp) (World.alloc_heap_new _ _) HLL.out (by rw [HLL.out]; exact info_step) HONE.out ?_
      intro V hV
      have hbV := hV.below (below_alloc (Below.refl _ wr) _) (Nat.le_refl _)
      have HPV := Lib.hid hV.there
      have HYV := Lib.hid (HY.out.below hbV)
      have HFV := Lib.hid (HF.out.trans (FrY.of (Nat.le_of_lt HY.out.lt) hbV))
      have HPB := Lib.hid (show wr.heap.size ≠ B from by have := HY.out.lt; omega)
      clear hV hbV HC HY HF
      go_upto_region 7 with fail
      generalize wr.heap.size = p at *
      refine wp_region_lit ?_
      refine wpList_load_all rfl 29 _ rfl p l _ (by go_simp) HPV.out Tryd.underlying29 rfl (by rw [HLL.out]; exact info_step) ?_
      refine wpList_enter rfl (by go_simp) (KR.out V) ?_
      rintro e w2 ⟨rfl, hb2⟩
      refine ⟨_, rfl, ?_⟩
      have HY2 := Lib.hid (HYV.out.below hb2)
      have HF2 := Lib.hid (HFV.out.trans (FrY.of (Nat.le_of_lt HYV.out.lt) hb2))
      have HP2 := Lib.hid ((hb2.block p (Array.getElem?_eq_some_iff.1 HPV.out).1).trans HPV.out)
      clear hb2 HYV HFV HPV KR
      cases r with
      | false =>
        rw [if_neg (by decide), List.append_nil] at HT
        go_wp2_with fail
        go_roundw
        case rel => exact ⟨j + 1, by have := HJ.out; omega, by first | rfl | (simp; done), by rw [HT.out]; exact HY2.out, HF2.out⟩
        case measure => have := HJ.out; simp [intOf]; omega
      | true =>
        rw [if_pos rfl] at HT
        have hkk := HKK.out rfl
        have hbl := HBL.out rfl
        have hrs := Lib.hid (HRS.out rfl)
        have HBL2 := Lib.hid hbl
        clear hbl HKK HBL HRS
        generalize putS (L.take j) = pre at *
        have c0 : w2.cell? ⟨p, 0, none⟩ = some (.int .i64 k) := cell_at HP2.out HP0.out
        have KN := Lib.hid (num_y HY2.out (by have := HPL.out; omega) HGK.out)
        go_wp2_with fail
        refine KN.out.mono ?_
        rintro e w3 ⟨rfl, h3, f3⟩
        have HY3 := Lib.hid h3
        have HF3 := Lib.hid (HF2.out.trans f3)
        have HP3 := Lib.hid (f3.rest p _ _ _ HP2.out (by decide) HPB.out)
        have HKL := Lib.hid (putI_len HGK.out)
        clear h3 f3 KN c0 HY2 HF2 HP2
        rcases (by omega : k = 0 ∨ k = 1 ∨ k = 2 ∨ k = 3 ∨ k = 4 ∨ k = 5) with rfl | rfl | rfl | rfl | rfl | rfl
        · as_aux_lemma =>
            rw [if_pos rfl, ← List.append_assoc] at HT
            clear hkk
            have c0 : w3.cell? ⟨p, 0, none⟩ = some (.int .i64 0) := cell_at HP3.out HP0.out
            go_upto_region 11 with fail
            refine wp_region_lit ?_
            refine wpList_yield (w' := w3) (v := .func (.func 23) #[] #[.pointer (some ⟨B, 0, none⟩)]) rfl (by first | (go_simp; done) | (go_simp; rfl)) ?_
            refine wpList_yield (w' := w3) (v := .pointer (some ⟨p, 1, none⟩)) rfl (by first | (go_simp; done) | (go_simp; rfl)) ?_
            refine wpList_load_elt rfl 26 _ rfl p 1 (by go_simp) xc _ (range_mid HP3.out 1 12 HM1.out) Tryd.underlying26 rfl (by rw [HXL.out]; exact info_cmd) ?_
            refine wpList_enter rfl (by go_simp) (KC.out w3) ?_
            rintro e w4 ⟨u, rfl, hu, hb4⟩
            refine ⟨_, rfl, ?_⟩
            have HY4 := Lib.hid (HY3.out.below hb4)
            have HF4 := Lib.hid (HF3.out.trans (FrY.of (Nat.le_of_lt HY3.out.lt) hb4))
            have hcv := fun W (hW : Below w4.heap.size w4 W) => txt_conv hu.at W hW
            have hc4 := hcv w4 (Below.refl _ _)
            have hbs : bytesOf (strOfNums pc) = pc := bytesOf_str pc (fun i hi => (HPCM.out _ (by simp [List.getD, hi])).1) (fun i hi => (HPCM.out _ (by simp [List.getD, hi])).2)
            have KT := Lib.hid (text_y HY4.out (s := strOfNums pc) (by have := HPL.out; have := HKL.out; rw [List.length_append]; omega) (by have := HPC.out; rw [size_str]; omega))
            rw [hbs] at KT
            clear hu hb4 HY3 HF3 hcv hbs HP3 c0
            go_simp
            go_wp2_with fail
            refine KT.out.mono ?_
            rintro e w5 ⟨rfl, h5, f5⟩
            have HY5 := Lib.hid h5
            have HF5 := Lib.hid (HF4.out.trans f5)
            clear h5 f5 HY4 HF4 KT hc4
            go_wp2_with fail
            go_roundw
            case rel => exact ⟨j + 1, by have := HJ.out; omega, by first | rfl | (simp; done), by rw [HT.out]; exact HY5.out, HF5.out⟩
            case measure => have := HJ.out; simp [intOf]; omega
        · as_aux_lemma =>
            rw [if_neg (by decide), if_pos rfl, ← List.append_assoc] at HT
            clear hkk
            have c0 : w3.cell? ⟨p, 0, none⟩ = some (.int .i64 1) := cell_at HP3.out HP0.out
            have c13 : w3.cell? ⟨p, 13, none⟩ = some (.string s) := cell_at HP3.out HP13.out
            have KT := Lib.hid (text_y HY3.out (s := s) (by have := HPL.out; have := HKL.out; rw [List.length_append]; omega) (by have := hrs.out rfl; omega))
            go_wp2_with fail
            refine KT.out.mono ?_
            rintro e w5 ⟨rfl, h5, f5⟩
            have HY5 := Lib.hid h5
            have HF5 := Lib.hid (HF3.out.trans f5)
            clear h5 f5 HY3 HF3 KT c0 c13 HP3
            go_wp2_with fail
            go_roundw
            case rel => exact ⟨j + 1, by have := HJ.out; omega, by first | rfl | (simp; done), by rw [HT.out]; exact HY5.out, HF5.out⟩
            case measure => have := HJ.out; simp [intOf]; omega
        · as_aux_lemma =>
            rw [if_neg (by decide), if_neg (by decide), if_pos rfl, ← List.append_assoc] at HT
            clear hkk
            have c0 : w3.cell? ⟨p, 0, none⟩ = some (.int .i64 2) := cell_at HP3.out HP0.out
            have c14 : w3.cell? ⟨p, 14, none⟩ = some (.int .i64 n) := cell_at HP3.out HP14.out
            have KT := Lib.hid (num_y HY3.out (by have := HPL.out; have := HKL.out; rw [List.length_append]; omega) HGN.out)
            go_wp2_with fail
            refine KT.out.mono ?_
            rintro e w5 ⟨rfl, h5, f5⟩
            have HY5 := Lib.hid h5
            have HF5 := Lib.hid (HF3.out.trans f5)
            clear h5 f5 HY3 HF3 KT c0 c14 HP3
            go_wp2_with fail
            go_roundw
            case rel => exact ⟨j + 1, by have := HJ.out; omega, by first | rfl | (simp; done), by rw [HT.out]; exact HY5.out, HF5.out⟩
            case measure => have := HJ.out; simp [intOf]; omega
        · as_aux_lemma =>
            rw [if_neg (by decide), if_neg (by decide), if_neg (by decide), if_pos rfl, ← List.append_assoc] at HT
            clear hkk
            have c0 : w3.cell? ⟨p, 0, none⟩ = some (.int .i64 3) := cell_at HP3.out HP0.out
            go_upto_region 17 with fail
            refine wp_region_lit ?_
            refine wpList_yield (w' := w3) (v := .pointer (some ⟨p, 15, none⟩)) rfl (by first | (go_simp; done) | (go_simp; rfl)) ?_
            refine wpList_load_elt rfl 27 _ rfl p 15 (by go_simp) [.int .i64 qa, .int .i64 qb, .int .i64 qc, .int .i64 qd] _ (range_mid HP3.out 15 4 HM15.out) Tryd.underlying27 rfl (by kernel_rfl) ?_
            go_simp
            go_wp2_with fail
            clear c0
            have HQL := Lib.hid (show ∀ m, m ≤ 4 → (([qa, qb, qc, qd].take m).flatMap putI).length ≤ 40 from fun m hm => by have := flat_le ([qa, qb, qc, qd].take m) (fun y hy => HGQ.out y (List.mem_of_mem_take hy)); rw [List.length_take] at this; have : min m [qa, qb, qc, qd].length ≤ 4 := Nat.min_le_right _ _; omega)
            obtain ⟨pk, hpk⟩ : ∃ pk, pk = pre ++ putI 3 := ⟨_, rfl⟩
            have HPK := Lib.hid (show pk.length ≤ 18010 from by rw [hpk, List.length_append]; have := HPL.out; have := HKL.out; omega)
            rw [← hpk] at HY3 HT
            clear hpk
            go_loopw [51] (fun i wr => ∃ m : Nat, m ≤ 4 ∧ i = .int .i64 m ∧ LayY B (pk ++ ([qa, qb, qc, qd].take m).flatMap putI) wr ∧ FrY B w wr) (fun i _ => 4 - (intOf i).toNat)
            case atStart => exact ⟨0, Nat.zero_le _, rfl, by simpa using HY3.out, HF3.out⟩
            case round =>
              obtain ⟨m, hm, rfl, hy, hf⟩ := hrel
              have HYm := Lib.hid hy
              have HFm := Lib.hid hf
              have HLm := Lib.hid (show (pk ++ ([qa, qb, qc, qd].take m).flatMap putI).length ≤ 200000 from by rw [List.length_append]; have := HQL.out m hm; have := HPK.out; omega)
              clear hy hf HY3 HF3
              rcases (by omega : m = 0 ∨ m = 1 ∨ m = 2 ∨ m = 3 ∨ m = 4) with rfl | rfl | rfl | rfl | rfl
              · have KL := Lib.hid (num_y HYm.out HLm.out (HGQ.out qa (by simp)))
                have qI := idx4_0 qa qb qc qd
                have HTm := Lib.hid (show pk ++ ([qa, qb, qc, qd].take 0).flatMap putI ++ putI qa = pk ++ ([qa, qb, qc, qd].take 1).flatMap putI from by simp)
                go_wp2_with fail
                refine KL.out.mono ?_
                rintro e w7 ⟨rfl, h7, f7⟩
                rw [HTm.out] at h7
                have HY7 := Lib.hid h7
                have HF7 := Lib.hid (HFm.out.trans f7)
                clear h7 f7 KL HYm HFm qI
                go_wp2_with fail
                go_roundw
                case rel => exact ⟨1, by omega, by rfl, HY7.out, HF7.out⟩
                case measure => simp [intOf]
              · have KL := Lib.hid (num_y HYm.out HLm.out (HGQ.out qb (by simp)))
                have qI := idx4_1 qa qb qc qd
                have HTm := Lib.hid (show pk ++ ([qa, qb, qc, qd].take 1).flatMap putI ++ putI qb = pk ++ ([qa, qb, qc, qd].take 2).flatMap putI from by simp)
                go_wp2_with fail
                refine KL.out.mono ?_
                rintro e w7 ⟨rfl, h7, f7⟩
                rw [HTm.out] at h7
                have HY7 := Lib.hid h7
                have HF7 := Lib.hid (HFm.out.trans f7)
                clear h7 f7 KL HYm HFm qI
                go_wp2_with fail
                go_roundw
                case rel => exact ⟨2, by omega, by rfl, HY7.out, HF7.out⟩
                case measure => simp [intOf]
              · have KL := Lib.hid (num_y HYm.out HLm.out (HGQ.out qc (by simp)))
                have qI := idx4_2 qa qb qc qd
                have HTm := Lib.hid (show pk ++ ([qa, qb, qc, qd].take 2).flatMap putI ++ putI qc = pk ++ ([qa, qb, qc, qd].take 3).flatMap putI from by simp)
                go_wp2_with fail
                refine KL.out.mono ?_
                rintro e w7 ⟨rfl, h7, f7⟩
                rw [HTm.out] at h7
                have HY7 := Lib.hid h7
                have HF7 := Lib.hid (HFm.out.trans f7)
                clear h7 f7 KL HYm HFm qI
                go_wp2_with fail
                go_roundw
                case rel => exact ⟨3, by omega, by rfl, HY7.out, HF7.out⟩
                case measure => simp [intOf]
              · have KL := Lib.hid (num_y HYm.out HLm.out (HGQ.out qd (by simp)))
                have qI := idx4_3 qa qb qc qd
                have HTm := Lib.hid (show pk ++ ([qa, qb, qc, qd].take 3).flatMap putI ++ putI qd = pk ++ ([qa, qb, qc, qd].take 4).flatMap putI from by simp)
                go_wp2_with fail
                refine KL.out.mono ?_
                rintro e w7 ⟨rfl, h7, f7⟩
                rw [HTm.out] at h7
                have HY7 := Lib.hid h7
                have HF7 := Lib.hid (HFm.out.trans f7)
                clear h7 f7 KL HYm HFm qI
                go_wp2_with fail
                go_roundw
                case rel => exact ⟨4, by omega, by rfl, HY7.out, HF7.out⟩
                case measure => simp [intOf]
              · have HYe := Lib.hid (show LayY B (pk ++ [qa, qb, qc, qd].flatMap putI) _ from HYm.out)
                clear HYm
                go_wp2_with fail
                go_roundw
                case rel => exact ⟨j + 1, by have := HJ.out; omega, by first | rfl | (simp; done), by rw [HT.out]; exact HYe.out, HFm.out⟩
                case measure => have := HJ.out; simp [intOf]; omega
        · as_aux_lemma =>
            rw [if_neg (by decide), if_neg (by decide), if_neg (by decide), if_neg (by decide), ← List.append_assoc] at HT
            clear hkk
            rw [List.append_nil] at HT
            have c0 : w3.cell? ⟨p, 0, none⟩ = some (.int .i64 4) := cell_at HP3.out HP0.out
            go_wp2_with fail
            go_roundw
            case rel => exact ⟨j + 1, by have := HJ.out; omega, by first | rfl | (simp; done), by rw [HT.out]; exact HY3.out, HF3.out⟩
            case measure => have := HJ.out; simp [intOf]; omega
        · as_aux_lemma =>
            rw [if_neg (by decide), if_neg (by decide), if_neg (by decide), if_neg (by decide), ← List.append_assoc] at HT
            clear hkk
            rw [List.append_nil] at HT
            have c0 : w3.cell? ⟨p, 0, none⟩ = some (.int .i64 5) := cell_at HP3.out HP0.out
            go_wp2_with fail
            go_roundw
            case rel => exact ⟨j + 1, by have := HJ.out; omega, by first | rfl | (simp; done), by rw [HT.out]; exact HY3.out, HF3.out⟩
            case measure => have := HJ.out; simp [intOf]; omega
    · obtain rfl : j = N := by omega
      have hd : decide ((j : Int) < (j : Int)) = false := decide_eq_false (by omega)
      have hall : L.take j = L := by rw [HNL.out, List.take_length]
      rw [hall] at HY
      obtain ⟨ua, un, uc, hv, ho⟩ := HY.out.ex
      have b0 := cell_of_block (o := 0) hv rfl
      have HO := Lib.hid (show OwnTxt wr w.heap.size (.slice ua un uc) (putS L) from ho.base (by have := HBW.out; omega))
      have HE := Lib.hid (show Below w.heap.size w wr from by rw [← HBW.out]; exact HF.out.below)
      clear hv ho HY HF hall
      go_wp2_with fail
      go_ret
      exact ⟨_, rfl, HO.out, HE.out⟩
end Go.Proofs.YtdfkfcpkejjlnaaDoor
namespace Go.Proofs.YtdfkfcpkejjlnaaDoor
set_option linter.unusedVariables false
open Go.ChangeShapes Go.WideShapes Go.ChangeAt Go.RowKit Cs Rv
attribute [local go_sem ↓] Go.wp_at_zero Go.wp_at_succ comesTo_value_eq comesTo_skip_eq comesTo_enter_eq

set_option maxRecDepth 100000 in
set_option maxHeartbeats 2000000 in
theorem put_none (w : World) (a : Option Addr) (c : Nat) :
    Calls Tryd.prog 11 #[.slice a 0 c] w fun e w' => ∃ u, e = .returned u ∧ OwnTxt w' w.heap.size u (putS []) ∧ Below w.heap.size w w' := by
  have hb1 := below_alloc (Below.refl _ w) (.cells #[.slice none 0 0] 40)
  have HN1 := World.alloc_heap_new w (.cells #[.slice none 0 0] 40)
  have HE1 := Lib.hid hb1
  have HV := Lib.hid HN1
  have HO := Lib.hid (show OwnTxt (w.alloc (.cells #[.slice none 0 0] 40)) w.heap.size (.slice none 0 0) (putS []) from OwnTxt.nil)
  clear hb1 HN1
  go_enter Tryd.func11, Tryd.ntmps11
  go_upto_region 2 with fail
  generalize w.alloc (.cells #[.slice none 0 0] 40) = W0 at *
  obtain ⟨B, hB⟩ : ∃ B, B = w.heap.size := ⟨_, rfl⟩
  rw [← hB] at HV ⊢
  have HBW := Lib.hid hB
  clear hB
  go_wp2_with fail
  go_loopw [14] (fun i wr => i = .int .i64 0 ∧ wr = W0) (fun i _ => 0)
  case atStart => exact ⟨rfl, rfl⟩
  case round =>
    obtain ⟨rfl, rfl⟩ := hrel
    have b0 := cell_of_block (o := 0) HV.out rfl
    go_wp2_with fail
    go_ret
    rw [HBW.out]
    exact ⟨_, rfl, HO.out, HE1.out⟩
/-- the bytes of any row of steps -/
theorem put_s {w : World} {v : Value} {L : List SV} (hr : RowS w v L) (hg : ∀ x ∈ L, GoodS x) (hl : L.length ≤ 60) :
    Calls Tryd.prog 11 #[v] w fun e w' => ∃ u, e = .returned u ∧ OwnTxt w' w.heap.size u (putS L) ∧ Below w.heap.size w w' := by
  obtain ⟨a, c, rfl, hlc, h⟩ := hr
  rw [List.length_map] at *
  by_cases h0 : L = []
  · subst h0; exact put_none w a c
  · obtain ⟨b, off, rfl, hlt, hrow⟩ := h (List.length_pos_iff.2 h0)
    exact put_some hlc hlt hrow hg hl
/-! the document's -/
def bytesD (d : DV) : List Int := putI d.k ++ (if d.k = 0 then putTx (putC d.x) else if d.k = 1 then putTx (bytesOf d.s) else if d.k = 2 then putI (d.q.getD 0 0) else if d.k = 3 then d.q.flatMap putI else [])
theorem bytes_own (v : SV) : bytesS v = bytesD (ownS v) := by
  unfold bytesS bytesD ownS
  dsimp only
  by_cases h0 : v.k = 0
  · simp [h0]
  · by_cases h1 : v.k = 1
    · simp [h1]
    · by_cases h2 : v.k = 2
      · simp [h2]
      · by_cases h3 : v.k = 3
        · simp [h3]
        · simp [h0, h1, h2, h3]
theorem dC_len {v : DV} (g : GoodD v) : (dC v).length = 18 := by unfold dC; simp [numC_len, g.x, g.q]
theorem dC_one {v : DV} (g : GoodD v) : (dC v).all (·.oneCell') = true := by
  obtain ⟨k, x0, x1, x2, x3, x4, x5, x6, x7, x8, x9, x10, x11, s, a, b, c, d, rfl⟩ := goodD_open g
  rfl
theorem dC_parts {v : DV} (g : GoodD v) : (dC v)[0]? = some (.int .i64 v.k) ∧ (dC v)[13]? = some (.string v.s) ∧ (∀ i, i < 4 → (dC v)[14 + i]? = some (.int .i64 (v.q.getD i 0))) ∧ ((dC v).drop 1).take 12 = numC v.x := by
  obtain ⟨k, x0, x1, x2, x3, x4, x5, x6, x7, x8, x9, x10, x11, s, a, b, c, d, rfl⟩ := goodD_open g
  refine ⟨rfl, rfl, fun i hi => ?_, rfl⟩
  rcases (by omega : i = 0 ∨ i = 1 ∨ i = 2 ∨ i = 3) with rfl | rfl | rfl | rfl <;> rfl
theorem info_dstep : (Tryd.prog.info? 35).map (·.size) = some 18 := by kernel_rfl
theorem info_dcmd : (Tryd.prog.info? 32).map (·.size) = some 12 := by kernel_rfl
def RowD (w : World) (v : Value) (L : List SV) : Prop := RowV 18 w v (L.map fun s => dC (ownS s))
theorem RowD.below {w w' : World} {v : Value} {L : List SV} (h : RowD w v L) (hb : Below w.heap.size w w') : RowD w' v L := RowV.below h hb
set_option maxRecDepth 100000 in
set_option maxHeartbeats 2000000 in
theorem rput_none (w : World) (a : Option Addr) (c : Nat) :
    Calls Tryd.prog 12 #[.slice a 0 c] w fun e w' => e = .returned (.string (strOfNums (putS []))) ∧ Below w.heap.size w w' := by
  go_enter Tryd.func12, Tryd.ntmps12
  go_wp2_with fail
  go_loopw [3, 4] (fun s i wr => s = .string ⟨#[]⟩ ∧ i = .int .i64 0 ∧ wr = w) (fun _ i _ => 0)
  case atStart => exact ⟨rfl, rfl, rfl⟩
  case round =>
    obtain ⟨rfl, rfl, rfl⟩ := hrel
    go_wp2_with fail
    go_ret
    exact ⟨rfl, Below.refl _ _⟩
set_option maxRecDepth 100000 in
set_option maxHeartbeats 8000000 in
theorem rput_some {w : World} {rb off rc : Nat} {L : List SV} (hlc : L.length ≤ rc) (hlt : rb < w.heap.size) (hrow : ∀ k l, (L.map fun s => dC (ownS s))[k]? = some l → w.rangeAt rb (off + k * 18) l) (hg : ∀ x ∈ L, GoodS x) (hl : L.length ≤ 60) :
    Calls Tryd.prog 12 #[.slice (some ⟨rb, off, none⟩) L.length rc] w fun e w' => e = .returned (.string (strOfNums (putS L))) ∧ Below w.heap.size w w' := by
  have HG := Lib.hid hg
  have HL := Lib.hid hl
  have HROW := Lib.hid hrow
  have HLT := Lib.hid hlt
  have HLC := Lib.hid hlc
  clear hg hl hrow hlt hlc
  obtain ⟨N, hN⟩ : ∃ N, N = L.length := ⟨_, rfl⟩
  have HNL := Lib.hid hN
  obtain ⟨R, hR⟩ : ∃ R, R = strOfNums (putS L) := ⟨_, rfl⟩
  have HRR := Lib.hid hR
  rw [← hN, ← hR]
  clear hN hR
  go_enter Tryd.func12, Tryd.ntmps12
  go_wp2_with fail
  go_loopw [3, 4] (fun sv i wr => ∃ (j : Nat) (t : ByteArray), j ≤ N ∧ sv = .string t ∧ i = .int .i64 j ∧ t = strOfNums (putS (L.take j)) ∧ Below w.heap.size w wr) (fun _ i _ => N - (intOf i).toNat)
  case atStart => exact ⟨0, _, Nat.zero_le _, rfl, rfl, rfl, Below.refl _ _⟩
  case round =>
    obtain ⟨j, t, hj, rfl, rfl, ht, hf⟩ := hrel
    have HT0 := Lib.hid ht
    have HF := Lib.hid hf
    clear ht hf
    by_cases hjn : j < N
    · have hd : decide ((j : Int) < (N : Int)) = true := decide_eq_true (by omega)
      have hjI : (j : Int) < (N : Int) := by omega
      have hw1 : IntKind.i64.wrap ((j : Int) + 1) = (j : Int) + 1 := by have := HNL.out; have := HL.out; rw [IntKind.wrap_i64]; omega
      have HJ := Lib.hid hjn
      have HPL := Lib.hid (show (putS (L.take j)).length ≤ 18000 from by have := putS_len (L.take j) (fun x hx => HG.out x (List.mem_of_mem_take hx)); have := HNL.out; have := HL.out; rw [List.length_take] at *; omega)
      obtain ⟨v, hv⟩ : ∃ v, L[j]? = some v := ⟨_, List.getElem?_eq_getElem (by have := HNL.out; omega)⟩
      have hgv := HG.out v (List.mem_of_getElem? hv)
      have HT := Lib.hid (putS_take hv)
      have hc0 := HROW.out j (dC (ownS v)) (by rw [List.getElem?_map, hv]; rfl)
      have hc1 : wr.rangeAt rb (off + j * 18) (dC (ownS v)) := fun i u hi => (HF.out.cell (p := ⟨rb, off + j * 18 + i, none⟩) HLT.out).trans (hc0 i u hi)
      have HKK := Lib.hid (fun (h : rightS v = true) => right_kind h)
      have HRS := Lib.hid (fun (h : rightS v = true) (h1 : v.k = 1) => (show v.s.size ≤ 264 from by unfold rightS rightK at h; rw [h1] at h; simpa using h))
      have hgd := good_own hgv
      have kr := fun W => right_d hgd W
      rw [show rightK (ownS v).k (ownS v).x (ownS v).s = rightS v from rfl] at kr
      obtain ⟨r, hr⟩ : ∃ r, r = rightS v := ⟨_, rfl⟩
      rw [← hr] at HT kr HKK HRS
      have hks : (ownS v).k = v.k ∧ (ownS v).s = v.s := ⟨rfl, rfl⟩
      rw [← hks.1] at HKK HRS
      rw [← hks.2] at HRS
      rw [bytes_own] at HT
      have hpcl : (putC (ownS v).x).length ≤ 120 := putC_le hgv.x
      clear hr hv hc0 hj hjn hgv hks
      generalize ownS v = d at *
      obtain ⟨hp0, hp13, hp14, hp1⟩ := dC_parts hgd
      have hll := dC_len hgd
      have hone := dC_one hgd
      have kc := fun W => rput_any hgd.x hgd.x64 W
      have HGK := Lib.hid hgd.k64
      have hgq := hgd.q64
      have hq4 := hgd.q
      have hxl := numC_len d.x
      rw [hgd.x] at hxl
      unfold bytesD at HT
      generalize dC d = l at *
      obtain ⟨k, x, s, q⟩ := d
      dsimp only at *
      obtain ⟨qa, qb, qc, qd, rfl⟩ := four hq4
      generalize putC x = pc at *
      generalize numC x = xc at *
      have HC := Lib.hid hc1
      have KR := Lib.hid kr
      have KC := Lib.hid kc
      have HPC := Lib.hid hpcl
      have HGQ := Lib.hid hgq
      have HLL := Lib.hid hll
      have HP0 := Lib.hid hp0
      have HP13 := Lib.hid hp13
      have HP14 := Lib.hid (show l[14]? = some (.int .i64 qa) from hp14 0 (by decide))
      have HP15 := Lib.hid (show l[15]? = some (.int .i64 qb) from hp14 1 (by decide))
      have HP16 := Lib.hid (show l[16]? = some (.int .i64 qc) from hp14 2 (by decide))
      have HP17 := Lib.hid (show l[17]? = some (.int .i64 qd) from hp14 3 (by decide))
      have HM1 := Lib.hid hp1
      have HONE := Lib.hid hone
      have HXL := Lib.hid hxl
      clear hgd kr kc hpcl hc1 hgq hq4 hll hp0 hp13 hp14 hp1 hone hxl
      go_upto_region 5 with fail
      refine wp_region_lit ?_
      refine wpList_yield (w' := wr) (v := .slice (some ⟨rb, off, none⟩) N rc) rfl (by first | (go_simp; done) | (go_simp; rfl)) ?_
      refine wpList_yield (w' := wr) (v := .int .i64 j) rfl (by first | (go_simp; done) | (go_simp; rfl)) ?_
      refine wpList_yield (w' := wr) (v := .pointer (some ⟨rb, off + j * 18, none⟩)) rfl (by first | (go_simp; done) | (go_simp; rfl)) ?_
      refine wpList_load_elt rfl 35 _ rfl rb (off + j * 18) (by go_simp) l _ HC.out Tryd.underlying35 rfl (by rw [HLL.out]; exact info_dstep) ?_
      refine wpList_yield (w' := wr.alloc (.cells #[.int .i64 0, .int .i64 0, .int .i64 0, .int .i64 0, .int .i64 0, .int .i64 0, .int .i64 0, .int .i64 0, .int .i64 0, .int .i64 0, .int .i64 0, .int .i64 0, .int .i64 0, .string ⟨#[]⟩, .int .i64 0, .int .i64 0, .int .i64 0, .int .i64 0] 35)) (v := .pointer (some ⟨wr.heap.size, 0, none⟩)) rfl (by first | (go_simp; done) | (go_simp; rfl)) ?_
      refine wpList_store_all rfl 35 _ _ rfl wr.heap.size (cs := #[.int .i64 0, .int .i64 0, .int .i64 0, .int .i64 0, .int .i64 0, .int .i64 0, .int .i64 0, .int .i64 0, .int .i64 0, .int .i64 0, .int .i64 0, .int .i64 0, .int .i64 0, .string ⟨#[]⟩, .int .i64 0, .int .i64 0, .int .i64 0, .int .i64 0]) (T := 35) l (by go_simp) (by go_simp) (World.alloc_heap_new _ _) HLL.out (by rw [HLL.out]; exact info_dstep) HONE.out ?_
      intro V hV
      have hbV := hV.below (below_alloc (Below.refl _ wr) _) (Nat.le_refl _)
      have HPV := Lib.hid hV.there
      have HFV := Lib.hid (below_next HF.out hbV)
      clear hV hbV HC HF
      go_upto_region 6 with fail
      generalize wr.heap.size = p at *
      refine wp_region_lit ?_
      refine wpList_load_all rfl 35 _ rfl p l _ (by go_simp) HPV.out Tryd.underlying35 rfl (by rw [HLL.out]; exact info_dstep) ?_
      refine wpList_enter rfl (by go_simp) (KR.out V) ?_
      rintro e w2 ⟨rfl, hb2⟩
      refine ⟨_, rfl, ?_⟩
      have HF2 := Lib.hid (below_next HFV.out hb2)
      have HP2 := Lib.hid ((hb2.block p (Array.getElem?_eq_some_iff.1 HPV.out).1).trans HPV.out)
      clear hb2 HFV HPV KR
      cases r with
      | false =>
        rw [if_neg (by decide), List.append_nil] at HT
        go_wp2_with fail
        go_roundw
        case rel => exact ⟨j + 1, _, by have := HJ.out; omega, rfl, by first | rfl | (simp; done), by rw [HT.out]; exact HT0.out, HF2.out⟩
        case measure => have := HJ.out; simp [intOf]; omega
      | true =>
        rw [if_pos rfl] at HT
        have hkk := HKK.out rfl
        have hrs := Lib.hid (HRS.out rfl)
        clear HKK HRS
        generalize putS (L.take j) = pre at *
        have c0 : w2.cell? ⟨p, 0, none⟩ = some (.int .i64 k) := cell_at HP2.out HP0.out
        have KN := Lib.hid (rputint_any pre (by have := HPL.out; omega) HGK.out w2)
        rw [← HT0.out] at KN
        go_wp2_with fail
        refine KN.out.mono ?_
        rintro e w3 ⟨rfl, hb3⟩
        have HF3 := Lib.hid (below_next HF2.out hb3)
        have HP3 := Lib.hid ((hb3.block p (Array.getElem?_eq_some_iff.1 HP2.out).1).trans HP2.out)
        have HKL := Lib.hid (putI_len HGK.out)
        clear hb3 KN c0 HF2 HP2
        obtain ⟨pk, hpk⟩ : ∃ pk, pk = pre ++ putI k := ⟨_, rfl⟩
        have HPK := Lib.hid (show pk.length ≤ 18010 from by rw [hpk, List.length_append]; have := HPL.out; have := HKL.out; omega)
        rw [← List.append_assoc, ← hpk] at HT
        obtain ⟨t3, ht3⟩ : ∃ t3, t3 = strOfNums pk := ⟨_, rfl⟩
        have HT3 := Lib.hid ht3
        rw [← hpk, ← ht3]
        clear hpk ht3
        rcases (by omega : k = 0 ∨ k = 1 ∨ k = 2 ∨ k = 3 ∨ k = 4 ∨ k = 5) with rfl | rfl | rfl | rfl | rfl | rfl
        · as_aux_lemma =>
            rw [if_pos rfl] at HT
            clear hkk
            have c0 : w3.cell? ⟨p, 0, none⟩ = some (.int .i64 0) := cell_at HP3.out HP0.out
            go_upto_region 10 with fail
            refine wp_region_lit ?_
            refine wpList_yield (w' := w3) (v := .string t3) rfl (by first | (go_simp; done) | (go_simp; rfl)) ?_
            refine wpList_yield (w' := w3) (v := .pointer (some ⟨p, 1, none⟩)) rfl (by first | (go_simp; done) | (go_simp; rfl)) ?_
            refine wpList_load_elt rfl 32 _ rfl p 1 (by go_simp) xc _ (range_mid HP3.out 1 12 HM1.out) Tryd.underlying32 rfl (by rw [HXL.out]; exact info_dcmd) ?_
            refine wpList_enter rfl (by go_simp) (KC.out w3) ?_
            rintro e w4 ⟨rfl, hb4⟩
            refine ⟨_, rfl, ?_⟩
            have HF4 := Lib.hid (below_next HF3.out hb4)
            have KT := Lib.hid (rputtext_any pk pc (by have := HPK.out; omega) (by have := HPC.out; omega) w4)
            rw [← HT3.out] at KT
            obtain ⟨tp, htp⟩ : ∃ tp, tp = strOfNums pc := ⟨_, rfl⟩
            rw [← htp] at KT ⊢
            clear hb4 HF3 HP3 c0 htp
            go_simp
            go_wp2_with fail
            refine KT.out.mono ?_
            rintro e w5 ⟨rfl, hb5⟩
            have HF5 := Lib.hid (below_next HF4.out hb5)
            clear hb5 HF4 KT
            go_wp2_with fail
            go_roundw
            case rel => exact ⟨j + 1, _, by have := HJ.out; omega, rfl, by first | rfl | (simp; done), by rw [HT.out], HF5.out⟩
            case measure => have := HJ.out; simp [intOf]; omega
        · as_aux_lemma =>
            rw [if_neg (by decide), if_pos rfl] at HT
            clear hkk
            have c0 : w3.cell? ⟨p, 0, none⟩ = some (.int .i64 1) := cell_at HP3.out HP0.out
            have c13 : w3.cell? ⟨p, 13, none⟩ = some (.string s) := cell_at HP3.out HP13.out
            have KT := Lib.hid (rputtext_any pk (bytesOf s) (by have := HPK.out; omega) (by have := hrs.out rfl; rw [bytesOf_length]; omega) w3)
            rw [← HT3.out, str_bytes] at KT
            go_wp2_with fail
            refine KT.out.mono ?_
            rintro e w5 ⟨rfl, hb5⟩
            have HF5 := Lib.hid (below_next HF3.out hb5)
            clear hb5 HF3 KT c0 c13 HP3
            go_wp2_with fail
            go_roundw
            case rel => exact ⟨j + 1, _, by have := HJ.out; omega, rfl, by first | rfl | (simp; done), by rw [HT.out], HF5.out⟩
            case measure => have := HJ.out; simp [intOf]; omega
        · as_aux_lemma =>
            rw [if_neg (by decide), if_neg (by decide), if_pos rfl] at HT
            clear hkk
            have c0 : w3.cell? ⟨p, 0, none⟩ = some (.int .i64 2) := cell_at HP3.out HP0.out
            have c14 : w3.cell? ⟨p, 14, none⟩ = some (.int .i64 qa) := cell_at HP3.out HP14.out
            have KT := Lib.hid (rputint_any pk (by have := HPK.out; omega) (HGQ.out qa (by simp)) w3)
            rw [← HT3.out] at KT
            go_wp2_with fail
            refine KT.out.mono ?_
            rintro e w5 ⟨rfl, hb5⟩
            have HF5 := Lib.hid (below_next HF3.out hb5)
            clear hb5 HF3 KT c0 c14 HP3
            go_wp2_with fail
            go_roundw
            case rel => exact ⟨j + 1, _, by have := HJ.out; omega, rfl, by first | rfl | (simp; done), by rw [HT.out]; rfl, HF5.out⟩
            case measure => have := HJ.out; simp [intOf]; omega
        · as_aux_lemma =>
            rw [if_neg (by decide), if_neg (by decide), if_neg (by decide), if_pos rfl] at HT
            clear hkk
            have c0 : w3.cell? ⟨p, 0, none⟩ = some (.int .i64 3) := cell_at HP3.out HP0.out
            go_wp2_with fail
            clear c0
            have HQL := Lib.hid (show ∀ m, m ≤ 4 → (([qa, qb, qc, qd].take m).flatMap putI).length ≤ 40 from fun m hm => by have := flat_le ([qa, qb, qc, qd].take m) (fun y hy => HGQ.out y (List.mem_of_mem_take hy)); rw [List.length_take] at this; have : min m [qa, qb, qc, qd].length ≤ 4 := Nat.min_le_right _ _; omega)
            go_loopw [3, 6] (fun sv i wr => ∃ (m : Nat) (t : ByteArray), m ≤ 4 ∧ sv = .string t ∧ i = .int .i64 m ∧ t = strOfNums (pk ++ ([qa, qb, qc, qd].take m).flatMap putI) ∧ wr.heap[p]? = some (.cells l.toArray 35 (0, 0)) ∧ Below w.heap.size w wr) (fun _ i _ => 4 - (intOf i).toNat)
            case atStart => exact ⟨0, _, Nat.zero_le _, rfl, rfl, by simpa using HT3.out, HP3.out, HF3.out⟩
            case round =>
              obtain ⟨m, t4, hm, rfl, rfl, ht4, hp4, hf4⟩ := hrel
              have HTm := Lib.hid ht4
              have HPm := Lib.hid hp4
              have HFm := Lib.hid hf4
              have HLm := Lib.hid (show (pk ++ ([qa, qb, qc, qd].take m).flatMap putI).length ≤ 200000 from by rw [List.length_append]; have := HQL.out m hm; have := HPK.out; omega)
              clear ht4 hp4 hf4 HP3 HF3
              rcases (by omega : m = 0 ∨ m = 1 ∨ m = 2 ∨ m = 3 ∨ m = 4) with rfl | rfl | rfl | rfl | rfl
              · have KL := Lib.hid (rputint_any _ (Nat.le_trans HLm.out (by decide)) (HGQ.out qa (by simp)) wr)
                have cc : wr.cell? ⟨p, 14, none⟩ = some (.int .i64 qa) := cell_at HPm.out HP14.out
                rw [← HTm.out, show pk ++ ([qa, qb, qc, qd].take 0).flatMap putI ++ putI qa = pk ++ ([qa, qb, qc, qd].take 1).flatMap putI from by simp] at KL
                go_wp2_with fail
                refine KL.out.mono ?_
                rintro e w7 ⟨rfl, hb7⟩
                have HF7 := Lib.hid (below_next HFm.out hb7)
                have HP7 := Lib.hid ((hb7.block p (Array.getElem?_eq_some_iff.1 HPm.out).1).trans HPm.out)
                clear hb7 KL HFm HPm cc
                go_wp2_with fail
                go_roundw
                case rel => exact ⟨1, _, by omega, rfl, by rfl, by simp, HP7.out, HF7.out⟩
                case measure => simp [intOf]
              · have KL := Lib.hid (rputint_any _ (Nat.le_trans HLm.out (by decide)) (HGQ.out qb (by simp)) wr)
                have cc : wr.cell? ⟨p, 15, none⟩ = some (.int .i64 qb) := cell_at HPm.out HP15.out
                rw [← HTm.out, show pk ++ ([qa, qb, qc, qd].take 1).flatMap putI ++ putI qb = pk ++ ([qa, qb, qc, qd].take 2).flatMap putI from by simp] at KL
                go_wp2_with fail
                refine KL.out.mono ?_
                rintro e w7 ⟨rfl, hb7⟩
                have HF7 := Lib.hid (below_next HFm.out hb7)
                have HP7 := Lib.hid ((hb7.block p (Array.getElem?_eq_some_iff.1 HPm.out).1).trans HPm.out)
                clear hb7 KL HFm HPm cc
                go_wp2_with fail
                go_roundw
                case rel => exact ⟨2, _, by omega, rfl, by rfl, by simp, HP7.out, HF7.out⟩
                case measure => simp [intOf]
              · have KL := Lib.hid (rputint_any _ (Nat.le_trans HLm.out (by decide)) (HGQ.out qc (by simp)) wr)
                have cc : wr.cell? ⟨p, 16, none⟩ = some (.int .i64 qc) := cell_at HPm.out HP16.out
                rw [← HTm.out, show pk ++ ([qa, qb, qc, qd].take 2).flatMap putI ++ putI qc = pk ++ ([qa, qb, qc, qd].take 3).flatMap putI from by simp] at KL
                go_wp2_with fail
                refine KL.out.mono ?_
                rintro e w7 ⟨rfl, hb7⟩
                have HF7 := Lib.hid (below_next HFm.out hb7)
                have HP7 := Lib.hid ((hb7.block p (Array.getElem?_eq_some_iff.1 HPm.out).1).trans HPm.out)
                clear hb7 KL HFm HPm cc
                go_wp2_with fail
                go_roundw
                case rel => exact ⟨3, _, by omega, rfl, by rfl, by simp, HP7.out, HF7.out⟩
                case measure => simp [intOf]
              · have KL := Lib.hid (rputint_any _ (Nat.le_trans HLm.out (by decide)) (HGQ.out qd (by simp)) wr)
                have cc : wr.cell? ⟨p, 17, none⟩ = some (.int .i64 qd) := cell_at HPm.out HP17.out
                rw [← HTm.out, show pk ++ ([qa, qb, qc, qd].take 3).flatMap putI ++ putI qd = pk ++ ([qa, qb, qc, qd].take 4).flatMap putI from by simp] at KL
                go_wp2_with fail
                refine KL.out.mono ?_
                rintro e w7 ⟨rfl, hb7⟩
                have HF7 := Lib.hid (below_next HFm.out hb7)
                have HP7 := Lib.hid ((hb7.block p (Array.getElem?_eq_some_iff.1 HPm.out).1).trans HPm.out)
                clear hb7 KL HFm HPm cc
                go_wp2_with fail
                go_roundw
                case rel => exact ⟨4, _, by omega, rfl, by rfl, by simp, HP7.out, HF7.out⟩
                case measure => simp [intOf]
              · have HTe := Lib.hid (show t4 = strOfNums (pk ++ [qa, qb, qc, qd].flatMap putI) from HTm.out)
                clear HTm
                go_wp2_with fail
                go_roundw
                case rel => exact ⟨j + 1, _, by have := HJ.out; omega, rfl, by first | rfl | (simp; done), by rw [HT.out]; exact HTe.out, HFm.out⟩
                case measure => have := HJ.out; simp [intOf]; omega
        · as_aux_lemma =>
            rw [if_neg (by decide), if_neg (by decide), if_neg (by decide), if_neg (by decide)] at HT
            clear hkk
            have c0 : w3.cell? ⟨p, 0, none⟩ = some (.int .i64 4) := cell_at HP3.out HP0.out
            rw [List.append_nil] at HT
            go_wp2_with fail
            go_roundw
            case rel => exact ⟨j + 1, _, by have := HJ.out; omega, rfl, by first | rfl | (simp; done), by rw [HT.out]; exact HT3.out, HF3.out⟩
            case measure => have := HJ.out; simp [intOf]; omega
        · as_aux_lemma =>
            rw [if_neg (by decide), if_neg (by decide), if_neg (by decide), if_neg (by decide)] at HT
            clear hkk
            have c0 : w3.cell? ⟨p, 0, none⟩ = some (.int .i64 5) := cell_at HP3.out HP0.out
            rw [List.append_nil] at HT
            go_wp2_with fail
            go_roundw
            case rel => exact ⟨j + 1, _, by have := HJ.out; omega, rfl, by first | rfl | (simp; done), by rw [HT.out]; exact HT3.out, HF3.out⟩
            case measure => have := HJ.out; simp [intOf]; omega
    · obtain rfl : j = N := by omega
      have hd : decide ((j : Int) < (j : Int)) = false := decide_eq_false (by omega)
      have hall : L.take j = L := by rw [HNL.out, List.take_length]
      rw [hall, ← HRR.out] at HT0
      clear hall
      go_wp2_with fail
      go_ret
      exact ⟨by rw [HT0.out]; rfl, HF.out⟩
    /-- the document's bytes of any row of steps -/
    theorem rput_s {w : World} {v : Value} {L : List SV} (hr : RowD w v L) (hg : ∀ x ∈ L, GoodS x) (hl : L.length ≤ 60) :
        Calls Tryd.prog 12 #[v] w fun e w' => e = .returned (.string (strOfNums (putS L))) ∧ Below w.heap.size w w' := by
      obtain ⟨a, c, rfl, hlc, h⟩ := hr
      rw [List.length_map] at *
      by_cases h0 : L = []
      · subst h0; exact rput_none w a c
      · obtain ⟨b, off, rfl, hlt, hrow⟩ := h (List.length_pos_iff.2 h0)
        exact rput_some hlc hlt hrow hg hl
end Go.Proofs.YtdfkfcpkejjlnaaDoor
