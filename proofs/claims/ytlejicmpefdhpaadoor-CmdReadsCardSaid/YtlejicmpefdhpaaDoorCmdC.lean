/- A command without what does not count (layer 22): Clean walked. No condition. -/
import Derived.Test.YtlejicmpefdhpaaDoorCmdP
import Derived.Test.YtlejicmpefdhpaaDoorCmdN
namespace Go.Proofs.YtlejicmpefdhpaaDoor
set_option linter.unusedVariables false
open Go.ChangeShapes Go.WideShapes Go.ChangeAt Go.RowKit
attribute [local go_sem ↓] Go.wp_at_zero Go.wp_at_succ comesTo_value_eq comesTo_skip_eq comesTo_enter_eq

theorem counted_n (k : Nat) (h : 1 ≤ k ∧ k ≤ 12) (w : World) :
    Calls Tryd.prog 25 #[.int .i64 k] w fun e w' => e = .returned (.slice (some ⟨w.heap.size, 0, none⟩) (cntN k).length (cntN k).length) ∧ w'.heap[w.heap.size]? = some (.cells ((cntN k).map fun (f : Nat) => Value.int .i64 (f : Int)).toArray 3 (0, 0)) ∧ Below w.heap.size w w' := by
  refine (counted_at k h w).mono fun e w' hh => ?_
  rw [cntF_eq, List.length_map, List.map_map] at hh
  exact hh
theorem numC_arr_set {ys : List Int} {f : Nat} (v : Int) : (numC ys).toArray.setIfInBounds f (.int .i64 v) = (numC (ys.set f v)).toArray := by
  simp [numC]
theorem cmdC_one (xs : List Int) : (cmdC xs).all (·.oneCell') = true := by
  rw [List.all_eq_true]
  intro v hv
  unfold cmdC at hv
  rcases List.mem_append.1 hv with hv | hv
  · obtain ⟨x, _, rfl⟩ := List.mem_map.1 hv; rfl
  · rw [List.mem_singleton.1 hv]; rfl
theorem kindB_no {xs : List Int} (h : kindB xs = false) : xs.getD 0 0 < 1 ∨ 12 < xs.getD 0 0 := by
  unfold kindB at h
  rw [Bool.and_eq_false_iff, decide_eq_false_iff_not, decide_eq_false_iff_not] at h
  omega
theorem kindB_yes {xs : List Int} (h : kindB xs = true) : ∃ n : Nat, xs.getD 0 0 = (n : Int) ∧ kN xs = n ∧ 1 ≤ n ∧ n ≤ 12 := by
  unfold kindB at h
  rw [Bool.and_eq_true, decide_eq_true_eq, decide_eq_true_eq] at h
  exact ⟨(xs.getD 0 0).toNat, by omega, rfl, by omega, by omega⟩
set_option maxRecDepth 100000 in
set_option maxHeartbeats 400000 in
theorem clean_c {xs : List Int} (h : Cmd12 xs) (w : World) : Calls Tryd.prog 10 #[.agg (cmdC xs).toArray] w fun e w' => e = .returned (.agg (cmdC (cleanL xs)).toArray) ∧ Below w.heap.size w w' := by
  have KL := Lib.hid (fun W => laid_c h W)
  have hk0 : (cmdC xs).toArray[0]? = some (.int .i64 (xs.getD 0 0)) := by simpa using cmdC_kind h.len
  have HLEN := Lib.hid (cmdC_len h.len)
  have HK0 := Lib.hid hk0
  have HXL := Lib.hid h.len
  have hcl : kindB xs = true ∨ kindB xs = false := by cases kindB xs; exact .inr rfl; exact .inl rfl
  generalize hl : cmdC xs = l at *
  clear hl
  go_enter Tryd.func10, Tryd.ntmps10
  go_upto_region 1 with fail
  generalize hW : (w.alloc (.cells l.toArray 24)).alloc (.cells #[.int .i64 0, .int .i64 0, .int .i64 0, .int .i64 0, .int .i64 0, .int .i64 0, .int .i64 0, .int .i64 0, .int .i64 0, .int .i64 0, .int .i64 0, .bool false] 24) = U
  have hC : U.heap[w.heap.size]? = some (.cells l.toArray 24 (0, 0)) := by rw [← hW]; exact ((below_alloc (Below.refl _ _) _).block _ (by simp)).trans (World.alloc_heap_new w _)
  have hZ : U.heap[w.heap.size + 1]? = some (.cells #[.int .i64 0, .int .i64 0, .int .i64 0, .int .i64 0, .int .i64 0, .int .i64 0, .int .i64 0, .int .i64 0, .int .i64 0, .int .i64 0, .int .i64 0, .bool false] 24 (0, 0)) := by
    rw [← hW]
    have := World.alloc_heap_new (w.alloc (.cells l.toArray 24)) (.cells #[.int .i64 0, .int .i64 0, .int .i64 0, .int .i64 0, .int .i64 0, .int .i64 0, .int .i64 0, .int .i64 0, .int .i64 0, .int .i64 0, .int .i64 0, .bool false] 24)
    rwa [show (w.alloc (.cells l.toArray 24)).heap.size = w.heap.size + 1 by simp] at this
  have HB := Lib.hid (show Below w.heap.size w U by rw [← hW]; exact (by repeat (first | exact Below.refl _ _ | assumption | refine below_drewN ?_ _ | refine Below.drew ?_ | refine below_alloc ?_ _ | refine Below.alloc ?_ (by first | omega | (simp; done) | (simp; omega)) _ | refine Below.setCell ?_ (Below.size (by assumption)) _ | refine Below.setCell ?_ (by first | omega | (simp; done) | (simp; omega)) _ | (refine Below.trans ?_ (Below.mono (by assumption) (by first | omega | (simp; done) | (simp; omega)))) | refine below_next ?_ (by assumption))))
  have HS := Lib.hid (show U.heap.size = w.heap.size + 2 by rw [← hW]; simp)
  clear hW
  have c0 := cell_of_block (o := 0) hC hk0
  have HC := Lib.hid hC
  have HZ := Lib.hid hZ
  clear hC hZ hk0
  rcases hcl with hk | hk
  · obtain ⟨n, hn, hkn, hn1, hn2⟩ := kindB_yes hk
    rw [hn] at c0
    have KK := Lib.hid (iskind_yes (n : Int) (by omega) (by omega) U)
    have hres : cleanL xs = partL xs (cntN n) := by unfold cleanL; rw [if_pos hk, hkn]
    have HR := Lib.hid hres
    have HN0 := Lib.hid hn
    clear hk hn hkn hres
    go_wp2_with fail
    refine KK.out.mono ?_
    rintro e w1 ⟨rfl, rfl⟩
    go_upto_region 3 with fail
    refine wp_region_lit ?_
    refine wpList_load_all rfl 24 _ rfl w.heap.size l _ (by go_simp) HC.out Tryd.underlying24 rfl (by rw [HLEN.out]; kernel_rfl) ?_
    refine wpList_enter rfl (by go_simp) (KL.out U) ?_
    rintro e w2 ⟨rfl, hb2⟩
    refine ⟨_, rfl, ?_⟩
    have hz2 := (hb2.block _ (by have := HS.out; omega)).trans HZ.out
    have hc2 := (hb2.block _ (by have := HS.out; omega)).trans HC.out
    have HB2 := Lib.hid (below_next HB.out hb2)
    have hs2 : U.heap.size ≤ w2.heap.size := hb2.size
    have HM := Lib.hid (numC_len xs)
    have HMA := Lib.hid (fun (i : Nat) (hi : i < 12) => numC_at (xs := xs) (i := i) (by rw [h.len]; exact hi))
    have HCM := Lib.hid h
    have HPL := Lib.hid (partL_nil xs)
    have HX0 := Lib.hid (show (numC xs).toArray[0]? = some (.int .i64 (n : Int)) by have := HMA.out 0 (by decide); rw [HN0.out] at this; simpa using this)
    generalize hm : numC xs = m at *
    refine wpList_yield (w' := w2.alloc (.cells #[.int .i64 0, .int .i64 0, .int .i64 0, .int .i64 0, .int .i64 0, .int .i64 0, .int .i64 0, .int .i64 0, .int .i64 0, .int .i64 0, .int .i64 0, .int .i64 0] 55)) (v := .pointer (some ⟨w2.heap.size, 0, none⟩)) rfl (by go_simp) ?_
    refine wpList_store_all rfl 55 _ _ rfl w2.heap.size (cs := #[.int .i64 0, .int .i64 0, .int .i64 0, .int .i64 0, .int .i64 0, .int .i64 0, .int .i64 0, .int .i64 0, .int .i64 0, .int .i64 0, .int .i64 0, .int .i64 0]) (T := 55) m (by go_simp) (by go_simp) (World.alloc_heap_new _ _) (by rw [HM.out, HXL.out]; rfl) (by rw [HM.out, HXL.out]; kernel_rfl) (by rw [← hm]; simp [numC]; intro x _; rfl) ?_
    intro w3 hw3
    have hb3 := hw3.below (below_alloc (Below.refl _ w2) _) (Nat.le_refl _)
    have hs3 : w3.heap.size = w2.heap.size + 1 := by rw [hw3.size]; simp
    have hz3 := (hb3.block _ (by have := HS.out; omega)).trans hz2
    have hc3 := (hb3.block _ (by have := HS.out; omega)).trans hc2
    have hm3 := hw3.there
    have HB3 := Lib.hid (below_next HB2.out hb3)
    have HQ := Lib.hid (show w.heap.size + 2 ≤ w2.heap.size by have := HS.out; omega)
    clear hw3 hb3 hz2 hc2 hb2 hs2 HB2 HB HC HZ KK KL c0
    generalize w2.heap.size = q at *
    have HN3 := Lib.hid hs3
    have HZ3 := Lib.hid hz3
    have HC3 := Lib.hid hc3
    have HM3 := Lib.hid hm3
    have e0 := cell_of_block (o := 0) hm3 HX0.out
    clear hs3 hz3 hc3 hm3
    go_upto_region 4 with fail
    refine wp_region_lit ?_
    refine wpList_yield (w' := w3) (v := .pointer (some ⟨q, 0, none⟩)) rfl (by go_simp) ?_
    refine wpList_yield (w' := w3) (v := .int .i64 (n : Int)) rfl (by go_simp) ?_
    refine wpList_yield (w' := w3) (v := .agg #[.int .i64 (n : Int), .int .i64 0, .int .i64 0, .int .i64 0, .int .i64 0, .int .i64 0, .int .i64 0, .int .i64 0, .int .i64 0, .int .i64 0, .int .i64 0, .int .i64 0]) rfl (by go_simp) ?_
    refine wpList_yield (w' := w3.alloc (.cells #[.int .i64 0, .int .i64 0, .int .i64 0, .int .i64 0, .int .i64 0, .int .i64 0, .int .i64 0, .int .i64 0, .int .i64 0, .int .i64 0, .int .i64 0, .int .i64 0] 55)) (v := .pointer (some ⟨w3.heap.size, 0, none⟩)) rfl (by go_simp) ?_
    refine wpList_store_all rfl 55 _ _ rfl w3.heap.size (cs := #[.int .i64 0, .int .i64 0, .int .i64 0, .int .i64 0, .int .i64 0, .int .i64 0, .int .i64 0, .int .i64 0, .int .i64 0, .int .i64 0, .int .i64 0, .int .i64 0]) (T := 55) [.int .i64 (n : Int), .int .i64 0, .int .i64 0, .int .i64 0, .int .i64 0, .int .i64 0, .int .i64 0, .int .i64 0, .int .i64 0, .int .i64 0, .int .i64 0, .int .i64 0] (by go_simp) (by go_simp) (World.alloc_heap_new _ _) rfl (by kernel_rfl) rfl ?_
    intro w4 hw4
    have hb4 := hw4.below (below_alloc (Below.refl _ w3) _) (Nat.le_refl _)
    have hs4 : w4.heap.size = q + 2 := by rw [hw4.size]; simp; exact HN3.out
    have hp4 : w4.heap[q + 1]? = some (.cells (numC (partL xs [])).toArray 55 (0, 0)) := by
      have := hw4.there
      rw [HN3.out] at this
      rw [HPL.out, HN0.out]
      exact this
    have HZ4 := Lib.hid ((hb4.block _ (by have := HN3.out; have := HQ.out; omega)).trans HZ3.out)
    have hc4 := (hb4.block w.heap.size (by have := HN3.out; have := HQ.out; omega)).trans HC3.out
    have HM4 := Lib.hid ((hb4.block q (by have := HN3.out; omega)).trans HM3.out)
    have HB4 := Lib.hid (below_next HB3.out hb4)
    have c0 := cell_of_block (o := 0) hc4 (HN0.out ▸ HK0.out)
    have HS4 := Lib.hid hs4
    have HP4 := Lib.hid hp4
    have KC := Lib.hid (counted_n n ⟨hn1, hn2⟩ w4)
    rw [show w3.heap.size = q + 1 from HN3.out]
    clear hw4 hb4 hs4 hp4 hc4 e0 HZ3 HC3 HM3 HB3
    go_wp2_with fail
    ((with_reducible refine KC.out.mono ?_))
    rintro e w5 ⟨rfl, hcnt, hb5⟩
    have HZ5 := Lib.hid ((hb5.block _ (by have := HS4.out; have := HQ.out; omega)).trans HZ4.out)
    have HM5 := Lib.hid ((hb5.block q (by have := HS4.out; omega)).trans HM4.out)
    have HP5 := Lib.hid ((hb5.block (q + 1) (by have := HS4.out; omega)).trans HP4.out)
    have HB5 := Lib.hid (below_next HB4.out hb5)
    have HCNT := Lib.hid hcnt
    have hs5 : w4.heap.size < w5.heap.size := (Array.getElem?_eq_some_iff.1 hcnt).1
    rw [HS4.out] at hs5 HCNT
    have HS5 := Lib.hid hs5
    rw [show w4.heap.size = q + 2 from HS4.out]
    have hcl := cntN_len n
    have hci := cntN_in n
    have HCI := Lib.hid hci
    generalize hcs : cntN n = fs at *
    clear hcnt hb5 hs5 HZ4 HM4 HP4 HB4 c0 KC hci
    go_wp2_with fail
    have HMM := Lib.hid hm
    clear hm hcs
    generalize hlen : fs.length = len at *
    have HLN := Lib.hid hlen
    clear hlen
    go_loopw [21] (fun i wr => ∃ j : Nat, j ≤ len ∧ i = .int .i64 j ∧ wr.heap[q + 1]? = some (.cells (numC (partL xs (fs.take j))).toArray 55 (0, 0)) ∧ (∀ b, b ≠ q + 1 → wr.heap[b]? = w5.heap[b]?) ∧ Below w.heap.size w wr) (fun i _ => len - (intOf i).toNat)
    case atStart => exact ⟨0, Nat.zero_le _, rfl, HP5.out, fun _ _ => rfl, HB5.out⟩
    case round =>
      obtain ⟨j, hj, rfl, hp, hoth, hb⟩ := hrel
      have HP := Lib.hid hp
      have HO := Lib.hid hoth
      have HBR := Lib.hid hb
      clear hp hoth hb
      by_cases hlt : j < len
      · have hd : decide ((j : Int) < (len : Int)) = true := decide_eq_true (by omega)
        have hjl : j < fs.length := by have := HLN.out; omega
        have hcn : wr.cell? ⟨q + 2, j, none⟩ = some (.int .i64 ((fs.getD j 0 : Nat) : Int)) := by
          refine cell_of_block ((HO.out (q + 2) (by omega)).trans HCNT.out) ?_
          simp [hjl]
        have hmem : fs.getD j 0 ∈ fs := by simp [List.getD, hjl]
        have htk : fs.take (j + 1) = fs.take j ++ [fs.getD j 0] := by
          rw [List.take_add_one]; simp [List.getD, hjl]
        have hf := HCI.out _ hmem
        have HTK := Lib.hid htk
        clear hmem htk hjl
        generalize fs.getD j 0 = f at *
        have hf1 := hf.1
        have hf2 : f < 12 := by omega
        have hcm : wr.cell? ⟨q, f, none⟩ = some (.int .i64 (xs.getD f 0)) := by
          refine cell_of_block ((HO.out q (by omega)).trans HM5.out) ?_
          have := HMA.out f hf2
          simpa using this
        have hcp : wr.cell? ⟨q + 1, f, none⟩ = some (.int .i64 ((partL xs (fs.take j)).getD f 0)) := by
          refine cell_of_block HP.out ?_
          have := numC_at (xs := partL xs (fs.take j)) (i := f) (by rw [partL_len]; exact hf2)
          simpa using this
        have hfr := free_of_block f HP.out
        have HX := Lib.hid (show ∀ v, xs.getD f 0 = v → partL xs (fs.take (j + 1)) = (partL xs (fs.take j)).set f v from fun v hv => by rw [HTK.out, ← hv, partL_set hf1 (by omega)])
        clear hf
        generalize xs.getD f 0 = v at *
        generalize (partL xs (fs.take j)).getD f 0 = v0 at *
        go_wp2_with fail
        go_roundw
        case rel =>
          have hW := (wrote_refl HP.out).set f (.int .i64 v)
          refine ⟨j + 1, by omega, by go_num, ?_, fun b hb => (hW.rest b hb).trans (HO.out b hb), hW.below HBR.out (by have := HQ.out; omega)⟩
          rw [HX.out v rfl, ← numC_arr_set]
          exact hW.there
        case measure => simp [intOf]; omega
      · have hd : decide ((j : Int) < (len : Int)) = false := decide_eq_false (by omega)
        have hpj : partL xs (fs.take j) = cleanL xs := by
          have := HLN.out
          rw [List.take_of_length_le (by omega), HR.out]
        have HPE := Lib.hid (hpj ▸ HP.out)
        have HZE := Lib.hid ((HO.out (w.heap.size + 1) (by have := HQ.out; omega)).trans HZ5.out)
        have KO := Lib.hid (fun W => of_c (cleanL_len xs) W)
        have HCL := Lib.hid (cleanL_len xs)
        have HCL2 := Lib.hid (cmdC_len (cleanL_len xs))
        have HC1 := Lib.hid (numC_len (cleanL xs))
        have HAC := Lib.hid (cmdC_one (cleanL xs))
        have HQ2 := Lib.hid (HBR.out.size)
        generalize numC (cleanL xs) = zl at *
        generalize hzc : cmdC (cleanL xs) = zc at *
        clear hpj hd
        have hd : decide ((j : Int) < (len : Int)) = false := decide_eq_false (by omega)
        have hlw : w.heap.size + 1 < wr.heap.size := (Array.getElem?_eq_some_iff.1 HZE.out).1
        have HLW := Lib.hid hlw
        have HZC := Lib.hid hzc
        clear hlw hzc
        go_upto_region 10 with fail
        refine wp_region_lit ?_
        refine wpList_load_all rfl 55 _ rfl (q + 1) zl _ (by go_simp) HPE.out Tryd.underlying55 rfl (by rw [HC1.out, HCL.out]; kernel_rfl) ?_
        refine wpList_enter rfl (by go_simp) (KO.out wr) ?_
        rintro e w6 ⟨rfl, hb6⟩
        refine ⟨_, rfl, ?_⟩
        have HZ6 := Lib.hid ((hb6.block _ HLW.out).trans HZE.out)
        have HB6 := Lib.hid (below_next HBR.out hb6)
        clear hb6
        refine wpList_store_all rfl 24 _ _ rfl (w.heap.size + 1) (T := 24) zc (by go_simp) (by go_simp) HZ6.out (by rw [HCL2.out]; rfl) (by rw [HCL2.out]; kernel_rfl) HAC.out ?_
        intro w7 hw7
        have HW7 := Lib.hid hw7.there
        have HB7 := Lib.hid (hw7.below HB6.out (by omega))
        clear hw7
        go_wp2_with fail
        exact bodyPost_ret (results_all zc _ Tryd.results10 (by go_simp) HW7.out Tryd.underlying24 rfl (by rw [HCL2.out]; kernel_rfl)) rfl ⟨by rw [HZC.out], HB7.out⟩
  · have KK := Lib.hid (iskind_no _ (kindB_no hk) U)
    have hres : cleanL xs = List.replicate 12 0 := by unfold cleanL; rw [hk, if_neg (by decide)]
    have HRES := Lib.hid hres
    clear hk hres
    generalize xs.getD 0 0 = k at *
    go_wp2_with fail
    refine KK.out.mono ?_
    rintro e w1 ⟨rfl, rfl⟩
    go_upto_region 2 with fail
    refine wp_region_lit ?_
    refine wpList_yield (w' := U) (v := .agg (cmdC (List.replicate 12 0)).toArray) rfl (by go_simp; rfl) ?_
    refine wpList_store_all rfl 24 _ _ rfl (w.heap.size + 1) (T := 24) (cmdC (List.replicate 12 0)) (by go_simp) (by go_simp) HZ.out rfl (by kernel_rfl) rfl ?_
    intro w7 hw7
    have HW7 := Lib.hid hw7.there
    have HB7 := Lib.hid (hw7.below HB.out (by omega))
    clear hw7
    go_wp2_with fail
    exact bodyPost_ret (results_all (cmdC (List.replicate 12 0)) _ Tryd.results10 (by go_simp) HW7.out Tryd.underlying24 rfl (by kernel_rfl)) rfl ⟨by rw [HRES.out], HB7.out⟩
end Go.Proofs.YtlejicmpefdhpaaDoor
