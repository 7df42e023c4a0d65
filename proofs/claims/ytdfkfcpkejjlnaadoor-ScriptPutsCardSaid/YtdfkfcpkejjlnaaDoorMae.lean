/- Laws that belong together: A command without what does not count (layer 22): Clean walked. No condition.; Whether a command may be (layer 22): Right walked. No condition.; A command's bytes (layer 22): Put walked. No condition.; Two commands, and two rows of twelve numbers, held against each other (layer 22). No condition.; A command for the document's answers, and which fields count, and what they may be, by the document (layer 22). No condition.; A command read from bytes (layer 22): Read walked. Its condition: errors.errorType reads as the program's text lays it.; What is laid of a command is read, and what is read is laid so; plainly (layer 22). No condition. -/
import Derived.Test.YtdfkfcpkejjlnaaDoorMad
import Derived.Test.YtdfkfcpkejjlnaaDoorMCmdN
import Derived.Test.YtdfkfcpkejjlnaaDoorMaa
import Derived.Test.YtdfkfcpkejjlnaaDoorMab
namespace Go.Proofs.YtdfkfcpkejjlnaaDoor
set_option linter.unusedVariables false
open Go.ChangeShapes Go.WideShapes Go.ChangeAt Go.RowKit
attribute [local go_sem ↓] Go.wp_at_zero Go.wp_at_succ comesTo_value_eq comesTo_skip_eq comesTo_enter_eq

theorem counted_n (k : Nat) (h : 1 ≤ k ∧ k ≤ 12) (w : World) :
    Calls Tryd.prog 41 #[.int .i64 k] w fun e w' => e = .returned (.slice (some ⟨w.heap.size, 0, none⟩) (cntN k).length (cntN k).length) ∧ w'.heap[w.heap.size]? = some (.cells ((cntN k).map fun (f : Nat) => Value.int .i64 (f : Int)).toArray 3 (0, 0)) ∧ Below w.heap.size w w' := by
  refine (counted_at k h w).mono fun e w' hh => ?_
  rw [cntF_eq, List.length_map, List.map_map] at hh
  exact hh
theorem numC_arr_set {ys : List Int} {f : Nat} (v : Int) : (numC ys).toArray.setIfInBounds f (.int .i64 v) = (numC (ys.set f v)).toArray := by
  simp [numC]
theorem cmdC_one (xs : List Int) : (cmdC xs).all (·.oneCell') = true := by
  rw [List.all_eq_true]
  intro v hv
  unfold cmdC at hv
  rcases List.mem_append.1 hv with hv | hv
  · obtain ⟨x, _, rfl⟩ := List.mem_map.1 hv; rfl
  · rw [List.mem_singleton.1 hv]; rfl
theorem kindB_no {xs : List Int} (h : kindB xs = false) : xs.getD 0 0 < 1 ∨ 12 < xs.getD 0 0 := by
  unfold kindB at h
  rw [Bool.and_eq_false_iff, decide_eq_false_iff_not, decide_eq_false_iff_not] at h
  omega
theorem kindB_yes {xs : List Int} (h : kindB xs = true) : ∃ n : Nat, xs.getD 0 0 = (n : Int) ∧ kN xs = n ∧ 1 ≤ n ∧ n ≤ 12 := by
  unfold kindB at h
  rw [Bool.and_eq_true, decide_eq_true_eq, decide_eq_true_eq] at h
  exact ⟨(xs.getD 0 0).toNat, by omega, rfl, by omega, by omega⟩
set_option maxRecDepth 100000 in
set_option maxHeartbeats 400000 in
theorem clean_c {xs : List Int} (h : Cmd12 xs) (w : World) : Calls Tryd.prog 19 #[.agg (cmdC xs).toArray] w fun e w' => e = .returned (.agg (cmdC (cleanL xs)).toArray) ∧ Below w.heap.size w w' := by
  have KL := Lib.hid (fun W => laid_c h W)
  have hk0 : (cmdC xs).toArray[0]? = some (.int .i64 (xs.getD 0 0)) := by simpa using cmdC_kind h.len
  have HLEN := Lib.hid (cmdC_len h.len)
  have HK0 := Lib.hid hk0
  have HXL := Lib.hid h.len
  have hcl : kindB xs = true ∨ kindB xs = false := by cases kindB xs; exact .inr rfl; exact .inl rfl
  generalize hl : cmdC xs = l at *
  clear hl
  go_enter Tryd.func19, Tryd.ntmps19
  go_upto_region 1 with fail
  generalize hW : (w.alloc (.cells l.toArray 26)).alloc (.cells #[.int .i64 0, .int .i64 0, .int .i64 0, .int .i64 0, .int .i64 0, .int .i64 0, .int .i64 0, .int .i64 0, .int .i64 0, .int .i64 0, .int .i64 0, .bool false] 26) = U
  have hC : U.heap[w.heap.size]? = some (.cells l.toArray 26 (0, 0)) := by rw [← hW]; exact ((below_alloc (Below.refl _ _) _).block _ (by simp)).trans (World.alloc_heap_new w _)
  have hZ : U.heap[w.heap.size + 1]? = some (.cells #[.int .i64 0, .int .i64 0, .int .i64 0, .int .i64 0, .int .i64 0, .int .i64 0, .int .i64 0, .int .i64 0, .int .i64 0, .int .i64 0, .int .i64 0, .bool false] 26 (0, 0)) := by
    rw [← hW]
    have := World.alloc_heap_new (w.alloc (.cells l.toArray 26)) (.cells #[.int .i64 0, .int .i64 0, .int .i64 0, .int .i64 0, .int .i64 0, .int .i64 0, .int .i64 0, .int .i64 0, .int .i64 0, .int .i64 0, .int .i64 0, .bool false] 26)
    rwa [show (w.alloc (.cells l.toArray 26)).heap.size = w.heap.size + 1 by simp] at this
  have HB := Lib.hid (show Below w.heap.size w U by rw [← hW]; exact (by repeat (first | exact Below.refl _ _ | assumption | refine below_drewN ?_ _ | refine Below.drew ?_ | refine below_alloc ?_ _ | refine Below.alloc ?_ (by first | omega | (simp; done) | (simp; omega)) _ | refine Below.setCell ?_ (Below.size (by assumption)) _ | refine Below.setCell ?_ (by first | omega | (simp; done) | (simp; omega)) _ | (refine Below.trans ?_ (Below.mono (by assumption) (by first | omega | (simp; done) | (simp; omega)))) | refine below_next ?_ (by assumption))))
  have HS := Lib.hid (show U.heap.size = w.heap.size + 2 by rw [← hW]; simp)
  clear hW
  have c0 := cell_of_block (o := 0) hC hk0
  have HC := Lib.hid hC
  have HZ := Lib.hid hZ
  clear hC hZ hk0
  rcases hcl with hk | hk
  · obtain ⟨n, hn, hkn, hn1, hn2⟩ := kindB_yes hk
    rw [hn] at c0
    have KK := Lib.hid (iskind_yes (n : Int) (by omega) (by omega) U)
    have hres : cleanL xs = partL xs (cntN n) := by unfold cleanL; rw [if_pos hk, hkn]
    have HR := Lib.hid hres
    have HN0 := Lib.hid hn
    clear hk hn hkn hres
    go_wp2_with fail
    refine KK.out.mono ?_
    rintro e w1 ⟨rfl, rfl⟩
    go_upto_region 3 with fail
    refine wp_region_lit ?_
    refine wpList_load_all rfl 26 _ rfl w.heap.size l _ (by go_simp) HC.out Tryd.underlying26 rfl (by rw [HLEN.out]; kernel_rfl) ?_
    refine wpList_enter rfl (by go_simp) (KL.out U) ?_
    rintro e w2 ⟨rfl, hb2⟩
    refine ⟨_, rfl, ?_⟩
    have hz2 := (hb2.block _ (by have := HS.out; omega)).trans HZ.out
    have hc2 := (hb2.block _ (by have := HS.out; omega)).trans HC.out
    have HB2 := Lib.hid (below_next HB.out hb2)
    have hs2 : U.heap.size ≤ w2.heap.size := hb2.size
    have HM := Lib.hid (numC_len xs)
    have HMA := Lib.hid (fun (i : Nat) (hi : i < 12) => numC_at (xs := xs) (i := i) (by rw [h.len]; exact hi))
    have HCM := Lib.hid h
    have HPL := Lib.hid (partL_nil xs)
    have HX0 := Lib.hid (show (numC xs).toArray[0]? = some (.int .i64 (n : Int)) by have := HMA.out 0 (by decide); rw [HN0.out] at this; simpa using this)
    generalize hm : numC xs = m at *
    refine wpList_yield (w' := w2.alloc (.cells #[.int .i64 0, .int .i64 0, .int .i64 0, .int .i64 0, .int .i64 0, .int .i64 0, .int .i64 0, .int .i64 0, .int .i64 0, .int .i64 0, .int .i64 0, .int .i64 0] 80)) (v := .pointer (some ⟨w2.heap.size, 0, none⟩)) rfl (by go_simp) ?_
    refine wpList_store_all rfl 80 _ _ rfl w2.heap.size (cs := #[.int .i64 0, .int .i64 0, .int .i64 0, .int .i64 0, .int .i64 0, .int .i64 0, .int .i64 0, .int .i64 0, .int .i64 0, .int .i64 0, .int .i64 0, .int .i64 0]) (T := 80) m (by go_simp) (by go_simp) (World.alloc_heap_new _ _) (by rw [HM.out, HXL.out]; rfl) (by rw [HM.out, HXL.out]; kernel_rfl) (by rw [← hm]; simp [numC]; intro x _; rfl) ?_
    intro w3 hw3
    have hb3 := hw3.below (below_alloc (Below.refl _ w2) _) (Nat.le_refl _)
    have hs3 : w3.heap.size = w2.heap.size + 1 := by rw [hw3.size]; simp
    have hz3 := (hb3.block _ (by have := HS.out; omega)).trans hz2
    have hc3 := (hb3.block _ (by have := HS.out; omega)).trans hc2
    have hm3 := hw3.there
    have HB3 := Lib.hid (below_next HB2.out hb3)
    have HQ := Lib.hid (show w.heap.size + 2 ≤ w2.heap.size by have := HS.out; omega)
    clear hw3 hb3 hz2 hc2 hb2 hs2 HB2 HB HC HZ KK KL c0
    generalize w2.heap.size = q at *
    have HN3 := Lib.hid hs3
    have HZ3 := Lib.hid hz3
    have HC3 := Lib.hid hc3
    have HM3 := Lib.hid hm3
    have e0 := cell_of_block (o := 0) hm3 HX0.out
    clear hs3 hz3 hc3 hm3
    go_upto_region 4 with fail
    refine wp_region_lit ?_
    refine wpList_yield (w' := w3) (v := .pointer (some ⟨q, 0, none⟩)) rfl (by go_simp) ?_
    refine wpList_yield (w' := w3) (v := .int .i64 (n : Int)) rfl (by go_simp) ?_
    refine wpList_yield (w' := w3) (v := .agg #[.int .i64 (n : Int), .int .i64 0, .int .i64 0, .int .i64 0, .int .i64 0, .int .i64 0, .int .i64 0, .int .i64 0, .int .i64 0, .int .i64 0, .int .i64 0, .int .i64 0]) rfl (by go_simp) ?_
    refine wpList_yield (w' := w3.alloc (.cells #[.int .i64 0, .int .i64 0, .int .i64 0, .int .i64 0, .int .i64 0, .int .i64 0, .int .i64 0, .int .i64 0, .int .i64 0, .int .i64 0, .int .i64 0, .int .i64 0] 80)) (v := .pointer (some ⟨w3.heap.size, 0, none⟩)) rfl (by go_simp) ?_
    refine wpList_store_all rfl 80 _ _ rfl w3.heap.size (cs := #[.int .i64 0, .int .i64 0, .int .i64 0, .int .i64 0, .int .i64 0, .int .i64 0, .int .i64 0, .int .i64 0, .int .i64 0, .int .i64 0, .int .i64 0, .int .i64 0]) (T := 80) [.int .i64 (n : Int), .int .i64 0, .int .i64 0, .int .i64 0, .int .i64 0, .int .i64 0, .int .i64 0, .int .i64 0, .int .i64 0, .int .i64 0, .int .i64 0, .int .i64 0] (by go_simp) (by go_simp) (World.alloc_heap_new _ _) rfl (by kernel_rfl) rfl ?_
    intro w4 hw4
    have hb4 := hw4.below (below_alloc (Below.refl _ w3) _) (Nat.le_refl _)
    have hs4 : w4.heap.size = q + 2 := by rw [hw4.size]; simp; exact HN3.out
    have hp4 : w4.heap[q + 1]? = some (.cells (numC (partL xs [])).toArray 80 (0, 0)) := by
      have := hw4.there
      rw [HN3.out] at this
      rw [HPL.out, HN0.out]
      exact this
    have HZ4 := Lib.hid ((hb4.block _ (by have := HN3.out; have := HQ.out; omega)).trans HZ3.out)
    have hc4 := (hb4.block w.heap.size (by have := HN3.out; have := HQ.out; omega)).trans HC3.out
    have HM4 := Lib.hid ((hb4.block q (by have := HN3.out; omega)).trans HM3.out)
    have HB4 := Lib.hid (below_next HB3.out hb4)
    have c0 := cell_of_block (o := 0) hc4 (HN0.out ▸ HK0.out)
    have HS4 := Lib.hid hs4
    have HP4 := Lib.hid hp4
    have KC := Lib.hid (counted_n n ⟨hn1, hn2⟩ w4)
    rw [show w3.heap.size = q + 1 from HN3.out]
    clear hw4 hb4 hs4 hp4 hc4 e0 HZ3 HC3 HM3 HB3
    go_wp2_with fail
    ((with_reducible refine KC.out.mono ?_))
    rintro e w5 ⟨rfl, hcnt, hb5⟩
    have HZ5 := Lib.hid ((hb5.block _ (by have := HS4.out; have := HQ.out; omega)).trans HZ4.out)
    have HM5 := Lib.hid ((hb5.block q (by have := HS4.out; omega)).trans HM4.out)
    have HP5 := Lib.hid ((hb5.block (q + 1) (by have := HS4.out; omega)).trans HP4.out)
    have HB5 := Lib.hid (below_next HB4.out hb5)
    have HCNT := Lib.hid hcnt
    have hs5 : w4.heap.size < w5.heap.size := (Array.getElem?_eq_some_iff.1 hcnt).1
    rw [HS4.out] at hs5 HCNT
    have HS5 := Lib.hid hs5
    rw [show w4.heap.size = q + 2 from HS4.out]
    have hcl := cntN_len n
    have hci := cntN_in n
    have HCI := Lib.hid hci
    generalize hcs : cntN n = fs at *
    clear hcnt hb5 hs5 HZ4 HM4 HP4 HB4 c0 KC hci
    go_wp2_with fail
    have HMM := Lib.hid hm
    clear hm hcs
    generalize hlen : fs.length = len at *
    have HLN := Lib.hid hlen
    clear hlen
    go_loopw [21] (fun i wr => ∃ j : Nat, j ≤ len ∧ i = .int .i64 j ∧ wr.heap[q + 1]? = some (.cells (numC (partL xs (fs.take j))).toArray 80 (0, 0)) ∧ (∀ b, b ≠ q + 1 → wr.heap[b]? = w5.heap[b]?) ∧ Below w.heap.size w wr) (fun i _ => len - (intOf i).toNat)
    case atStart => exact ⟨0, Nat.zero_le _, rfl, HP5.out, fun _ _ => rfl, HB5.out⟩
    case round =>
      obtain ⟨j, hj, rfl, hp, hoth, hb⟩ := hrel
      have HP := Lib.hid hp
      have HO := Lib.hid hoth
      have HBR := Lib.hid hb
      clear hp hoth hb
      by_cases hlt : j < len
      · have hd : decide ((j : Int) < (len : Int)) = true := decide_eq_true (by omega)
        have hjl : j < fs.length := by have := HLN.out; omega
        have hcn : wr.cell? ⟨q + 2, j, none⟩ = some (.int .i64 ((fs.getD j 0 : Nat) : Int)) := by
          refine cell_of_block ((HO.out (q + 2) (by omega)).trans HCNT.out) ?_
          simp [hjl]
        have hmem : fs.getD j 0 ∈ fs := by simp [List.getD, hjl]
        have htk : fs.take (j + 1) = fs.take j ++ [fs.getD j 0] := by
          rw [List.take_add_one]; simp [List.getD, hjl]
        have hf := HCI.out _ hmem
        have HTK := Lib.hid htk
        clear hmem htk hjl
        generalize fs.getD j 0 = f at *
        have hf1 := hf.1
        have hf2 : f < 12 := by omega
        have hcm : wr.cell? ⟨q, f, none⟩ = some (.int .i64 (xs.getD f 0)) := by
          refine cell_of_block ((HO.out q (by omega)).trans HM5.out) ?_
          have := HMA.out f hf2
          simpa using this
        have hcp : wr.cell? ⟨q + 1, f, none⟩ = some (.int .i64 ((partL xs (fs.take j)).getD f 0)) := by
          refine cell_of_block HP.out ?_
          have := numC_at (xs := partL xs (fs.take j)) (i := f) (by rw [partL_len]; exact hf2)
          simpa using this
        have hfr := free_of_block f HP.out
        have HX := Lib.hid (show ∀ v, xs.getD f 0 = v → partL xs (fs.take (j + 1)) = (partL xs (fs.take j)).set f v from fun v hv => by rw [HTK.out, ← hv, partL_set hf1 (by omega)])
        clear hf
        generalize xs.getD f 0 = v at *
        generalize (partL xs (fs.take j)).getD f 0 = v0 at *
        go_wp2_with fail
        go_roundw
        case rel =>
          have hW := (wrote_refl HP.out).set f (.int .i64 v)
          refine ⟨j + 1, by omega, by go_num, ?_, fun b hb => (hW.rest b hb).trans (HO.out b hb), hW.below HBR.out (by have := HQ.out; omega)⟩
          rw [HX.out v rfl, ← numC_arr_set]
          exact hW.there
        case measure => simp [intOf]; omega
      · have hd : decide ((j : Int) < (len : Int)) = false := decide_eq_false (by omega)
        have hpj : partL xs (fs.take j) = cleanL xs := by
          have := HLN.out
          rw [List.take_of_length_le (by omega), HR.out]
        have HPE := Lib.hid (hpj ▸ HP.out)
        have HZE := Lib.hid ((HO.out (w.heap.size + 1) (by have := HQ.out; omega)).trans HZ5.out)
        have KO := Lib.hid (fun W => of_c (cleanL_len xs) W)
        have HCL := Lib.hid (cleanL_len xs)
        have HCL2 := Lib.hid (cmdC_len (cleanL_len xs))
        have HC1 := Lib.hid (numC_len (cleanL xs))
        have HAC := Lib.hid (cmdC_one (cleanL xs))
        have HQ2 := Lib.hid (HBR.out.size)
        generalize numC (cleanL xs) = zl at *
        generalize hzc : cmdC (cleanL xs) = zc at *
        clear hpj hd
        have hd : decide ((j : Int) < (len : Int)) = false := decide_eq_false (by omega)
        have hlw : w.heap.size + 1 < wr.heap.size := (Array.getElem?_eq_some_iff.1 HZE.out).1
        have HLW := Lib.hid hlw
        have HZC := Lib.hid hzc
        clear hlw hzc
        go_upto_region 10 with fail
        refine wp_region_lit ?_
        refine wpList_load_all rfl 80 _ rfl (q + 1) zl _ (by go_simp) HPE.out Tryd.underlying80 rfl (by rw [HC1.out, HCL.out]; kernel_rfl) ?_
        refine wpList_enter rfl (by go_simp) (KO.out wr) ?_
        rintro e w6 ⟨rfl, hb6⟩
        refine ⟨_, rfl, ?_⟩
        have HZ6 := Lib.hid ((hb6.block _ HLW.out).trans HZE.out)
        have HB6 := Lib.hid (below_next HBR.out hb6)
        clear hb6
        refine wpList_store_all rfl 26 _ _ rfl (w.heap.size + 1) (T := 26) zc (by go_simp) (by go_simp) HZ6.out (by rw [HCL2.out]; rfl) (by rw [HCL2.out]; kernel_rfl) HAC.out ?_
        intro w7 hw7
        have HW7 := Lib.hid hw7.there
        have HB7 := Lib.hid (hw7.below HB6.out (by omega))
        clear hw7
        go_wp2_with fail
        exact bodyPost_ret (results_all zc _ Tryd.results19 (by go_simp) HW7.out Tryd.underlying26 rfl (by rw [HCL2.out]; kernel_rfl)) rfl ⟨by rw [HZC.out], HB7.out⟩
  · have KK := Lib.hid (iskind_no _ (kindB_no hk) U)
    have hres : cleanL xs = List.replicate 12 0 := by unfold cleanL; rw [hk, if_neg (by decide)]
    have HRES := Lib.hid hres
    clear hk hres
    generalize xs.getD 0 0 = k at *
    go_wp2_with fail
    refine KK.out.mono ?_
    rintro e w1 ⟨rfl, rfl⟩
    go_upto_region 2 with fail
    refine wp_region_lit ?_
    refine wpList_yield (w' := U) (v := .agg (cmdC (List.replicate 12 0)).toArray) rfl (by go_simp; rfl) ?_
    refine wpList_store_all rfl 26 _ _ rfl (w.heap.size + 1) (T := 26) (cmdC (List.replicate 12 0)) (by go_simp) (by go_simp) HZ.out rfl (by kernel_rfl) rfl ?_
    intro w7 hw7
    have HW7 := Lib.hid hw7.there
    have HB7 := Lib.hid (hw7.below HB.out (by omega))
    clear hw7
    go_wp2_with fail
    exact bodyPost_ret (results_all (cmdC (List.replicate 12 0)) _ Tryd.results19 (by go_simp) HW7.out Tryd.underlying26 rfl (by kernel_rfl)) rfl ⟨by rw [HRES.out], HB7.out⟩
end Go.Proofs.YtdfkfcpkejjlnaaDoor
namespace Go.Proofs.YtdfkfcpkejjlnaaDoor
set_option linter.unusedVariables false
open Go.ChangeShapes Go.WideShapes Go.ChangeAt Go.RowKit
attribute [local go_sem ↓] Go.wp_at_zero Go.wp_at_succ comesTo_value_eq comesTo_skip_eq comesTo_enter_eq

theorem counted_no (k : Int) (h : k < 1 ∨ 12 < k) (w : World) :
    Calls Tryd.prog 41 #[.int .i64 k] w fun e w' => e = .returned (.slice none 0 0) ∧ w = w' := by
  have h1 : (k == 1) = false := by rw [beq_eq_false_iff_ne]; omega
  have h2 : (k == 2) = false := by rw [beq_eq_false_iff_ne]; omega
  have h3 : (k == 3) = false := by rw [beq_eq_false_iff_ne]; omega
  have h4 : (k == 4) = false := by rw [beq_eq_false_iff_ne]; omega
  have h5 : (k == 5) = false := by rw [beq_eq_false_iff_ne]; omega
  have h6 : (k == 6) = false := by rw [beq_eq_false_iff_ne]; omega
  have h7 : (k == 7) = false := by rw [beq_eq_false_iff_ne]; omega
  have h8 : (k == 8) = false := by rw [beq_eq_false_iff_ne]; omega
  have h9 : (k == 9) = false := by rw [beq_eq_false_iff_ne]; omega
  have h10 : (k == 10) = false := by rw [beq_eq_false_iff_ne]; omega
  have h11 : (k == 11) = false := by rw [beq_eq_false_iff_ne]; omega
  have h12 : (k == 12) = false := by rw [beq_eq_false_iff_ne]; omega
  clear h
  go_enter Tryd.func41, Tryd.ntmps41
  go_wp2
  go_ret
  exact ⟨rfl, rfl⟩
theorem numC_one (xs : List Int) : (numC xs).all (·.oneCell') = true := by
  rw [List.all_eq_true]
  intro v hv
  obtain ⟨x, _, rfl⟩ := List.mem_map.1 hv; rfl
set_option maxRecDepth 100000 in
set_option maxHeartbeats 400000 in
theorem right_c {xs : List Int} (h : Cmd12 xs) (w : World) : Calls Tryd.prog 17 #[.agg (cmdC xs).toArray] w fun e w' => e = .returned (.bool (rightL xs)) ∧ Below w.heap.size w w' := by
  have KL := Lib.hid (fun W => laid_c h W)
  have hk0 : (cmdC xs).toArray[0]? = some (.int .i64 (xs.getD 0 0)) := by simpa using cmdC_kind h.len
  have HLEN := Lib.hid (cmdC_len h.len)
  have HK0 := Lib.hid hk0
  have HXL := Lib.hid h.len
  have hcl : kindB xs = true ∨ kindB xs = false := by cases kindB xs; exact .inr rfl; exact .inl rfl
  have HM := Lib.hid (numC_len xs)
  have HMA := Lib.hid (fun (i : Nat) (hi : i < 12) => numC_at (xs := xs) (i := i) (by rw [h.len]; exact hi))
  have HM1 := Lib.hid (numC_one xs)
  generalize hl : cmdC xs = l at *
  generalize hm : numC xs = m at *
  clear hl hm hk0
  go_enter Tryd.func17, Tryd.ntmps17
  go_upto_region 1 with fail
  have hC := World.alloc_heap_new w (.cells l.toArray 26)
  have HB := Lib.hid (below_alloc (Below.refl _ w) (.cells l.toArray 26))
  have HS := Lib.hid (show (w.alloc (.cells l.toArray 26)).heap.size = w.heap.size + 1 by simp)
  generalize w.alloc (.cells l.toArray 26) = U at *
  have HC := Lib.hid hC
  clear hC
  refine wp_region_lit ?_
  refine wpList_load_all rfl 26 _ rfl w.heap.size l _ (by go_simp) HC.out Tryd.underlying26 rfl (by rw [HLEN.out]; kernel_rfl) ?_
  refine wpList_enter rfl (by go_simp) (KL.out U) ?_
  rintro e w2 ⟨rfl, hb2⟩
  refine ⟨_, rfl, ?_⟩
  have hc2 := (hb2.block w.heap.size (by have := HS.out; omega)).trans HC.out
  have HB2 := Lib.hid (below_next HB.out hb2)
  have hs2 : U.heap.size ≤ w2.heap.size := hb2.size
  refine wpList_yield (w' := w2.alloc (.cells #[.int .i64 0, .int .i64 0, .int .i64 0, .int .i64 0, .int .i64 0, .int .i64 0, .int .i64 0, .int .i64 0, .int .i64 0, .int .i64 0, .int .i64 0, .int .i64 0] 80)) (v := .pointer (some ⟨w2.heap.size, 0, none⟩)) rfl (by go_simp) ?_
  refine wpList_store_all rfl 80 _ _ rfl w2.heap.size (cs := #[.int .i64 0, .int .i64 0, .int .i64 0, .int .i64 0, .int .i64 0, .int .i64 0, .int .i64 0, .int .i64 0, .int .i64 0, .int .i64 0, .int .i64 0, .int .i64 0]) (T := 80) m (by go_simp) (by go_simp) (World.alloc_heap_new _ _) (by rw [HM.out, HXL.out]; rfl) (by rw [HM.out, HXL.out]; kernel_rfl) HM1.out ?_
  intro w3 hw3
  have hb3 := hw3.below (below_alloc (Below.refl _ w2) _) (Nat.le_refl _)
  have hs3 : w3.heap.size = w2.heap.size + 1 := by rw [hw3.size]; simp
  have hc3 := (hb3.block _ (by have := HS.out; omega)).trans hc2
  have HM3 := Lib.hid hw3.there
  have HB3 := Lib.hid (below_next HB2.out hb3)
  have HQ := Lib.hid (show w.heap.size + 1 ≤ w2.heap.size by have := HS.out; omega)
  have c0 := cell_of_block (o := 0) hc3 HK0.out
  have HC3 := Lib.hid hc3
  have HN3 := Lib.hid hs3
  clear hw3 hb3 hc3 hc2 hb2 hs2 HB2 HB HC KL hs3
  generalize w2.heap.size = q at *
  rcases hcl with hk | hk
  · obtain ⟨n, hn, hkn, hn1, hn2⟩ := kindB_yes hk
    rw [hn] at c0
    have HR := Lib.hid (show rightL xs = (cntN n).all fun f => decide ((bndF (n : Int) f).1 ≤ xs.getD f 0) && decide (xs.getD f 0 ≤ (bndF (n : Int) f).2) by unfold rightL; rw [hk, hkn, hn, Bool.true_and])
    have KC := Lib.hid (counted_n n ⟨hn1, hn2⟩ w3)
    have HN0 := Lib.hid hn
    clear hk hn hkn
    go_wp2_with fail
    ((with_reducible refine KC.out.mono ?_))
    rintro e w5 ⟨rfl, hcnt, hb5⟩
    have HM5 := Lib.hid ((hb5.block q (by have := HN3.out; omega)).trans HM3.out)
    have HB5 := Lib.hid (below_next HB3.out hb5)
    have hc5 := (hb5.block w.heap.size (by have := HN3.out; have := HQ.out; omega)).trans HC3.out
    have HC5 := Lib.hid hc5
    rw [HN3.out] at hcnt
    have HCNT := Lib.hid hcnt
    rw [show w3.heap.size = q + 1 from HN3.out]
    have hcl := cntN_len n
    have HCI := Lib.hid (cntN_in n)
    have KI := Lib.hid (fun W => iskind_yes (n : Int) (by omega) (by omega) W)
    generalize hcs : cntN n = fs at *
    clear hcnt hb5 c0 KC hcs hc5
    go_wp2_with fail
    generalize hlen : fs.length = len at *
    have HLN := Lib.hid hlen
    clear hlen
    go_loopw [14] (fun i wr => ∃ j : Nat, j ≤ len ∧ i = .int .i64 j ∧ (∀ f ∈ fs.take j, (bndF (n : Int) f).1 ≤ xs.getD f 0 ∧ xs.getD f 0 ≤ (bndF (n : Int) f).2) ∧ wr = w5) (fun i _ => len - (intOf i).toNat)
    case atStart => exact ⟨0, Nat.zero_le _, rfl, (fun f hf => by cases hf), rfl⟩
    case round =>
      obtain ⟨j, hj, rfl, hall, rfl⟩ := hrel
      have HA := Lib.hid hall
      clear hall
      by_cases hlt : j < len
      · have hd : decide ((j : Int) < (len : Int)) = true := decide_eq_true (by omega)
        have hjl : j < fs.length := by have := HLN.out; omega
        have hcn : wr.cell? ⟨q + 1, j, none⟩ = some (.int .i64 ((fs.getD j 0 : Nat) : Int)) := by
          refine cell_of_block HCNT.out ?_
          simp [hjl]
        have hmem : fs.getD j 0 ∈ fs := by simp [List.getD, hjl]
        have htk : fs.take (j + 1) = fs.take j ++ [fs.getD j 0] := by
          rw [List.take_add_one]; simp [List.getD, hjl]
        have hf := HCI.out _ hmem
        have HTK := Lib.hid htk
        have HMEM := Lib.hid hmem
        clear hmem htk hjl
        generalize fs.getD j 0 = f at *
        have hf1 := hf.1
        have hf2 : f < 12 := by omega
        have KB := Lib.hid (bounds_at (n : Int) f hf wr)
        have hcm : wr.cell? ⟨q, f, none⟩ = some (.int .i64 (xs.getD f 0)) := by
          refine cell_of_block HM5.out ?_
          have := HMA.out f hf2
          simpa using this
        have c0 := cell_of_block (o := 0) HC5.out HK0.out
        rw [show xs.getD 0 0 = (n : Int) from HN0.out] at c0
        have HX := Lib.hid (show ((bndF (n : Int) f).1 ≤ xs.getD f 0 ∧ xs.getD f 0 ≤ (bndF (n : Int) f).2) → ∀ g ∈ fs.take (j + 1), (bndF (n : Int) g).1 ≤ xs.getD g 0 ∧ xs.getD g 0 ≤ (bndF (n : Int) g).2 from fun hh g hg => by
          rw [HTK.out] at hg
          rcases List.mem_append.1 hg with hg | hg
          · exact HA.out g hg
          · rw [List.mem_singleton.1 hg]; exact hh)
        have HNO := Lib.hid (show ¬ ((bndF (n : Int) f).1 ≤ xs.getD f 0 ∧ xs.getD f 0 ≤ (bndF (n : Int) f).2) → rightL xs = false from fun hh => by
          rw [HR.out, List.all_eq_false]
          exact ⟨f, HMEM.out, by rw [Bool.and_eq_true, decide_eq_true_eq, decide_eq_true_eq]; exact hh⟩)
        clear hf
        generalize xs.getD f 0 = v at *
        rcases hbd : bndF (n : Int) f with ⟨lo, hi⟩
        rw [hbd] at KB HX HNO
        clear hbd
        simp only at KB HX HNO
        by_cases hlo : lo ≤ v
        · have hd1 : decide (v < lo) = false := decide_eq_false (by omega)
          by_cases hhi : v ≤ hi
          · have hd2 : decide (v > hi) = false := decide_eq_false (by omega)
            have HOK := Lib.hid (HX.out ⟨hlo, hhi⟩)
            clear hlo hhi
            go_wp2_with fail
            ((with_reducible refine KB.out.mono ?_))
            rintro e w6 ⟨rfl, rfl⟩
            go_wp2_with fail
            go_roundw
            case rel => exact ⟨j + 1, by omega, by go_num, HOK.out, trivial⟩
            case measure => simp [intOf]; omega
          · have hd2 : decide (v > hi) = true := decide_eq_true (by omega)
            have HF := Lib.hid (HNO.out fun hh => hhi hh.2)
            clear hlo hhi
            go_wp2_with fail
            ((with_reducible refine KB.out.mono ?_))
            rintro e w6 ⟨rfl, rfl⟩
            go_wp2
            go_ret
            exact ⟨by rw [HF.out]; rfl, HB5.out⟩
        · have hd1 : decide (v < lo) = true := decide_eq_true (by omega)
          have HF := Lib.hid (HNO.out fun hh => hlo hh.1)
          clear hlo
          go_wp2_with fail
          ((with_reducible refine KB.out.mono ?_))
          rintro e w6 ⟨rfl, rfl⟩
          go_wp2
          go_ret
          exact ⟨by rw [HF.out]; rfl, HB5.out⟩
      · have hd : decide ((j : Int) < (len : Int)) = false := decide_eq_false (by omega)
        have c0 := cell_of_block (o := 0) HC5.out HK0.out
        rw [show xs.getD 0 0 = (n : Int) from HN0.out] at c0
        have HT := Lib.hid (show rightL xs = true by
          rw [HR.out, List.all_eq_true]
          intro f hf
          have := HA.out f (by rw [List.take_of_length_le (by have := HLN.out; omega)]; exact hf)
          rw [Bool.and_eq_true, decide_eq_true_eq, decide_eq_true_eq]; exact this)
        go_wp2_with fail
        ((with_reducible refine (KI.out _).mono ?_))
        rintro e w6 ⟨rfl, rfl⟩
        go_wp2
        go_ret
        exact ⟨by rw [HT.out]; rfl, HB5.out⟩
  · have KC := Lib.hid (counted_no _ (kindB_no hk) w3)
    have KI := Lib.hid (iskind_no _ (kindB_no hk) w3)
    have HRES := Lib.hid (show rightL xs = false by unfold rightL; rw [hk, Bool.false_and])
    clear hk
    generalize xs.getD 0 0 = k at *
    go_wp2_with fail
    ((with_reducible refine KC.out.mono ?_))
    rintro e w5 ⟨rfl, rfl⟩
    go_wp2_with fail
    go_loopw [14] (fun i wr => i = .int .i64 0 ∧ wr = w3) (fun i _ => 0)
    case atStart => exact ⟨rfl, rfl⟩
    case round =>
      obtain ⟨rfl, rfl⟩ := hrel
      go_wp2_with fail
      ((with_reducible refine KI.out.mono ?_))
      rintro e w6 ⟨rfl, rfl⟩
      go_wp2
      go_ret
      exact ⟨by rw [HRES.out]; rfl, HB3.out⟩
end Go.Proofs.YtdfkfcpkejjlnaaDoor
namespace Go.Proofs.YtdfkfcpkejjlnaaDoor
set_option linter.unusedVariables false
open Go.ChangeShapes Go.WideShapes Go.ChangeAt Go.RowKit
attribute [local go_sem ↓] Go.wp_at_zero Go.wp_at_succ comesTo_value_eq comesTo_skip_eq comesTo_enter_eq

theorem getD_mem12 {zs : List Int} {j : Nat} (h : j < zs.length) : zs.getD j 0 ∈ zs := by simp [List.getD, h]
theorem index12 {zs : List Int} (h : zs.length = 12) (j : Nat) (hj : j < 12) (w : World) : (Instr.index 80 (.agg (numC zs).toArray) (.int .i64 (j : Int))).run Tryd.prog w = .ok (.int .i64 (zs.getD j 0)) w := by
  obtain ⟨x0, x1, x2, x3, x4, x5, x6, x7, x8, x9, x10, x11, rfl⟩ := twelve h
  rcases (show j = 0 ∨ j = 1 ∨ j = 2 ∨ j = 3 ∨ j = 4 ∨ j = 5 ∨ j = 6 ∨ j = 7 ∨ j = 8 ∨ j = 9 ∨ j = 10 ∨ j = 11 by omega) with rfl | rfl | rfl | rfl | rfl | rfl | rfl | rfl | rfl | rfl | rfl | rfl <;> kernel_rfl
set_option maxRecDepth 100000 in
set_option maxHeartbeats 400000 in
theorem put_c {xs : List Int} (h : Cmd12 xs) (w : World) : Calls Tryd.prog 25 #[.agg (cmdC xs).toArray] w fun e w' => ∃ u, e = .returned u ∧ OwnTxt w' w.heap.size u (putC xs) ∧ Below w.heap.size w w' := by
  have KC := Lib.hid (fun W => clean_c h W)
  have KL := Lib.hid (fun W => laid_c (cleanL_cmd h) W)
  have HLEN := Lib.hid (cmdC_len h.len)
  have HZ := Lib.hid (cleanL_cmd h)
  have HPC := Lib.hid (show putC xs = (cleanL xs).flatMap putI from rfl)
  have HIX := Lib.hid (fun j hj W => index12 (cleanL_len xs) j hj W)
  generalize hl : cmdC xs = l at *
  generalize hm : numC (cleanL xs) = m at *
  generalize hz : cmdC (cleanL xs) = z at *
  generalize hzs : cleanL xs = zs at *
  clear hl hm hz hzs
  go_enter Tryd.func25, Tryd.ntmps25
  go_upto_region 2 with fail
  have hC := World.alloc_heap_new w (.cells l.toArray 26)
  have HB := Lib.hid (below_alloc (Below.refl _ w) (.cells l.toArray 26))
  generalize w.alloc (.cells l.toArray 26) = U at *
  have HC := Lib.hid hC
  clear hC
  refine wp_region_lit ?_
  refine wpList_load_all rfl 26 _ rfl w.heap.size l _ (by go_simp) HC.out Tryd.underlying26 rfl (by rw [HLEN.out]; kernel_rfl) ?_
  refine wpList_enter rfl (by go_simp) (KC.out U) ?_
  rintro e w2 ⟨rfl, hb2⟩
  refine ⟨_, rfl, ?_⟩
  refine wpList_enter rfl (by go_simp) (KL.out w2) ?_
  rintro e w3 ⟨rfl, hb3⟩
  refine ⟨_, rfl, ?_⟩
  have HB3 := Lib.hid (below_next (below_next HB.out hb2) hb3)
  clear hb2 hb3 HB HC KC KL
  go_wp2_with fail
  go_loopw [3, 9] (fun b i wr => ∃ (j : Nat) (u : Value), j ≤ 12 ∧ b = u ∧ i = .int .i64 j ∧ OwnTxt wr w.heap.size u ((zs.take j).flatMap putI) ∧ Below w.heap.size w wr) (fun _ i _ => 12 - (intOf i).toNat)
  case atStart => exact ⟨0, _, Nat.zero_le _, rfl, rfl, OwnTxt.nil, HB3.out⟩
  case round =>
    obtain ⟨j, u, hj, rfl, rfl, ho, hb⟩ := hrel
    have HO := Lib.hid ho
    have HB := Lib.hid hb
    clear ho hb
    by_cases hlt : j < 12
    · have hd : decide ((j : Int) < 12) = true := decide_eq_true (by omega)
      have hjz : j < zs.length := by rw [HZ.out.len]; exact hlt
      have htk : zs.take (j + 1) = zs.take j ++ [zs.getD j 0] := by
        rw [List.take_add_one]; simp [List.getD, hjz]
      have hix := HIX.out j hlt wr
      have hlen : ((zs.take j).flatMap putI).length ≤ 1099511627776 := by
        have := flat_len (zs.take j) (fun x hx => HZ.out.inb x (List.mem_of_mem_take hx))
        have h2 : (zs.take j).length ≤ 12 := by simp; omega
        omega
      have KP := Lib.hid (putint_any HO.out.at hlen (HZ.out.inb _ (getD_mem12 hjz)))
      have HTK := Lib.hid (show (zs.take (j + 1)).flatMap putI = (zs.take j).flatMap putI ++ putI (zs.getD j 0) by rw [htk, List.flatMap_append]; simp)
      clear htk hlen hjz
      generalize zs.getD j 0 = v at *
      go_wp2_with fail
      ((with_reducible refine KP.out.mono ?_))
      rintro e w4 ⟨u4, rfl, ho4, hb4⟩
      have HO4 := Lib.hid ho4
      have HB4 := Lib.hid (below_next HB.out hb4)
      clear ho4 hb4 hix
      go_wp2_with fail
      go_roundw
      case rel => exact ⟨j + 1, u4, by omega, rfl, by go_num, by rw [HTK.out]; exact HO4.out.base HB.out.size, HB4.out⟩
      case measure => simp [intOf]; omega
    · have hd : decide ((j : Int) < 12) = false := decide_eq_false (by omega)
      have HE := Lib.hid (show (zs.take j).flatMap putI = putC xs by rw [List.take_of_length_le (by rw [HZ.out.len]; omega), HPC.out])
      go_wp2
      go_ret
      exact ⟨_, rfl, by rw [← HE.out]; exact HO.out, HB.out⟩
end Go.Proofs.YtdfkfcpkejjlnaaDoor
namespace Go.Proofs.YtdfkfcpkejjlnaaDoor
set_option linter.unusedVariables false
open Go.ChangeShapes Go.WideShapes Go.ChangeAt Go.RowKit

theorem sizeI64 (w : World) : (sizeOf 2).run Tryd.prog w = .ok 1 w := by kernel_rfl
theorem eqin12 {a b : List Int} (ha : a.length = 12) (hb : b.length = 12) (w : World) : (Op.equalIn 10000 80 (.agg (numC a).toArray) (.agg (numC b).toArray)).run Tryd.prog w = .ok (a == b) w := by
  unfold numC
  exact run_equalIn_ints w 9998 80 2 12 .i64 .i64 Tryd.underlying80 Tryd.underlying2 sizeI64 a b ha hb
theorem neq12 {a b : List Int} (ha : a.length = 12) (hb : b.length = 12) (w : World) : (binOp .neq 80 (.agg (numC a).toArray) (.agg (numC b).toArray)).run Tryd.prog w = .ok (.bool (!(a == b))) w := by
  rw [run_neq_struct]
  unfold numC
  rw [run_equalIn_ints w 9998 80 2 12 .i64 .i64 Tryd.underlying80 Tryd.underlying2 sizeI64 a b ha hb]
  rfl
theorem fields24 : (Tryd.prog.fieldsOf 26).toList.map (fun f => (f.name != "_", f.offset)) = (List.range 12).map fun i => (true, i) := by kernel_rfl
theorem ft24 : (Tryd.prog.fieldsOf 26).toList.all (fun f => if f.offset = 11 then (match Tryd.prog.underlying f.type with | some .bool => true | _ => false) else (match Tryd.prog.underlying f.type with | some (.int _) => true | _ => false)) = true := by kernel_rfl
theorem cmdC_at {xs : List Int} (h : xs.length = 12) {i : Nat} (hi : i < 11) : (cmdC xs).toArray[i]? = some (.int .i64 (xs.getD i 0)) := by
  obtain ⟨x0, x1, x2, x3, x4, x5, x6, x7, x8, x9, x10, x11, rfl⟩ := twelve h
  rcases (show i = 0 ∨ i = 1 ∨ i = 2 ∨ i = 3 ∨ i = 4 ∨ i = 5 ∨ i = 6 ∨ i = 7 ∨ i = 8 ∨ i = 9 ∨ i = 10 by omega) with rfl | rfl | rfl | rfl | rfl | rfl | rfl | rfl | rfl | rfl | rfl <;> rfl
theorem cmdC_at11 {xs : List Int} (h : xs.length = 12) : (cmdC xs).toArray[11]? = some (.bool (xs.getD 11 0 == 1)) := by
  obtain ⟨x0, x1, x2, x3, x4, x5, x6, x7, x8, x9, x10, x11, rfl⟩ := twelve h
  rfl
theorem eqinC {a b : List Int} (ha : Cmd12 a) (hb : Cmd12 b) (w : World) : (Op.equalIn 10000 26 (.agg (cmdC a).toArray) (.agg (cmdC b).toArray)).run Tryd.prog w = .ok (a == b) w := by
  have hS : Tryd.prog.underlying 26 = some (.struct (Tryd.prog.fieldsOf 26)) := by kernel_rfl
  have hp : Tryd.prog.stoodInHeld 26 = false := by kernel_rfl
  refine (run_equalIn_struct w 9999 _ _ _ hS hp).trans ?_
  have hall : (Tryd.prog.fieldsOf 26).toList.all (fun f => a.getD f.offset 0 == b.getD f.offset 0) = (a == b) := by
    rw [← all_range_ints a b (ha.len.trans hb.len.symm), ha.len]
    have h1 : (Tryd.prog.fieldsOf 26).toList.map (fun f => f.offset) = List.range 12 := by
      have := congrArg (List.map Prod.snd) fields24
      rw [List.map_map, List.map_map] at this
      exact this.trans rfl
    rw [← h1, List.all_map]
    rfl
  rw [run_eqFields_all w (fun f => a.getD f.offset 0 == b.getD f.offset 0), hall]
  · intro f hf
    have hm : (f.name != "_", f.offset) ∈ (List.range 12).map fun i => (true, i) := by
      rw [← fields24]; exact List.mem_map.2 ⟨f, hf, rfl⟩
    obtain ⟨i, hi, he⟩ := List.mem_map.1 hm
    rw [List.mem_range] at hi
    injection he with he1 he2
    refine ⟨by simpa using he1.symm, ?_⟩
    have ht := List.all_eq_true.1 ft24 f hf
    by_cases h11 : f.offset = 11
    · rw [if_pos h11] at ht
      have hu : Tryd.prog.underlying f.type = some .bool := by
        revert ht
        cases Tryd.prog.underlying f.type with
        | none => intro h; cases h
        | some d => cases d <;> intro h <;> first | rfl | cases h
      refine ⟨.bool (a.getD 11 0 == 1), .bool (b.getD 11 0 == 1), ?_, ?_, ?_⟩
      · simp [part, isAgg, run_underlying hu, h11, cmdC_at11 ha.len]
      · simp [part, isAgg, run_underlying hu, h11, cmdC_at11 hb.len]
      · refine (run_equalIn_bool w 9998 _ _ _ hu).trans ?_
        rw [h11, show ((a.getD 11 0 == 1) == (b.getD 11 0 == 1)) = (a.getD 11 0 == b.getD 11 0) by
          rcases ha.last with h | h <;> rcases hb.last with h' | h' <;> rw [h, h'] <;> decide]
    · rw [if_neg h11] at ht
      obtain ⟨k, hu⟩ : ∃ k, Tryd.prog.underlying f.type = some (.int k) := by
        revert ht
        cases Tryd.prog.underlying f.type with
        | none => intro h; cases h
        | some d => cases d <;> intro h <;> first | exact ⟨_, rfl⟩ | cases h
      have hlt : f.offset < 11 := by omega
      refine ⟨.int .i64 (a.getD f.offset 0), .int .i64 (b.getD f.offset 0), ?_, ?_, ?_⟩
      · have := cmdC_at ha.len hlt
        simp only [part, isAgg, Sem.run_bind, run_underlying hu, Result.andThen_ok, this]
        simp
      · have := cmdC_at hb.len hlt
        simp only [part, isAgg, Sem.run_bind, run_underlying hu, Result.andThen_ok, this]
        simp
      · exact run_equalIn_int w 9998 _ _ k _ _ hu
theorem eqlC {a b : List Int} (ha : Cmd12 a) (hb : Cmd12 b) (w : World) : (binOp .eql 26 (.agg (cmdC a).toArray) (.agg (cmdC b).toArray)).run Tryd.prog w = .ok (.bool (a == b)) w := by
  rw [run_eql_struct, eqinC ha hb w]
  rfl
end Go.Proofs.YtdfkfcpkejjlnaaDoor
namespace Go.Proofs.YtdfkfcpkejjlnaaDoor
set_option linter.unusedVariables false
open Go.ChangeShapes Go.WideShapes Go.ChangeAt Go.RowKit
attribute [local go_sem ↓] Go.wp_at_zero Go.wp_at_succ comesTo_value_eq comesTo_skip_eq comesTo_enter_eq

set_option maxRecDepth 100000 in
set_option maxHeartbeats 1000000 in
theorem own12 (x0 x1 x2 x3 x4 x5 x6 x7 x8 x9 x10 : Int) (b : Bool) (w : World) : Calls Tryd.prog 16 #[.agg #[.int .i64 x0, .int .i64 x1, .int .i64 x2, .int .i64 x3, .int .i64 x4, .int .i64 x5, .int .i64 x6, .int .i64 x7, .int .i64 x8, .int .i64 x9, .int .i64 x10, .bool b]] w fun e w' => e = .returned (.agg ([.int .i64 x0, .int .i64 x1, .int .i64 x2, .int .i64 x3, .int .i64 x4, .int .i64 x5, .int .i64 x6, .int .i64 x7, .int .i64 x8, .int .i64 x9, .int .i64 x10, .int .i64 (heldN b)] : List Value).toArray) ∧ Below w.heap.size w w' := by
  go_enter Tryd.func16, Tryd.ntmps16
  go_upto_region 1 with fail
  generalize hW : (w.alloc (.cells #[.int .i64 x0, .int .i64 x1, .int .i64 x2, .int .i64 x3, .int .i64 x4, .int .i64 x5, .int .i64 x6, .int .i64 x7, .int .i64 x8, .int .i64 x9, .int .i64 x10, .bool b] 26)).alloc (.cells #[.int .i64 0, .int .i64 0, .int .i64 0, .int .i64 0, .int .i64 0, .int .i64 0, .int .i64 0, .int .i64 0, .int .i64 0, .int .i64 0, .int .i64 0, .int .i64 0] 32) = U
  have hC : U.heap[w.heap.size]? = some (.cells #[.int .i64 x0, .int .i64 x1, .int .i64 x2, .int .i64 x3, .int .i64 x4, .int .i64 x5, .int .i64 x6, .int .i64 x7, .int .i64 x8, .int .i64 x9, .int .i64 x10, .bool b] 26 (0, 0)) := by rw [← hW]; exact ((below_alloc (Below.refl _ _) _).block _ (by simp)).trans (World.alloc_heap_new w _)
  have hZ : U.heap[w.heap.size + 1]? = some (.cells #[.int .i64 0, .int .i64 0, .int .i64 0, .int .i64 0, .int .i64 0, .int .i64 0, .int .i64 0, .int .i64 0, .int .i64 0, .int .i64 0, .int .i64 0, .int .i64 0] 32 (0, 0)) := by
    rw [← hW]
    have := World.alloc_heap_new (w.alloc (.cells #[.int .i64 x0, .int .i64 x1, .int .i64 x2, .int .i64 x3, .int .i64 x4, .int .i64 x5, .int .i64 x6, .int .i64 x7, .int .i64 x8, .int .i64 x9, .int .i64 x10, .bool b] 26)) (.cells #[.int .i64 0, .int .i64 0, .int .i64 0, .int .i64 0, .int .i64 0, .int .i64 0, .int .i64 0, .int .i64 0, .int .i64 0, .int .i64 0, .int .i64 0, .int .i64 0] 32)
    rwa [show (w.alloc (.cells #[.int .i64 x0, .int .i64 x1, .int .i64 x2, .int .i64 x3, .int .i64 x4, .int .i64 x5, .int .i64 x6, .int .i64 x7, .int .i64 x8, .int .i64 x9, .int .i64 x10, .bool b] 26)).heap.size = w.heap.size + 1 by simp] at this
  have HB := Lib.hid (show Below w.heap.size w U by rw [← hW]; exact (by repeat (first | exact Below.refl _ _ | assumption | refine below_drewN ?_ _ | refine Below.drew ?_ | refine below_alloc ?_ _ | refine Below.alloc ?_ (by first | omega | (simp; done) | (simp; omega)) _ | refine Below.setCell ?_ (Below.size (by assumption)) _ | refine Below.setCell ?_ (by first | omega | (simp; done) | (simp; omega)) _ | (refine Below.trans ?_ (Below.mono (by assumption) (by first | omega | (simp; done) | (simp; omega)))) | refine below_next ?_ (by assumption))))
  clear hW
  have c0 := cell_of_block (o := 0) hC rfl
  have c1 := cell_of_block (o := 1) hC rfl
  have c2 := cell_of_block (o := 2) hC rfl
  have c3 := cell_of_block (o := 3) hC rfl
  have c4 := cell_of_block (o := 4) hC rfl
  have c5 := cell_of_block (o := 5) hC rfl
  have c6 := cell_of_block (o := 6) hC rfl
  have c7 := cell_of_block (o := 7) hC rfl
  have c8 := cell_of_block (o := 8) hC rfl
  have c9 := cell_of_block (o := 9) hC rfl
  have c10 := cell_of_block (o := 10) hC rfl
  have c11 := cell_of_block (o := 11) hC rfl
  have HZ := Lib.hid hZ
  clear hZ hC
  cases b
  · go_upto_region 4 with fail
    refine wp_region_lit ?_
    refine wpList_yield (w' := U) (v := .pointer (some ⟨w.heap.size, 0, none⟩)) rfl (by go_simp) ?_
    refine wpList_yield (w' := U) (v := .int .i64 x0) rfl (by go_simp) ?_
    refine wpList_yield (w' := U) (v := .pointer (some ⟨w.heap.size, 1, none⟩)) rfl (by go_simp) ?_
    refine wpList_yield (w' := U) (v := .int .i64 x1) rfl (by go_simp) ?_
    refine wpList_yield (w' := U) (v := .pointer (some ⟨w.heap.size, 2, none⟩)) rfl (by go_simp) ?_
    refine wpList_yield (w' := U) (v := .int .i64 x2) rfl (by go_simp) ?_
    refine wpList_yield (w' := U) (v := .pointer (some ⟨w.heap.size, 3, none⟩)) rfl (by go_simp) ?_
    refine wpList_yield (w' := U) (v := .int .i64 x3) rfl (by go_simp) ?_
    refine wpList_yield (w' := U) (v := .pointer (some ⟨w.heap.size, 4, none⟩)) rfl (by go_simp) ?_
    refine wpList_yield (w' := U) (v := .int .i64 x4) rfl (by go_simp) ?_
    refine wpList_yield (w' := U) (v := .pointer (some ⟨w.heap.size, 5, none⟩)) rfl (by go_simp) ?_
    refine wpList_yield (w' := U) (v := .int .i64 x5) rfl (by go_simp) ?_
    refine wpList_yield (w' := U) (v := .pointer (some ⟨w.heap.size, 6, none⟩)) rfl (by go_simp) ?_
    refine wpList_yield (w' := U) (v := .int .i64 x6) rfl (by go_simp) ?_
    refine wpList_yield (w' := U) (v := .pointer (some ⟨w.heap.size, 7, none⟩)) rfl (by go_simp) ?_
    refine wpList_yield (w' := U) (v := .int .i64 x7) rfl (by go_simp) ?_
    refine wpList_yield (w' := U) (v := .pointer (some ⟨w.heap.size, 8, none⟩)) rfl (by go_simp) ?_
    refine wpList_yield (w' := U) (v := .int .i64 x8) rfl (by go_simp) ?_
    refine wpList_yield (w' := U) (v := .pointer (some ⟨w.heap.size, 9, none⟩)) rfl (by go_simp) ?_
    refine wpList_yield (w' := U) (v := .int .i64 x9) rfl (by go_simp) ?_
    refine wpList_yield (w' := U) (v := .pointer (some ⟨w.heap.size, 10, none⟩)) rfl (by go_simp) ?_
    refine wpList_yield (w' := U) (v := .int .i64 x10) rfl (by go_simp) ?_
    refine wpList_yield (w' := U) (v := .int .i64 0) rfl (by go_simp) ?_
    refine wpList_yield (w' := U) (v := .agg #[.int .i64 x1, .int .i64 x2, .int .i64 x3, .int .i64 x4, .int .i64 x5, .int .i64 x6, .int .i64 x7, .int .i64 x8, .int .i64 x9, .int .i64 x10, .int .i64 0]) rfl (by go_simp) ?_
    refine wpList_yield (w' := U) (v := .agg ([.int .i64 x0, .int .i64 x1, .int .i64 x2, .int .i64 x3, .int .i64 x4, .int .i64 x5, .int .i64 x6, .int .i64 x7, .int .i64 x8, .int .i64 x9, .int .i64 x10, .int .i64 0] : List Value).toArray) rfl (by go_simp) ?_
    clear c0 c1 c2 c3 c4 c5 c6 c7 c8 c9 c10 c11
    refine wpList_store_all rfl 32 _ _ rfl (w.heap.size + 1) (cs := #[.int .i64 0, .int .i64 0, .int .i64 0, .int .i64 0, .int .i64 0, .int .i64 0, .int .i64 0, .int .i64 0, .int .i64 0, .int .i64 0, .int .i64 0, .int .i64 0]) (T := 32) [.int .i64 x0, .int .i64 x1, .int .i64 x2, .int .i64 x3, .int .i64 x4, .int .i64 x5, .int .i64 x6, .int .i64 x7, .int .i64 x8, .int .i64 x9, .int .i64 x10, .int .i64 0] (by go_simp) (by go_simp) HZ.out rfl (by kernel_rfl) rfl ?_
    intro V hV
    have HV := Lib.hid hV
    have HB4 := Lib.hid (hV.below HB.out (by omega))
    clear hV
    go_wp2_with fail
    exact bodyPost_ret (results_all [.int .i64 x0, .int .i64 x1, .int .i64 x2, .int .i64 x3, .int .i64 x4, .int .i64 x5, .int .i64 x6, .int .i64 x7, .int .i64 x8, .int .i64 x9, .int .i64 x10, .int .i64 0] _ Tryd.results16 (by go_simp) HV.out.there Tryd.underlying32 rfl (by kernel_rfl)) rfl ⟨rfl, HB4.out⟩
  · go_upto_region 4 with fail
    refine wp_region_lit ?_
    refine wpList_yield (w' := U) (v := .pointer (some ⟨w.heap.size, 0, none⟩)) rfl (by go_simp) ?_
    refine wpList_yield (w' := U) (v := .int .i64 x0) rfl (by go_simp) ?_
    refine wpList_yield (w' := U) (v := .pointer (some ⟨w.heap.size, 1, none⟩)) rfl (by go_simp) ?_
    refine wpList_yield (w' := U) (v := .int .i64 x1) rfl (by go_simp) ?_
    refine wpList_yield (w' := U) (v := .pointer (some ⟨w.heap.size, 2, none⟩)) rfl (by go_simp) ?_
    refine wpList_yield (w' := U) (v := .int .i64 x2) rfl (by go_simp) ?_
    refine wpList_yield (w' := U) (v := .pointer (some ⟨w.heap.size, 3, none⟩)) rfl (by go_simp) ?_
    refine wpList_yield (w' := U) (v := .int .i64 x3) rfl (by go_simp) ?_
    refine wpList_yield (w' := U) (v := .pointer (some ⟨w.heap.size, 4, none⟩)) rfl (by go_simp) ?_
    refine wpList_yield (w' := U) (v := .int .i64 x4) rfl (by go_simp) ?_
    refine wpList_yield (w' := U) (v := .pointer (some ⟨w.heap.size, 5, none⟩)) rfl (by go_simp) ?_
    refine wpList_yield (w' := U) (v := .int .i64 x5) rfl (by go_simp) ?_
    refine wpList_yield (w' := U) (v := .pointer (some ⟨w.heap.size, 6, none⟩)) rfl (by go_simp) ?_
    refine wpList_yield (w' := U) (v := .int .i64 x6) rfl (by go_simp) ?_
    refine wpList_yield (w' := U) (v := .pointer (some ⟨w.heap.size, 7, none⟩)) rfl (by go_simp) ?_
    refine wpList_yield (w' := U) (v := .int .i64 x7) rfl (by go_simp) ?_
    refine wpList_yield (w' := U) (v := .pointer (some ⟨w.heap.size, 8, none⟩)) rfl (by go_simp) ?_
    refine wpList_yield (w' := U) (v := .int .i64 x8) rfl (by go_simp) ?_
    refine wpList_yield (w' := U) (v := .pointer (some ⟨w.heap.size, 9, none⟩)) rfl (by go_simp) ?_
    refine wpList_yield (w' := U) (v := .int .i64 x9) rfl (by go_simp) ?_
    refine wpList_yield (w' := U) (v := .pointer (some ⟨w.heap.size, 10, none⟩)) rfl (by go_simp) ?_
    refine wpList_yield (w' := U) (v := .int .i64 x10) rfl (by go_simp) ?_
    refine wpList_yield (w' := U) (v := .int .i64 1) rfl (by go_simp) ?_
    refine wpList_yield (w' := U) (v := .agg #[.int .i64 x1, .int .i64 x2, .int .i64 x3, .int .i64 x4, .int .i64 x5, .int .i64 x6, .int .i64 x7, .int .i64 x8, .int .i64 x9, .int .i64 x10, .int .i64 1]) rfl (by go_simp) ?_
    refine wpList_yield (w' := U) (v := .agg ([.int .i64 x0, .int .i64 x1, .int .i64 x2, .int .i64 x3, .int .i64 x4, .int .i64 x5, .int .i64 x6, .int .i64 x7, .int .i64 x8, .int .i64 x9, .int .i64 x10, .int .i64 1] : List Value).toArray) rfl (by go_simp) ?_
    clear c0 c1 c2 c3 c4 c5 c6 c7 c8 c9 c10 c11
    refine wpList_store_all rfl 32 _ _ rfl (w.heap.size + 1) (cs := #[.int .i64 0, .int .i64 0, .int .i64 0, .int .i64 0, .int .i64 0, .int .i64 0, .int .i64 0, .int .i64 0, .int .i64 0, .int .i64 0, .int .i64 0, .int .i64 0]) (T := 32) [.int .i64 x0, .int .i64 x1, .int .i64 x2, .int .i64 x3, .int .i64 x4, .int .i64 x5, .int .i64 x6, .int .i64 x7, .int .i64 x8, .int .i64 x9, .int .i64 x10, .int .i64 1] (by go_simp) (by go_simp) HZ.out rfl (by kernel_rfl) rfl ?_
    intro V hV
    have HV := Lib.hid hV
    have HB4 := Lib.hid (hV.below HB.out (by omega))
    clear hV
    go_wp2_with fail
    exact bodyPost_ret (results_all [.int .i64 x0, .int .i64 x1, .int .i64 x2, .int .i64 x3, .int .i64 x4, .int .i64 x5, .int .i64 x6, .int .i64 x7, .int .i64 x8, .int .i64 x9, .int .i64 x10, .int .i64 1] _ Tryd.results16 (by go_simp) HV.out.there Tryd.underlying32 rfl (by kernel_rfl)) rfl ⟨rfl, HB4.out⟩
theorem own_c {xs : List Int} (h : Cmd12 xs) (w : World) : Calls Tryd.prog 16 #[.agg (cmdC xs).toArray] w fun e w' => e = .returned (.agg (numC xs).toArray) ∧ Below w.heap.size w w' := by
  obtain ⟨x0, x1, x2, x3, x4, x5, x6, x7, x8, x9, x10, x11, rfl⟩ := twelve h.len
  have hl := h.last
  refine (own12 x0 x1 x2 x3 x4 x5 x6 x7 x8 x9 x10 (x11 == 1) w).mono fun e w' hh => ?_
  rw [show heldN (x11 == 1) = x11 by
    rcases (show x11 = 0 ∨ x11 = 1 from hl) with rfl | rfl <;> rfl] at hh
  exact hh
/-- a field's letter; a field's letter in a kind -/
def chrF (j : Nat) : Nat := [45, 73, 85, 80, 87, 78, 65, 110, 119, 84, 77, 72].getD j 45
def fldF (k i : Nat) : Nat := if i + 1 ∈ cntN k then chrF (i + 1) else 45
def fldS (k : Nat) : ByteArray := ⟨((List.range 11).map fun i => UInt8.ofNat (fldF k i)).toArray⟩
theorem fldS_size (k : Nat) : (fldS k).size = 11 := by simp [fldS, ByteArray.size]
theorem fldF_lt (k i : Nat) : fldF k i < 256 := by
  unfold fldF chrF
  split
  · rcases Nat.lt_or_ge (i + 1) 12 with h | h
    · have := of_decide_eq_true (show decide (∀ j : Nat, j < 12 → ([45, 73, 85, 80, 87, 78, 65, 110, 119, 84, 77, 72].getD j 45) < 256) = true by decide +kernel)
      exact this (i + 1) h
    · rw [List.getD_eq_getElem?_getD, List.getElem?_eq_none (by simpa using h)]; decide
  · decide
theorem fldS_get (k i : Nat) (h : i < (fldS k).size) : (((fldS k)[i]'h).toNat : Int) = (fldF k i : Int) := by
  have hi : i < 11 := by rw [fldS_size] at h; exact h
  have : (fldS k)[i]'h = UInt8.ofNat (fldF k i) := by
    show (fldS k).data[i] = _
    simp [fldS]
  rw [this]
  have := fldF_lt k i
  simp
  omega
theorem rfields_at (k : Nat) (h : 1 ≤ k ∧ k ≤ 12) (w : World) : Calls Tryd.prog 44 #[.int .i64 k] w fun e w' => e = .returned (.string (fldS k)) ∧ w = w' := by
  rcases (show k = 1 ∨ k = 2 ∨ k = 3 ∨ k = 4 ∨ k = 5 ∨ k = 6 ∨ k = 7 ∨ k = 8 ∨ k = 9 ∨ k = 10 ∨ k = 11 ∨ k = 12 by omega) with rfl | rfl | rfl | rfl | rfl | rfl | rfl | rfl | rfl | rfl | rfl | rfl
  · rw [show fldS 1 = ⟨#[45, 85, 80, 87, 78, 65, 45, 45, 84, 45, 72]⟩ by decide +kernel]
    clear h
    go_enter Tryd.func44, Tryd.ntmps44
    go_wp2
    go_ret
    exact ⟨rfl, rfl⟩
  · rw [show fldS 2 = ⟨#[73, 45, 45, 45, 45, 45, 45, 45, 45, 45, 45]⟩ by decide +kernel]
    clear h
    go_enter Tryd.func44, Tryd.ntmps44
    go_wp2
    go_ret
    exact ⟨rfl, rfl⟩
  · rw [show fldS 3 = ⟨#[73, 45, 45, 45, 45, 45, 45, 45, 45, 45, 45]⟩ by decide +kernel]
    clear h
    go_enter Tryd.func44, Tryd.ntmps44
    go_wp2
    go_ret
    exact ⟨rfl, rfl⟩
  · rw [show fldS 4 = ⟨#[73, 45, 45, 45, 45, 45, 45, 45, 45, 45, 45]⟩ by decide +kernel]
    clear h
    go_enter Tryd.func44, Tryd.ntmps44
    go_wp2
    go_ret
    exact ⟨rfl, rfl⟩
  · rw [show fldS 5 = ⟨#[73, 45, 45, 45, 45, 45, 45, 45, 84, 45, 45]⟩ by decide +kernel]
    clear h
    go_enter Tryd.func44, Tryd.ntmps44
    go_wp2
    go_ret
    exact ⟨rfl, rfl⟩
  · rw [show fldS 6 = ⟨#[45, 45, 80, 87, 45, 45, 45, 45, 84, 77, 45]⟩ by decide +kernel]
    clear h
    go_enter Tryd.func44, Tryd.ntmps44
    go_wp2
    go_ret
    exact ⟨rfl, rfl⟩
  · rw [show fldS 7 = ⟨#[73, 45, 80, 45, 45, 45, 45, 45, 45, 45, 45]⟩ by decide +kernel]
    clear h
    go_enter Tryd.func44, Tryd.ntmps44
    go_wp2
    go_ret
    exact ⟨rfl, rfl⟩
  · rw [show fldS 8 = ⟨#[45, 45, 80, 87, 45, 45, 45, 45, 45, 45, 45]⟩ by decide +kernel]
    clear h
    go_enter Tryd.func44, Tryd.ntmps44
    go_wp2
    go_ret
    exact ⟨rfl, rfl⟩
  · rw [show fldS 9 = ⟨#[45, 45, 80, 45, 45, 45, 45, 45, 45, 45, 45]⟩ by decide +kernel]
    clear h
    go_enter Tryd.func44, Tryd.ntmps44
    go_wp2
    go_ret
    exact ⟨rfl, rfl⟩
  · rw [show fldS 10 = ⟨#[45, 45, 45, 45, 45, 45, 45, 45, 84, 45, 45]⟩ by decide +kernel]
    clear h
    go_enter Tryd.func44, Tryd.ntmps44
    go_wp2
    go_ret
    exact ⟨rfl, rfl⟩
  · rw [show fldS 11 = ⟨#[45, 45, 80, 45, 45, 45, 110, 119, 45, 45, 45]⟩ by decide +kernel]
    clear h
    go_enter Tryd.func44, Tryd.ntmps44
    go_wp2
    go_ret
    exact ⟨rfl, rfl⟩
  · rw [show fldS 12 = ⟨#[73, 45, 45, 45, 45, 45, 45, 45, 45, 45, 45]⟩ by decide +kernel]
    clear h
    go_enter Tryd.func44, Tryd.ntmps44
    go_wp2
    go_ret
    exact ⟨rfl, rfl⟩
theorem rfields_no (k : Int) (h : k < 1 ∨ 12 < k) (w : World) : Calls Tryd.prog 44 #[.int .i64 k] w fun e w' => e = .returned (.string ⟨#[]⟩) ∧ w = w' := by
  have h1 : (k == 1) = false := by rw [beq_eq_false_iff_ne]; omega
  have h2 : (k == 2) = false := by rw [beq_eq_false_iff_ne]; omega
  have h3 : (k == 3) = false := by rw [beq_eq_false_iff_ne]; omega
  have h4 : (k == 4) = false := by rw [beq_eq_false_iff_ne]; omega
  have h5 : (k == 5) = false := by rw [beq_eq_false_iff_ne]; omega
  have h6 : (k == 6) = false := by rw [beq_eq_false_iff_ne]; omega
  have h7 : (k == 7) = false := by rw [beq_eq_false_iff_ne]; omega
  have h8 : (k == 8) = false := by rw [beq_eq_false_iff_ne]; omega
  have h9 : (k == 9) = false := by rw [beq_eq_false_iff_ne]; omega
  have h10 : (k == 10) = false := by rw [beq_eq_false_iff_ne]; omega
  have h11 : (k == 11) = false := by rw [beq_eq_false_iff_ne]; omega
  have h12 : (k == 12) = false := by rw [beq_eq_false_iff_ne]; omega
  clear h
  go_enter Tryd.func44, Tryd.ntmps44
  go_wp2
  go_ret
  exact ⟨rfl, rfl⟩
/-- may a number be a field's? -/
def inB (k : Int) (j : Nat) (v : Int) : Bool := decide ((bndF k j).1 ≤ v) && decide (v ≤ (bndF k j).2)
theorem rmay_dash (k v : Int) (w : World) : Calls Tryd.prog 45 #[.int .i64 k, .int .u8 45, .int .i64 v] w fun e w' => e = .returned (.bool true) ∧ w = w' := by
  go_enter Tryd.func45, Tryd.ntmps45
  go_wp2
  go_ret
  exact ⟨rfl, rfl⟩
theorem inB_low {k : Int} {j : Nat} {v lo hi : Int} (h : bndF k j = (lo, hi)) (hv : ¬ lo ≤ v) : inB k j v = false := by unfold inB; rw [h, decide_eq_false hv]; rfl
theorem inB_high {k : Int} {j : Nat} {v lo hi : Int} (h : bndF k j = (lo, hi)) (hl : lo ≤ v) (hv : ¬ v ≤ hi) : inB k j v = false := by unfold inB; rw [h, decide_eq_false hv, Bool.and_false]
theorem inB_yes {k : Int} {j : Nat} {v lo hi : Int} (h : bndF k j = (lo, hi)) (hl : lo ≤ v) (hv : v ≤ hi) : inB k j v = true := by unfold inB; rw [h, decide_eq_true hl, decide_eq_true hv]; rfl
theorem rmay_f1 (k v : Int) (w : World) : Calls Tryd.prog 45 #[.int .i64 k, .int .u8 73, .int .i64 v] w fun e w' => e = .returned (.bool (inB k 1 v)) ∧ w = w' := by
  have hb : bndF k 1 = (1, 1073741824) := rfl
  by_cases h1 : 1 ≤ v
  · have q1 : decide (v ≥ 1) = true := decide_eq_true (by omega)
    by_cases h2 : v ≤ 1073741824
    · have q2 : decide (v ≤ 1073741824) = true := decide_eq_true (by omega)
      rw [inB_yes hb h1 h2]
      clear hb h1 h2
      go_enter Tryd.func45, Tryd.ntmps45
      go_wp2
      go_ret
      exact ⟨rfl, rfl⟩
    · have q2 : decide (v ≤ 1073741824) = false := decide_eq_false (by omega)
      rw [inB_high hb h1 h2]
      clear hb h1 h2
      go_enter Tryd.func45, Tryd.ntmps45
      go_wp2
      go_ret
      exact ⟨rfl, rfl⟩
  · have q1 : decide (v ≥ 1) = false := decide_eq_false (by omega)
    rw [inB_low hb h1]
    clear hb h1
    go_enter Tryd.func45, Tryd.ntmps45
    go_wp2
    go_ret
    exact ⟨rfl, rfl⟩
theorem rmay_f2 (k v : Int) (w : World) : Calls Tryd.prog 45 #[.int .i64 k, .int .u8 85, .int .i64 v] w fun e w' => e = .returned (.bool (inB k 2 v)) ∧ w = w' := by
  have hb : bndF k 2 = (1, 16) := rfl
  by_cases h1 : 1 ≤ v
  · have q1 : decide (v ≥ 1) = true := decide_eq_true (by omega)
    by_cases h2 : v ≤ 16
    · have q2 : decide (v ≤ 16) = true := decide_eq_true (by omega)
      rw [inB_yes hb h1 h2]
      clear hb h1 h2
      go_enter Tryd.func45, Tryd.ntmps45
      go_wp2
      go_ret
      exact ⟨rfl, rfl⟩
    · have q2 : decide (v ≤ 16) = false := decide_eq_false (by omega)
      rw [inB_high hb h1 h2]
      clear hb h1 h2
      go_enter Tryd.func45, Tryd.ntmps45
      go_wp2
      go_ret
      exact ⟨rfl, rfl⟩
  · have q1 : decide (v ≥ 1) = false := decide_eq_false (by omega)
    rw [inB_low hb h1]
    clear hb h1
    go_enter Tryd.func45, Tryd.ntmps45
    go_wp2
    go_ret
    exact ⟨rfl, rfl⟩
theorem rmay_f3 (k v : Int) (w : World) : Calls Tryd.prog 45 #[.int .i64 k, .int .u8 80, .int .i64 v] w fun e w' => e = .returned (.bool (inB k 3 v)) ∧ w = w' := by
  have hb : bndF k 3 = (0, 3) := rfl
  by_cases h1 : 0 ≤ v
  · have q1 : decide (v ≥ 0) = true := decide_eq_true (by omega)
    by_cases h2 : v ≤ 3
    · have q2 : decide (v ≤ 3) = true := decide_eq_true (by omega)
      rw [inB_yes hb h1 h2]
      clear hb h1 h2
      go_enter Tryd.func45, Tryd.ntmps45
      go_wp2
      go_ret
      exact ⟨rfl, rfl⟩
    · have q2 : decide (v ≤ 3) = false := decide_eq_false (by omega)
      rw [inB_high hb h1 h2]
      clear hb h1 h2
      go_enter Tryd.func45, Tryd.ntmps45
      go_wp2
      go_ret
      exact ⟨rfl, rfl⟩
  · have q1 : decide (v ≥ 0) = false := decide_eq_false (by omega)
    rw [inB_low hb h1]
    clear hb h1
    go_enter Tryd.func45, Tryd.ntmps45
    go_wp2
    go_ret
    exact ⟨rfl, rfl⟩
theorem rmay_f4 (k v : Int) (w : World) : Calls Tryd.prog 45 #[.int .i64 k, .int .u8 87, .int .i64 v] w fun e w' => e = .returned (.bool (inB k 4 v)) ∧ w = w' := by
  have hb : bndF k 4 = (1, 64) := rfl
  by_cases h1 : 1 ≤ v
  · have q1 : decide (v ≥ 1) = true := decide_eq_true (by omega)
    by_cases h2 : v ≤ 64
    · have q2 : decide (v ≤ 64) = true := decide_eq_true (by omega)
      rw [inB_yes hb h1 h2]
      clear hb h1 h2
      go_enter Tryd.func45, Tryd.ntmps45
      go_wp2
      go_ret
      exact ⟨rfl, rfl⟩
    · have q2 : decide (v ≤ 64) = false := decide_eq_false (by omega)
      rw [inB_high hb h1 h2]
      clear hb h1 h2
      go_enter Tryd.func45, Tryd.ntmps45
      go_wp2
      go_ret
      exact ⟨rfl, rfl⟩
  · have q1 : decide (v ≥ 1) = false := decide_eq_false (by omega)
    rw [inB_low hb h1]
    clear hb h1
    go_enter Tryd.func45, Tryd.ntmps45
    go_wp2
    go_ret
    exact ⟨rfl, rfl⟩
theorem rmay_f5 (k v : Int) (w : World) : Calls Tryd.prog 45 #[.int .i64 k, .int .u8 78, .int .i64 v] w fun e w' => e = .returned (.bool (inB k 5 v)) ∧ w = w' := by
  have hb : bndF k 5 = (-100, 100) := rfl
  by_cases h1 : (-100) ≤ v
  · have q1 : decide (v ≥ (-100)) = true := decide_eq_true (by omega)
    by_cases h2 : v ≤ 100
    · have q2 : decide (v ≤ 100) = true := decide_eq_true (by omega)
      rw [inB_yes hb h1 h2]
      clear hb h1 h2
      go_enter Tryd.func45, Tryd.ntmps45
      go_wp2
      go_ret
      exact ⟨rfl, rfl⟩
    · have q2 : decide (v ≤ 100) = false := decide_eq_false (by omega)
      rw [inB_high hb h1 h2]
      clear hb h1 h2
      go_enter Tryd.func45, Tryd.ntmps45
      go_wp2
      go_ret
      exact ⟨rfl, rfl⟩
  · have q1 : decide (v ≥ (-100)) = false := decide_eq_false (by omega)
    rw [inB_low hb h1]
    clear hb h1
    go_enter Tryd.func45, Tryd.ntmps45
    go_wp2
    go_ret
    exact ⟨rfl, rfl⟩
theorem rmay_f6 (k v : Int) (w : World) : Calls Tryd.prog 45 #[.int .i64 k, .int .u8 65, .int .i64 v] w fun e w' => e = .returned (.bool (inB k 6 v)) ∧ w = w' := by
  have hb : bndF k 6 = (0, 1073741824) := rfl
  by_cases h1 : 0 ≤ v
  · have q1 : decide (v ≥ 0) = true := decide_eq_true (by omega)
    by_cases h2 : v ≤ 1073741824
    · have q2 : decide (v ≤ 1073741824) = true := decide_eq_true (by omega)
      rw [inB_yes hb h1 h2]
      clear hb h1 h2
      go_enter Tryd.func45, Tryd.ntmps45
      go_wp2
      go_ret
      exact ⟨rfl, rfl⟩
    · have q2 : decide (v ≤ 1073741824) = false := decide_eq_false (by omega)
      rw [inB_high hb h1 h2]
      clear hb h1 h2
      go_enter Tryd.func45, Tryd.ntmps45
      go_wp2
      go_ret
      exact ⟨rfl, rfl⟩
  · have q1 : decide (v ≥ 0) = false := decide_eq_false (by omega)
    rw [inB_low hb h1]
    clear hb h1
    go_enter Tryd.func45, Tryd.ntmps45
    go_wp2
    go_ret
    exact ⟨rfl, rfl⟩
theorem rmay_f7 (k v : Int) (w : World) : Calls Tryd.prog 45 #[.int .i64 k, .int .u8 110, .int .i64 v] w fun e w' => e = .returned (.bool (inB k 7 v)) ∧ w = w' := by
  have hb : bndF k 7 = (0, 63) := rfl
  by_cases h1 : 0 ≤ v
  · have q1 : decide (v ≥ 0) = true := decide_eq_true (by omega)
    by_cases h2 : v ≤ 63
    · have q2 : decide (v ≤ 63) = true := decide_eq_true (by omega)
      rw [inB_yes hb h1 h2]
      clear hb h1 h2
      go_enter Tryd.func45, Tryd.ntmps45
      go_wp2
      go_ret
      exact ⟨rfl, rfl⟩
    · have q2 : decide (v ≤ 63) = false := decide_eq_false (by omega)
      rw [inB_high hb h1 h2]
      clear hb h1 h2
      go_enter Tryd.func45, Tryd.ntmps45
      go_wp2
      go_ret
      exact ⟨rfl, rfl⟩
  · have q1 : decide (v ≥ 0) = false := decide_eq_false (by omega)
    rw [inB_low hb h1]
    clear hb h1
    go_enter Tryd.func45, Tryd.ntmps45
    go_wp2
    go_ret
    exact ⟨rfl, rfl⟩
theorem rmay_f8 (k v : Int) (w : World) : Calls Tryd.prog 45 #[.int .i64 k, .int .u8 119, .int .i64 v] w fun e w' => e = .returned (.bool (inB k 8 v)) ∧ w = w' := by
  have hb : bndF k 8 = (0, 4) := rfl
  by_cases h1 : 0 ≤ v
  · have q1 : decide (v ≥ 0) = true := decide_eq_true (by omega)
    by_cases h2 : v ≤ 4
    · have q2 : decide (v ≤ 4) = true := decide_eq_true (by omega)
      rw [inB_yes hb h1 h2]
      clear hb h1 h2
      go_enter Tryd.func45, Tryd.ntmps45
      go_wp2
      go_ret
      exact ⟨rfl, rfl⟩
    · have q2 : decide (v ≤ 4) = false := decide_eq_false (by omega)
      rw [inB_high hb h1 h2]
      clear hb h1 h2
      go_enter Tryd.func45, Tryd.ntmps45
      go_wp2
      go_ret
      exact ⟨rfl, rfl⟩
  · have q1 : decide (v ≥ 0) = false := decide_eq_false (by omega)
    rw [inB_low hb h1]
    clear hb h1
    go_enter Tryd.func45, Tryd.ntmps45
    go_wp2
    go_ret
    exact ⟨rfl, rfl⟩
theorem rmay_f10 (k v : Int) (w : World) : Calls Tryd.prog 45 #[.int .i64 k, .int .u8 77, .int .i64 v] w fun e w' => e = .returned (.bool (inB k 10 v)) ∧ w = w' := by
  have hb : bndF k 10 = (1, 1099511627775) := rfl
  by_cases h1 : 1 ≤ v
  · have q1 : decide (v ≥ 1) = true := decide_eq_true (by omega)
    by_cases h2 : v ≤ 1099511627775
    · have q2 : decide (v < 1099511627776) = true := decide_eq_true (by omega)
      rw [inB_yes hb h1 h2]
      clear hb h1 h2
      go_enter Tryd.func45, Tryd.ntmps45
      go_wp2
      go_ret
      exact ⟨rfl, rfl⟩
    · have q2 : decide (v < 1099511627776) = false := decide_eq_false (by omega)
      rw [inB_high hb h1 h2]
      clear hb h1 h2
      go_enter Tryd.func45, Tryd.ntmps45
      go_wp2
      go_ret
      exact ⟨rfl, rfl⟩
  · have q1 : decide (v ≥ 1) = false := decide_eq_false (by omega)
    rw [inB_low hb h1]
    clear hb h1
    go_enter Tryd.func45, Tryd.ntmps45
    go_wp2
    go_ret
    exact ⟨rfl, rfl⟩
theorem rmay_t1a (v : Int) (w : World) : Calls Tryd.prog 45 #[.int .i64 1, .int .u8 84, .int .i64 v] w fun e w' => e = .returned (.bool (inB 1 9 v)) ∧ w = w' := by
  have hb : bndF 1 9 = (1, 1048576) := by decide
  by_cases h1 : 1 ≤ v
  · have q1 : decide (v ≥ 1) = true := decide_eq_true (by omega)
    by_cases h2 : v ≤ 1048576
    · have q2 : decide (v ≤ 1048576) = true := decide_eq_true (by omega)
      rw [inB_yes hb h1 h2]
      clear hb h1 h2
      go_enter Tryd.func45, Tryd.ntmps45
      go_wp2
      go_ret
      exact ⟨rfl, rfl⟩
    · have q2 : decide (v ≤ 1048576) = false := decide_eq_false (by omega)
      rw [inB_high hb h1 h2]
      clear hb h1 h2
      go_enter Tryd.func45, Tryd.ntmps45
      go_wp2
      go_ret
      exact ⟨rfl, rfl⟩
  · have q1 : decide (v ≥ 1) = false := decide_eq_false (by omega)
    rw [inB_low hb h1]
    clear hb h1
    go_enter Tryd.func45, Tryd.ntmps45
    go_wp2
    go_ret
    exact ⟨rfl, rfl⟩
theorem rmay_t1b (v : Int) (w : World) : Calls Tryd.prog 45 #[.int .i64 5, .int .u8 84, .int .i64 v] w fun e w' => e = .returned (.bool (inB 5 9 v)) ∧ w = w' := by
  have hb : bndF 5 9 = (1, 1048576) := by decide
  by_cases h1 : 1 ≤ v
  · have q1 : decide (v ≥ 1) = true := decide_eq_true (by omega)
    by_cases h2 : v ≤ 1048576
    · have q2 : decide (v ≤ 1048576) = true := decide_eq_true (by omega)
      rw [inB_yes hb h1 h2]
      clear hb h1 h2
      go_enter Tryd.func45, Tryd.ntmps45
      go_wp2
      go_ret
      exact ⟨rfl, rfl⟩
    · have q2 : decide (v ≤ 1048576) = false := decide_eq_false (by omega)
      rw [inB_high hb h1 h2]
      clear hb h1 h2
      go_enter Tryd.func45, Tryd.ntmps45
      go_wp2
      go_ret
      exact ⟨rfl, rfl⟩
  · have q1 : decide (v ≥ 1) = false := decide_eq_false (by omega)
    rw [inB_low hb h1]
    clear hb h1
    go_enter Tryd.func45, Tryd.ntmps45
    go_wp2
    go_ret
    exact ⟨rfl, rfl⟩
theorem rmay_t1 (k v : Int) (hk : k = 1 ∨ k = 5) (w : World) : Calls Tryd.prog 45 #[.int .i64 k, .int .u8 84, .int .i64 v] w fun e w' => e = .returned (.bool (inB k 9 v)) ∧ w = w' := by
  rcases hk with rfl | rfl
  · exact rmay_t1a v w
  · exact rmay_t1b v w
theorem rmay_t0 (k v : Int) (hk : ¬ (k = 1 ∨ k = 5)) (w : World) : Calls Tryd.prog 45 #[.int .i64 k, .int .u8 84, .int .i64 v] w fun e w' => e = .returned (.bool (inB k 9 v)) ∧ w = w' := by
  have hb : bndF k 9 = (0, 1099511627775) := by unfold bndF; rw [if_pos rfl, if_neg hk]
  have hkq : (k == 1) = false := by rw [beq_eq_false_iff_ne]; exact fun h => hk (.inl h)
  have hkr : (k == 5) = false := by rw [beq_eq_false_iff_ne]; exact fun h => hk (.inr h)
  clear hk
  by_cases h1 : 0 ≤ v
  · have q1 : decide (v ≥ 0) = true := decide_eq_true (by omega)
    by_cases h2 : v ≤ 1099511627775
    · have q2 : decide (v < 1099511627776) = true := decide_eq_true (by omega)
      rw [inB_yes hb h1 h2]
      clear hb h1 h2
      go_enter Tryd.func45, Tryd.ntmps45
      go_wp2
      go_ret
      exact ⟨rfl, rfl⟩
    · have q2 : decide (v < 1099511627776) = false := decide_eq_false (by omega)
      rw [inB_high hb h1 h2]
      clear hb h1 h2
      go_enter Tryd.func45, Tryd.ntmps45
      go_wp2
      go_ret
      exact ⟨rfl, rfl⟩
  · have q1 : decide (v ≥ 0) = false := decide_eq_false (by omega)
    rw [inB_low hb h1]
    clear hb h1
    go_enter Tryd.func45, Tryd.ntmps45
    go_wp2
    go_ret
    exact ⟨rfl, rfl⟩
theorem rmay_h (k v : Int) (w : World) : Calls Tryd.prog 45 #[.int .i64 k, .int .u8 72, .int .i64 v] w fun e w' => e = .returned (.bool (inB k 11 v)) ∧ w = w' := by
  have hb : bndF k 11 = (0, 1) := rfl
  by_cases h0 : v = 0
  · subst h0
    rw [inB_yes hb (by decide) (by decide)]
    go_enter Tryd.func45, Tryd.ntmps45
    go_wp2
    go_ret
    exact ⟨rfl, rfl⟩
  · have q0 : (v == 0) = false := by rw [beq_eq_false_iff_ne]; exact h0
    by_cases h1 : v = 1
    · subst h1
      rw [inB_yes hb (by decide) (by decide)]
      clear h0 q0
      go_enter Tryd.func45, Tryd.ntmps45
      go_wp2
      go_ret
      exact ⟨rfl, rfl⟩
    · have q1 : (v == 1) = false := by rw [beq_eq_false_iff_ne]; exact h1
      have hf : inB k 11 v = false := by
        by_cases h : 0 ≤ v
        · exact inB_high hb h (by omega)
        · exact inB_low hb h
      rw [hf]
      clear hf hb h0 h1
      go_enter Tryd.func45, Tryd.ntmps45
      go_wp2
      go_ret
      exact ⟨rfl, rfl⟩
/-- any field of a kind -/
def mayB (k : Nat) (i : Nat) (v : Int) : Bool := if i + 1 ∈ cntN k then inB (k : Int) (i + 1) v else true
theorem rmay_any (k i : Nat) (hi : i < 11) (v : Int) (w : World) : Calls Tryd.prog 45 #[.int .i64 k, .int .u8 (fldF k i : Int), .int .i64 v] w fun e w' => e = .returned (.bool (mayB k i v)) ∧ w = w' := by
  unfold mayB fldF
  by_cases hc : i + 1 ∈ cntN k
  · rw [if_pos hc, if_pos hc]
    rcases (show i = 0 ∨ i = 1 ∨ i = 2 ∨ i = 3 ∨ i = 4 ∨ i = 5 ∨ i = 6 ∨ i = 7 ∨ i = 8 ∨ i = 9 ∨ i = 10 by omega) with rfl | rfl | rfl | rfl | rfl | rfl | rfl | rfl | rfl | rfl | rfl
    · exact rmay_f1 k v w
    · exact rmay_f2 k v w
    · exact rmay_f3 k v w
    · exact rmay_f4 k v w
    · exact rmay_f5 k v w
    · exact rmay_f6 k v w
    · exact rmay_f7 k v w
    · exact rmay_f8 k v w
    · by_cases hk : (k : Int) = 1 ∨ (k : Int) = 5
      · exact rmay_t1 k v hk w
      · exact rmay_t0 k v hk w
    · exact rmay_f10 k v w
    · exact rmay_h k v w
  · rw [if_neg hc, if_neg hc]
    exact rmay_dash k v w
end Go.Proofs.YtdfkfcpkejjlnaaDoor
namespace Go.Proofs.YtdfkfcpkejjlnaaDoor
set_option linter.unusedVariables false
open Go.ChangeShapes Go.WideShapes Go.ChangeAt Go.RowKit
attribute [local go_sem ↓] Go.wp_at_zero Go.wp_at_succ comesTo_value_eq comesTo_skip_eq comesTo_enter_eq Rl.comesToR_value_eq Rl.comesToR_skip_eq Rl.comesToR_enter_eq

/-- numbers that are read one behind the other, whatever is wrong -/
def readA : Nat → CS → CS × List Int
  | 0, st => (st, [])
  | k + 1, st => ((readA k (intF st).1).1, (intF st).2 :: (readA k (intF st).1).2)
theorem readA_succ (k : Nat) (st : CS) : readA (k + 1) st = ((readA k (intF st).1).1, (intF st).2 :: (readA k (intF st).1).2) := rfl
theorem intF_off {st : CS} (h : st.bad ≠ 0) : intF st = (st, 0) := by unfold intF; rw [if_neg h]
theorem readA_bad {st : CS} (h : st.bad ≠ 0) : ∀ k, readA k st = (st, List.replicate k 0)
  | 0 => rfl
  | k + 1 => by rw [readA_succ, intF_off h, readA_bad h k]; rfl
theorem readA_eq : ∀ (k : Nat) (st : CS), readA k st = ((readN k st).1, (readN k st).2 ++ List.replicate (k - (readN k st).2.length) 0)
  | 0, st => rfl
  | k + 1, st => by
    by_cases h : st.bad = 0
    · rw [readA_succ, readN_succ, if_pos h, readA_eq k]
      simp
    · rw [readA_bad h, readN_bad h]; rfl
theorem ysC_eq (bs : List Int) : readA 12 ⟨bs, 0⟩ = ((readN 12 ⟨bs, 0⟩).1, ysC bs) := readA_eq 12 _
theorem readA_len : ∀ (k : Nat) (st : CS), (readA k st).2.length = k
  | 0, _ => rfl
  | k + 1, st => by rw [readA_succ]; simp [readA_len k]
/-- what is told: a command's numbers (none: zeros), and the error -/
def gotC (bs : List Int) : List Int := if readB bs = true then ysC bs else List.replicate 12 0
def codeC (bs : List Int) : Int := if readB bs = true then 0 else 11
theorem gotC_no {bs : List Int} (h : readB bs = false) : gotC bs = List.replicate 12 0 := by unfold gotC; rw [h, if_neg (by decide)]
theorem gotC_yes {bs : List Int} (h : readB bs = true) : gotC bs = ysC bs := by unfold gotC; rw [h, if_pos rfl]
theorem codeC_no {bs : List Int} (h : readB bs = false) : codeC bs = 11 := by unfold codeC; rw [h, if_neg (by decide)]
theorem codeC_yes {bs : List Int} (h : readB bs = true) : codeC bs = 0 := by unfold codeC; rw [h, if_pos rfl]
set_option maxRecDepth 100000 in
set_option maxHeartbeats 1000000 in
theorem read_c {v : Value} {bs : List Int} (w : World) (ht : TxtAt w v bs) (hl : bs.length ≤ 1099511627775) (hE : ErrAt w) :
    Calls Tryd.prog 32 #[v] w fun e w' => e = .returned (.tuple #[.agg (cmdC (gotC bs)).toArray, .int .i64 (codeC bs)]) ∧ Below w.heap.size w w' := by
  have hmx : Tryd.prog.follows .mixedOrders = true := by kernel_rfl
  have hA0 := below_alloc (Below.refl _ w) (.cells #[.int .i64 0, .int .i64 0, .int .i64 0, .int .i64 0, .int .i64 0, .int .i64 0, .int .i64 0, .int .i64 0, .int .i64 0, .int .i64 0, .int .i64 0, .bool false] 26)
  have hby : ∀ x ∈ bs, 0 ≤ x ∧ x ≤ 255 := by
    intro x hx
    rcases ht with ⟨b, o, c, _, _, hr⟩ | ⟨rfl, _⟩
    · obtain ⟨k, hk, rfl⟩ := List.mem_iff_getElem.1 hx
      have h1 := hr.lo k hk
      have h2 := hr.hi k hk
      simp [List.getD, List.getElem?_eq_getElem hk] at h1 h2
      exact ⟨h1, h2⟩
    · cases hx
  have HBY := Lib.hid hby
  go_enter Tryd.func32, Tryd.ntmps32
  go_upto_region 1 with fail
  have hR0 := World.alloc_heap_new w (.cells #[.int .i64 0, .int .i64 0, .int .i64 0, .int .i64 0, .int .i64 0, .int .i64 0, .int .i64 0, .int .i64 0, .int .i64 0, .int .i64 0, .int .i64 0, .bool false] 26)
  have hsU : (w.alloc (.cells #[.int .i64 0, .int .i64 0, .int .i64 0, .int .i64 0, .int .i64 0, .int .i64 0, .int .i64 0, .int .i64 0, .int .i64 0, .int .i64 0, .int .i64 0, .bool false] 26)).heap.size = w.heap.size + 1 := by simp
  generalize w.alloc (.cells #[.int .i64 0, .int .i64 0, .int .i64 0, .int .i64 0, .int .i64 0, .int .i64 0, .int .i64 0, .int .i64 0, .int .i64 0, .int .i64 0, .int .i64 0, .bool false] 26) = U at *
  have KR := Lib.hid (read_cur (ht.below hA0) hl)
  have HSU := Lib.hid hsU
  have HA0 := Lib.hid hA0
  have HR0 := Lib.hid hR0
  have HE := Lib.hid hE
  clear ht hl hby hA0 hsU hR0 hE
  go_wp2_with fail
  ((with_reducible refine KR.out.mono ?_))
  rintro e w1 ⟨C, rfl, hc, hb⟩
  have HB1 := Lib.hid (below_next HA0.out hb)
  have HR1 := Lib.hid ((hb.block w.heap.size (by have := HSU.out; omega)).trans HR0.out)
  have HS1 := Lib.hid (show w.heap.size + 1 ≤ w1.heap.size by have := hb.size; have := HSU.out; omega)
  have HC1 := Lib.hid hc.tight
  clear hb hc KR HA0 HR0
  go_upto_region 3 with fail
  have hA2 := below_alloc (Below.refl _ w1) (.cells #[.int .i64 0, .int .i64 0, .int .i64 0, .int .i64 0, .int .i64 0, .int .i64 0, .int .i64 0, .int .i64 0, .int .i64 0, .int .i64 0, .int .i64 0, .int .i64 0] 80)
  have hN2 := World.alloc_heap_new w1 (.cells #[.int .i64 0, .int .i64 0, .int .i64 0, .int .i64 0, .int .i64 0, .int .i64 0, .int .i64 0, .int .i64 0, .int .i64 0, .int .i64 0, .int .i64 0, .int .i64 0] 80)
  generalize w1.alloc (.cells #[.int .i64 0, .int .i64 0, .int .i64 0, .int .i64 0, .int .i64 0, .int .i64 0, .int .i64 0, .int .i64 0, .int .i64 0, .int .i64 0, .int .i64 0, .int .i64 0] 80) = w2 at *
  have HC2 := Lib.hid (HC1.out.below hA2)
  have HB2 := Lib.hid (below_next HB1.out hA2)
  have HR2 := Lib.hid ((hA2.block w.heap.size (by have := HS1.out; omega)).trans HR1.out)
  have HN2 := Lib.hid hN2
  clear hA2 hN2 HC1 HB1 HR1
  generalize w1.heap.size = q at *
  have HQ := Lib.hid (show w.heap.size + 1 ≤ q from HS1.out)
  have HU := Lib.hid (show U.heap.size = w.heap.size + 1 from HSU.out)
  clear HS1 HSU
  go_wp2_with fail
  go_loopw [10] (fun i wr => ∃ (j : Nat) (st : CS) (acc : List Int), j ≤ 12 ∧ i = .int .i64 j ∧ acc.length = j ∧ readA 12 ⟨bs, 0⟩ = ((readA (12 - j) st).1, acc ++ (readA (12 - j) st).2) ∧ Cur wr C (fun b => U.heap.size ≤ b ∧ b < q) st ∧ wr.heap[q]? = some (.cells (numC (acc ++ List.replicate (12 - j) 0)).toArray 80 (0, 0)) ∧ Below w.heap.size w wr ∧ wr.heap[w.heap.size]? = some (.cells #[.int .i64 0, .int .i64 0, .int .i64 0, .int .i64 0, .int .i64 0, .int .i64 0, .int .i64 0, .int .i64 0, .int .i64 0, .int .i64 0, .int .i64 0, .bool false] 26 (0, 0))) (fun i _ => 12 - (intOf i).toNat)
  case atStart => exact ⟨0, ⟨bs, 0⟩, [], Nat.zero_le _, rfl, rfl, rfl, HC2.out, HN2.out, HB2.out, HR2.out⟩
  case round =>
    obtain ⟨j, st, acc, hj, rfl, hal, hrd, hc, hq, hb, hr⟩ := hrel
    have HAL := Lib.hid hal
    have HRD := Lib.hid hrd
    have HC := Lib.hid hc
    have HQJ := Lib.hid hq
    have HB := Lib.hid hb
    have HR := Lib.hid hr
    clear hal hrd hc hq hb hr
    by_cases hlt : j < 12
    · have hd : decide ((j : Int) < 12) = true := decide_eq_true (by omega)
      have KI := Lib.hid (int_cur HC.out)
      go_wp2_with fail
      ((with_reducible refine KI.out.mono ?_))
      rintro e w4 ⟨rfl, hc4, hf4⟩
      have hqC : q ≠ C := by have := HC.out.mem.2; omega
      have hrC : w.heap.size ≠ C := by have := HC.out.mem.1; have := HU.out; omega
      have hql : q < wr.heap.size := (Array.getElem?_eq_some_iff.1 HQJ.out).1
      have hq4 := (hf4.block q hql hqC).trans HQJ.out
      have hr4 := (hf4.block w.heap.size (by have := HQ.out; omega) hrC).trans HR.out
      have hb4 := HB.out.trans (hf4.below HB.out.size fun b hb => by subst hb; have := HC.out.mem.1; have := HU.out; omega)
      have HW := Lib.hid ((wrote_refl hq4).set j (.int .i64 (intF st).2))
      have ec := cell_of_block (o := j) (v := .int .i64 ((acc ++ List.replicate (12 - j) 0).getD j 0)) hq4 (by
        have := numC_at (xs := acc ++ List.replicate (12 - j) 0) (i := j) (by simp [HAL.out]; omega)
        simpa using this)
      have ef := free_of_block j hq4
      have HC4 := Lib.hid hc4
      have HB4 := Lib.hid hb4
      have HR4 := Lib.hid hr4
      have HST := Lib.hid (show acc ++ List.replicate (12 - j) 0 = acc ++ 0 :: List.replicate (12 - (j + 1)) 0 by rw [show 12 - j = (12 - (j + 1)) + 1 by omega, List.replicate_succ])
      clear hc4 hf4 hqC hrC hql hq4 hr4 hb4 KI
      generalize hx : (intF st).2 = x at *
      have HX := Lib.hid hx
      generalize (acc ++ List.replicate (12 - j) 0).getD j 0 = x0 at *
      clear hx
      have hj12 : j < 12 := hlt
      go_wp2_with fail
      go_roundw
      case rel =>
        refine ⟨j + 1, (intF st).1, acc ++ [x], by omega, by go_num, by simp [HAL.out], ?_, ?_, ?_, HW.out.below HB4.out (by have := HQ.out; omega), (HW.out.rest _ (by have := HQ.out; omega)).trans HR4.out⟩
        · rw [HRD.out, show 12 - j = (12 - (j + 1)) + 1 by omega, readA_succ, HX.out]
          simp
        · exact Fr.cur (G := fun b => b = q) HC4.out ((Fr.refl (fun b => b = q) w4).set (show (fun b => b = q) q from rfl) _ _) (fun b hb _ he => by have := hb.2; omega)
        · have := HW.out.there
          rw [numC_arr_set, HST.out, List.set_append_right _ _ (by rw [HAL.out]; exact Nat.le_refl _), HAL.out, Nat.sub_self, List.set_cons_zero] at this
          rw [List.append_assoc]
          exact this
      case measure => simp [intOf]; omega
    · have hd : decide ((j : Int) < 12) = false := decide_eq_false (by omega)
      have hy := HRD.out
      rw [show 12 - j = 0 by omega, ysC_eq] at hy
      have hys : acc = ysC bs := by have := congrArg Prod.snd hy; simpa [readA] using this.symm
      have hst : st = (readN 12 ⟨bs, 0⟩).1 := by have := congrArg Prod.fst hy; simpa [readA] using this.symm
      have hqe := HQJ.out
      rw [show 12 - j = 0 by omega, List.replicate_zero, List.append_nil] at hqe
      have HQE := Lib.hid hqe
      have hyl : acc.length = 12 := by rw [hys]; exact ysC_len bs
      have hyin : ∀ x ∈ acc, -9223372036854775808 ≤ x ∧ x ≤ 9223372036854775807 := by rw [hys]; exact ysC_in HBY.out
      have hnz := nzC_cmd hyl hyin
      have hrb : readB bs = ((endF st == 0) && rightL (nzC acc) && decide (cleanL (nzC acc) = acc)) := by rw [hys, hst]; rfl
      have HRB := Lib.hid hrb
      have HYS := Lib.hid hys
      have HYL := Lib.hid hyl
      have KO := Lib.hid (of_c hyl wr)
      have KRI := Lib.hid (fun W => right_c hnz W)
      have KCL := Lib.hid (fun W => clean_c hnz W)
      have KLA := Lib.hid (fun W => laid_c (cleanL_cmd hnz) W)
      have HNE := Lib.hid (fun W => eqin12 (cleanL_len (nzC acc)) hyl W)
      rw [cmdC_nz hyl] at KRI KCL
      have HL1 := Lib.hid (numC_len acc)
      have HL2 := Lib.hid (cmdC_len hyl)
      have HL3 := Lib.hid (cmdC_one acc)
      have KE := Lib.hid (fun (W : World) (h : Below wr.heap.size wr W) => end_cur (HC.out.below h) ((HE.out.below HB.out).below h))
      clear hy hys hst hqe hyl hyin hnz hrb HQJ HRD
      go_upto_region 8 with fail
      refine wp_region_lit ?_
      refine wpList_load_all rfl 80 _ rfl q (numC acc) _ (by go_simp) HQE.out Tryd.underlying80 rfl (by rw [HL1.out, HYL.out]; kernel_rfl) ?_
      refine wpList_enter rfl (by go_simp) KO.out ?_
      rintro e w5 ⟨rfl, hb5⟩
      refine ⟨_, rfl, ?_⟩
      refine wpList_yield (w' := w5.alloc (.cells #[.int .i64 0, .int .i64 0, .int .i64 0, .int .i64 0, .int .i64 0, .int .i64 0, .int .i64 0, .int .i64 0, .int .i64 0, .int .i64 0, .int .i64 0, .bool false] 26)) (v := .pointer (some ⟨w5.heap.size, 0, none⟩)) rfl (by go_simp) ?_
      refine wpList_store_all rfl 26 _ _ rfl w5.heap.size (cs := #[.int .i64 0, .int .i64 0, .int .i64 0, .int .i64 0, .int .i64 0, .int .i64 0, .int .i64 0, .int .i64 0, .int .i64 0, .int .i64 0, .int .i64 0, .bool false]) (T := 26) (cmdC acc) (by go_simp) (by go_simp) (World.alloc_heap_new _ _) (by rw [HL2.out]; rfl) (by rw [HL2.out]; kernel_rfl) HL3.out ?_
      intro w6 hw6
      have hb6 := hw6.below (below_alloc (Below.refl _ w5) _) (Nat.le_refl _)
      have hb56 := below_next hb5 hb6
      have HB56 := Lib.hid hb56
      have HB6 := Lib.hid (below_next HB.out hb56)
      have hrl : w.heap.size < wr.heap.size := (Array.getElem?_eq_some_iff.1 HR.out).1
      have hql : q < wr.heap.size := (Array.getElem?_eq_some_iff.1 HQE.out).1
      have HR6 := Lib.hid ((hb56.block _ hrl).trans HR.out)
      have HQ6 := Lib.hid ((hb56.block _ hql).trans HQE.out)
      have HP6 := Lib.hid hw6.there
      have HLT := Lib.hid (show w.heap.size < w6.heap.size by have := hb56.size; omega)
      have hi24 : (Tryd.prog.info? 26).map (·.size) = some (cmdC acc).length := by rw [HL2.out]; kernel_rfl
      have hi55 : (Tryd.prog.info? 80).map (·.size) = some (numC acc).length := by rw [HL1.out, HYL.out]; kernel_rfl
      have HI24 := Lib.hid hi24
      have HI55 := Lib.hid hi55
      have HLD := Lib.hid (fun (W : World) (h : Below w6.heap.size w6 W) => (h.block _ (Array.getElem?_eq_some_iff.1 HP6.out).1).trans HP6.out)
      have HLQ := Lib.hid (fun (W : World) (h : Below w6.heap.size w6 W) => (h.block _ (Array.getElem?_eq_some_iff.1 HQ6.out).1).trans HQ6.out)
      clear hw6 hb6 hb56 hb5 hrl hql hi24 hi55
      generalize w5.heap.size = p at *
      generalize hcz : cmdC acc = z at *
      generalize hnz : numC acc = m at *
      generalize hend : endF st = en at *
      clear hnz hend
      have HCZ := Lib.hid hcz
      clear hcz
      by_cases hq0 : en = 0
      · subst hq0
        cases hri : rightL (nzC acc) with
        | false =>
          rw [hri] at KRI
          have HRF := Lib.hid (show readB bs = false by rw [HRB.out, hri]; rfl)
          clear hri
          go_upto_region 9 with fail
          refine Rl.wp_region_rel (fun a b => Below a.heap.size a b) w6 (fun a b c h h' => below_next h h') (fun a => Below.refl _ _) hmx (by kernel_rfl) (Below.refl _ _).drew ?_
          (refine Rl.textR_run ?_ (fun ρ => ?_) (fun ρ W hS hd => ?_) ?_; rotate_left; (focus go_simp); (focus (obtain ⟨hc, hf⟩ := bcell hS; go_simp; first | exact ⟨rfl, Below.refl _ _⟩ | (refine ⟨?_, Below.refl _ _⟩; rfl))); (try go_simp))
          (refine Rl.textR_run ?_ (fun ρ => ?_) (fun ρ W hS hd => ?_) ?_; rotate_left; (focus go_simp); (focus (obtain ⟨hc, hf⟩ := bcell hS; go_simp; refine (KE.out W (below_next HB56.out hS)).mono ?_; rintro e w1 ⟨rfl, hb⟩; refine ⟨_, rfl, ?_, hb⟩; rfl)); (try go_simp))
          iterate 2 (refine Rl.textR_run ?_ (fun ρ => ?_) (fun ρ W hS hd => ?_) ?_; rotate_left; (focus go_simp); (focus (obtain ⟨hc, hf⟩ := bcell hS; go_simp; first | exact ⟨rfl, Below.refl _ _⟩ | (refine ⟨?_, Below.refl _ _⟩; rfl))); (try go_simp))
          refine Rl.textR_run (.agg z.toArray) (fun ρ => ?_) (fun ρ W hS hd => ?_) ?_
          · go_simp
          · exact Rl.comesToR_load 26 _ rfl p (by go_simp) _ _ (HLD.out W hS) Tryd.underlying26 rfl HI24.out ⟨rfl, Below.refl _ _⟩
          (try go_simp)
          (refine Rl.textR_run ?_ (fun ρ => ?_) (fun ρ W hS hd => ?_) ?_; rotate_left; (focus go_simp); (focus (obtain ⟨hc, hf⟩ := bcell hS; go_simp; refine (KRI.out W).mono ?_; rintro e w1 ⟨rfl, hb⟩; refine ⟨_, rfl, ?_, hb⟩; rfl)); (try go_simp))
          iterate 3 (refine Rl.textR_run ?_ (fun ρ => ?_) (fun ρ W hS hd => ?_) ?_; rotate_left; (focus go_simp); (focus (obtain ⟨hc, hf⟩ := bcell hS; go_simp; first | exact ⟨rfl, Below.refl _ _⟩ | (refine ⟨?_, Below.refl _ _⟩; rfl))); (try go_simp))
          iterate 5 (refine Rl.textR_skip (fun ρ => ?_) ?_; (focus (first | rfl | (go_simp; done) | (go_simp; rfl))); (try go_simp))
          (refine Rl.textR_run ?_ (fun ρ => ?_) (fun ρ W hS hd => ?_) ?_; rotate_left; (focus go_simp); (focus (obtain ⟨hc, hf⟩ := bcell hS; go_simp; first | exact ⟨rfl, Below.refl _ _⟩ | (refine ⟨?_, Below.refl _ _⟩; rfl))); (try go_simp))
          refine Rl.textR_nil ?_
          intro ρ w7 hg hk
          have HZ7 := Lib.hid ((hg.block _ HLT.out).trans HR6.out)
          have HB7 := Lib.hid (below_next HB6.out hg)
          have HLT7 := Lib.hid (show w.heap.size < w7.heap.size by have := hg.size; have := HLT.out; omega)
          clear hg hk HLD HLQ
          dsimp only
          go_upto_region 10 with fail
          refine wp_region_lit ?_
          refine wpList_yield (w' := w7) (v := .agg (cmdC (List.replicate 12 0)).toArray) rfl (by go_simp; rfl) ?_
          refine wpList_store_all rfl 26 _ _ rfl w.heap.size (T := 26) (cmdC (List.replicate 12 0)) (by go_simp) (by go_simp) HZ7.out rfl (by kernel_rfl) rfl ?_
          intro w8 hw8
          have HW8 := Lib.hid hw8.there
          have HB8 := Lib.hid (hw8.below HB7.out (Nat.le_refl _))
          clear hw8
          go_wp2_with fail
          exact bodyPost_ret (results_all2 (cmdC (List.replicate 12 0)) _ Tryd.results32 (by go_simp) HW8.out Tryd.underlying26 rfl (by kernel_rfl)) rfl ⟨by rw [gotC_no HRF.out, codeC_no HRF.out]; rfl, HB8.out⟩
        | true =>
          rw [hri] at KRI
          generalize hcn : cleanL (nzC acc) = cn at *
          cases hcmp : (cn == acc) with
          | false =>
            have HRF := Lib.hid (show readB bs = false by rw [HRB.out, hri, decide_eq_false (by simpa using hcmp)]; rfl)
            rw [hcmp] at HNE
            clear hri hcmp
            generalize cmdC cn = zc at *
            generalize numC cn = mc at *
            clear hcn
            go_upto_region 9 with fail
            refine Rl.wp_region_rel (fun a b => Below a.heap.size a b) w6 (fun a b c h h' => below_next h h') (fun a => Below.refl _ _) hmx (by kernel_rfl) (Below.refl _ _).drew ?_
            (refine Rl.textR_run ?_ (fun ρ => ?_) (fun ρ W hS hd => ?_) ?_; rotate_left; (focus go_simp); (focus (obtain ⟨hc, hf⟩ := bcell hS; go_simp; first | exact ⟨rfl, Below.refl _ _⟩ | (refine ⟨?_, Below.refl _ _⟩; rfl))); (try go_simp))
            (refine Rl.textR_run ?_ (fun ρ => ?_) (fun ρ W hS hd => ?_) ?_; rotate_left; (focus go_simp); (focus (obtain ⟨hc, hf⟩ := bcell hS; go_simp; refine (KE.out W (below_next HB56.out hS)).mono ?_; rintro e w1 ⟨rfl, hb⟩; refine ⟨_, rfl, ?_, hb⟩; rfl)); (try go_simp))
            iterate 2 (refine Rl.textR_run ?_ (fun ρ => ?_) (fun ρ W hS hd => ?_) ?_; rotate_left; (focus go_simp); (focus (obtain ⟨hc, hf⟩ := bcell hS; go_simp; first | exact ⟨rfl, Below.refl _ _⟩ | (refine ⟨?_, Below.refl _ _⟩; rfl))); (try go_simp))
            refine Rl.textR_run (.agg z.toArray) (fun ρ => ?_) (fun ρ W hS hd => ?_) ?_
            · go_simp
            · exact Rl.comesToR_load 26 _ rfl p (by go_simp) _ _ (HLD.out W hS) Tryd.underlying26 rfl HI24.out ⟨rfl, Below.refl _ _⟩
            (try go_simp)
            (refine Rl.textR_run ?_ (fun ρ => ?_) (fun ρ W hS hd => ?_) ?_; rotate_left; (focus go_simp); (focus (obtain ⟨hc, hf⟩ := bcell hS; go_simp; refine (KRI.out W).mono ?_; rintro e w1 ⟨rfl, hb⟩; refine ⟨_, rfl, ?_, hb⟩; rfl)); (try go_simp))
            iterate 3 (refine Rl.textR_run ?_ (fun ρ => ?_) (fun ρ W hS hd => ?_) ?_; rotate_left; (focus go_simp); (focus (obtain ⟨hc, hf⟩ := bcell hS; go_simp; first | exact ⟨rfl, Below.refl _ _⟩ | (refine ⟨?_, Below.refl _ _⟩; rfl))); (try go_simp))
            refine Rl.textR_run (.agg z.toArray) (fun ρ => ?_) (fun ρ W hS hd => ?_) ?_
            · go_simp
            · exact Rl.comesToR_load 26 _ rfl p (by go_simp) _ _ (HLD.out W hS) Tryd.underlying26 rfl HI24.out ⟨rfl, Below.refl _ _⟩
            (try go_simp)
            (refine Rl.textR_run ?_ (fun ρ => ?_) (fun ρ W hS hd => ?_) ?_; rotate_left; (focus go_simp); (focus (obtain ⟨hc, hf⟩ := bcell hS; go_simp; refine (KCL.out W).mono ?_; rintro e w1 ⟨rfl, hb⟩; refine ⟨_, rfl, ?_, hb⟩; rfl)); (try go_simp))
            (refine Rl.textR_run ?_ (fun ρ => ?_) (fun ρ W hS hd => ?_) ?_; rotate_left; (focus go_simp); (focus (obtain ⟨hc, hf⟩ := bcell hS; go_simp; refine (KLA.out W).mono ?_; rintro e w1 ⟨rfl, hb⟩; refine ⟨_, rfl, ?_, hb⟩; rfl)); (try go_simp))
            refine Rl.textR_run (.agg m.toArray) (fun ρ => ?_) (fun ρ W hS hd => ?_) ?_
            · go_simp
            · exact Rl.comesToR_load 80 _ rfl q (by go_simp) _ _ (HLQ.out W hS) Tryd.underlying80 rfl HI55.out ⟨rfl, Below.refl _ _⟩
            (try go_simp)
            (refine Rl.textR_run ?_ (fun ρ => ?_) (fun ρ W hS hd => ?_) ?_; rotate_left; (focus go_simp); (focus (have hfact := HNE.out W; go_simp; first | exact ⟨rfl, Below.refl _ _⟩ | (refine ⟨?_, Below.refl _ _⟩; rfl))); (try go_simp))
            (refine Rl.textR_run ?_ (fun ρ => ?_) (fun ρ W hS hd => ?_) ?_; rotate_left; (focus go_simp); (focus (obtain ⟨hc, hf⟩ := bcell hS; go_simp; first | exact ⟨rfl, Below.refl _ _⟩ | (refine ⟨?_, Below.refl _ _⟩; rfl))); (try go_simp))
            refine Rl.textR_nil ?_
            intro ρ w7 hg hk
            have HZ7 := Lib.hid ((hg.block _ HLT.out).trans HR6.out)
            have HB7 := Lib.hid (below_next HB6.out hg)
            have HLT7 := Lib.hid (show w.heap.size < w7.heap.size by have := hg.size; have := HLT.out; omega)
            clear hg hk HLD HLQ
            dsimp only
            go_upto_region 10 with fail
            refine wp_region_lit ?_
            refine wpList_yield (w' := w7) (v := .agg (cmdC (List.replicate 12 0)).toArray) rfl (by go_simp; rfl) ?_
            refine wpList_store_all rfl 26 _ _ rfl w.heap.size (T := 26) (cmdC (List.replicate 12 0)) (by go_simp) (by go_simp) HZ7.out rfl (by kernel_rfl) rfl ?_
            intro w8 hw8
            have HW8 := Lib.hid hw8.there
            have HB8 := Lib.hid (hw8.below HB7.out (Nat.le_refl _))
            clear hw8
            go_wp2_with fail
            exact bodyPost_ret (results_all2 (cmdC (List.replicate 12 0)) _ Tryd.results32 (by go_simp) HW8.out Tryd.underlying26 rfl (by kernel_rfl)) rfl ⟨by rw [gotC_no HRF.out, codeC_no HRF.out]; rfl, HB8.out⟩
          | true =>
            have HRT := Lib.hid (show readB bs = true by rw [HRB.out, hri, decide_eq_true (by simpa using hcmp)]; rfl)
            rw [hcmp] at HNE
            clear hri hcmp
            generalize cmdC cn = zc at *
            generalize numC cn = mc at *
            clear hcn
            go_upto_region 9 with fail
            refine Rl.wp_region_rel (fun a b => Below a.heap.size a b) w6 (fun a b c h h' => below_next h h') (fun a => Below.refl _ _) hmx (by kernel_rfl) (Below.refl _ _).drew ?_
            (refine Rl.textR_run ?_ (fun ρ => ?_) (fun ρ W hS hd => ?_) ?_; rotate_left; (focus go_simp); (focus (obtain ⟨hc, hf⟩ := bcell hS; go_simp; first | exact ⟨rfl, Below.refl _ _⟩ | (refine ⟨?_, Below.refl _ _⟩; rfl))); (try go_simp))
            (refine Rl.textR_run ?_ (fun ρ => ?_) (fun ρ W hS hd => ?_) ?_; rotate_left; (focus go_simp); (focus (obtain ⟨hc, hf⟩ := bcell hS; go_simp; refine (KE.out W (below_next HB56.out hS)).mono ?_; rintro e w1 ⟨rfl, hb⟩; refine ⟨_, rfl, ?_, hb⟩; rfl)); (try go_simp))
            iterate 2 (refine Rl.textR_run ?_ (fun ρ => ?_) (fun ρ W hS hd => ?_) ?_; rotate_left; (focus go_simp); (focus (obtain ⟨hc, hf⟩ := bcell hS; go_simp; first | exact ⟨rfl, Below.refl _ _⟩ | (refine ⟨?_, Below.refl _ _⟩; rfl))); (try go_simp))
            refine Rl.textR_run (.agg z.toArray) (fun ρ => ?_) (fun ρ W hS hd => ?_) ?_
            · go_simp
            · exact Rl.comesToR_load 26 _ rfl p (by go_simp) _ _ (HLD.out W hS) Tryd.underlying26 rfl HI24.out ⟨rfl, Below.refl _ _⟩
            (try go_simp)
            (refine Rl.textR_run ?_ (fun ρ => ?_) (fun ρ W hS hd => ?_) ?_; rotate_left; (focus go_simp); (focus (obtain ⟨hc, hf⟩ := bcell hS; go_simp; refine (KRI.out W).mono ?_; rintro e w1 ⟨rfl, hb⟩; refine ⟨_, rfl, ?_, hb⟩; rfl)); (try go_simp))
            iterate 3 (refine Rl.textR_run ?_ (fun ρ => ?_) (fun ρ W hS hd => ?_) ?_; rotate_left; (focus go_simp); (focus (obtain ⟨hc, hf⟩ := bcell hS; go_simp; first | exact ⟨rfl, Below.refl _ _⟩ | (refine ⟨?_, Below.refl _ _⟩; rfl))); (try go_simp))
            refine Rl.textR_run (.agg z.toArray) (fun ρ => ?_) (fun ρ W hS hd => ?_) ?_
            · go_simp
            · exact Rl.comesToR_load 26 _ rfl p (by go_simp) _ _ (HLD.out W hS) Tryd.underlying26 rfl HI24.out ⟨rfl, Below.refl _ _⟩
            (try go_simp)
            (refine Rl.textR_run ?_ (fun ρ => ?_) (fun ρ W hS hd => ?_) ?_; rotate_left; (focus go_simp); (focus (obtain ⟨hc, hf⟩ := bcell hS; go_simp; refine (KCL.out W).mono ?_; rintro e w1 ⟨rfl, hb⟩; refine ⟨_, rfl, ?_, hb⟩; rfl)); (try go_simp))
            (refine Rl.textR_run ?_ (fun ρ => ?_) (fun ρ W hS hd => ?_) ?_; rotate_left; (focus go_simp); (focus (obtain ⟨hc, hf⟩ := bcell hS; go_simp; refine (KLA.out W).mono ?_; rintro e w1 ⟨rfl, hb⟩; refine ⟨_, rfl, ?_, hb⟩; rfl)); (try go_simp))
            refine Rl.textR_run (.agg m.toArray) (fun ρ => ?_) (fun ρ W hS hd => ?_) ?_
            · go_simp
            · exact Rl.comesToR_load 80 _ rfl q (by go_simp) _ _ (HLQ.out W hS) Tryd.underlying80 rfl HI55.out ⟨rfl, Below.refl _ _⟩
            (try go_simp)
            (refine Rl.textR_run ?_ (fun ρ => ?_) (fun ρ W hS hd => ?_) ?_; rotate_left; (focus go_simp); (focus (have hfact := HNE.out W; go_simp; first | exact ⟨rfl, Below.refl _ _⟩ | (refine ⟨?_, Below.refl _ _⟩; rfl))); (try go_simp))
            (refine Rl.textR_run ?_ (fun ρ => ?_) (fun ρ W hS hd => ?_) ?_; rotate_left; (focus go_simp); (focus (obtain ⟨hc, hf⟩ := bcell hS; go_simp; first | exact ⟨rfl, Below.refl _ _⟩ | (refine ⟨?_, Below.refl _ _⟩; rfl))); (try go_simp))
            refine Rl.textR_nil ?_
            intro ρ w7 hg hk
            have HP7 := Lib.hid ((hg.block _ (Array.getElem?_eq_some_iff.1 HP6.out).1).trans HP6.out)
            have HZ7 := Lib.hid ((hg.block _ HLT.out).trans HR6.out)
            have HB7 := Lib.hid (below_next HB6.out hg)
            clear hg hk HLD HLQ
            dsimp only
            go_upto_region 11 with fail
            refine wp_region_lit ?_
            refine wpList_load_all rfl 26 _ rfl p z _ (by go_simp) HP7.out Tryd.underlying26 rfl (by rw [HL2.out]; kernel_rfl) ?_
            refine wpList_store_all rfl 26 _ _ rfl w.heap.size (T := 26) z (by go_simp) (by go_simp) HZ7.out (by rw [HL2.out]; rfl) (by rw [HL2.out]; kernel_rfl) HL3.out ?_
            intro w8 hw8
            have HW8 := Lib.hid hw8.there
            have HB8 := Lib.hid (hw8.below HB7.out (Nat.le_refl _))
            clear hw8
            go_wp2_with fail
            exact bodyPost_ret (results_all2 z _ Tryd.results32 (by go_simp) HW8.out Tryd.underlying26 rfl (by rw [HL2.out]; kernel_rfl)) rfl ⟨by rw [gotC_yes HRT.out, codeC_yes HRT.out, ← HYS.out, HCZ.out]; rfl, HB8.out⟩
      · have hqb : (en == 0) = false := by rw [beq_eq_false_iff_ne]; exact hq0
        have HRF := Lib.hid (show readB bs = false by rw [HRB.out, hqb]; rfl)
        go_upto_region 9 with fail
        refine Rl.wp_region_rel (fun a b => Below a.heap.size a b) w6 (fun a b c h h' => below_next h h') (fun a => Below.refl _ _) hmx (by kernel_rfl) (Below.refl _ _).drew ?_
        (refine Rl.textR_run ?_ (fun ρ => ?_) (fun ρ W hS hd => ?_) ?_; rotate_left; (focus go_simp); (focus (obtain ⟨hc, hf⟩ := bcell hS; go_simp; first | exact ⟨rfl, Below.refl _ _⟩ | (refine ⟨?_, Below.refl _ _⟩; rfl))); (try go_simp))
        (refine Rl.textR_run ?_ (fun ρ => ?_) (fun ρ W hS hd => ?_) ?_; rotate_left; (focus go_simp); (focus (obtain ⟨hc, hf⟩ := bcell hS; go_simp; refine (KE.out W (below_next HB56.out hS)).mono ?_; rintro e w1 ⟨rfl, hb⟩; refine ⟨_, rfl, ?_, hb⟩; rfl)); (try go_simp))
        iterate 2 (refine Rl.textR_run ?_ (fun ρ => ?_) (fun ρ W hS hd => ?_) ?_; rotate_left; (focus go_simp); (focus (obtain ⟨hc, hf⟩ := bcell hS; go_simp; first | exact ⟨rfl, Below.refl _ _⟩ | (refine ⟨?_, Below.refl _ _⟩; rfl))); (try go_simp))
        iterate 3 (refine Rl.textR_skip (fun ρ => ?_) ?_; (focus (first | rfl | (go_simp; done) | (go_simp; rfl))); (try go_simp))
        iterate 2 (refine Rl.textR_run ?_ (fun ρ => ?_) (fun ρ W hS hd => ?_) ?_; rotate_left; (focus go_simp); (focus (obtain ⟨hc, hf⟩ := bcell hS; go_simp; first | exact ⟨rfl, Below.refl _ _⟩ | (refine ⟨?_, Below.refl _ _⟩; rfl))); (try go_simp))
        iterate 5 (refine Rl.textR_skip (fun ρ => ?_) ?_; (focus (first | rfl | (go_simp; done) | (go_simp; rfl))); (try go_simp))
        (refine Rl.textR_run ?_ (fun ρ => ?_) (fun ρ W hS hd => ?_) ?_; rotate_left; (focus go_simp); (focus (obtain ⟨hc, hf⟩ := bcell hS; go_simp; first | exact ⟨rfl, Below.refl _ _⟩ | (refine ⟨?_, Below.refl _ _⟩; rfl))); (try go_simp))
        refine Rl.textR_nil ?_
        intro ρ w7 hg hk
        have HZ7 := Lib.hid ((hg.block _ HLT.out).trans HR6.out)
        have HB7 := Lib.hid (below_next HB6.out hg)
        have HLT7 := Lib.hid (show w.heap.size < w7.heap.size by have := hg.size; have := HLT.out; omega)
        clear hg hk HLD HLQ
        dsimp only
        go_upto_region 10 with fail
        refine wp_region_lit ?_
        refine wpList_yield (w' := w7) (v := .agg (cmdC (List.replicate 12 0)).toArray) rfl (by go_simp; rfl) ?_
        refine wpList_store_all rfl 26 _ _ rfl w.heap.size (T := 26) (cmdC (List.replicate 12 0)) (by go_simp) (by go_simp) HZ7.out rfl (by kernel_rfl) rfl ?_
        intro w8 hw8
        have HW8 := Lib.hid hw8.there
        have HB8 := Lib.hid (hw8.below HB7.out (Nat.le_refl _))
        clear hw8
        go_wp2_with fail
        exact bodyPost_ret (results_all2 (cmdC (List.replicate 12 0)) _ Tryd.results32 (by go_simp) HW8.out Tryd.underlying26 rfl (by kernel_rfl)) rfl ⟨by rw [gotC_no HRF.out, codeC_no HRF.out]; rfl, HB8.out⟩
end Go.Proofs.YtdfkfcpkejjlnaaDoor
namespace Go.Proofs.YtdfkfcpkejjlnaaDoor
set_option linter.unusedVariables false
open Go Go.RowKit

theorem fold_unfold (m : Nat) : foldF (unfoldF m) = m := by unfold foldF unfoldF; split <;> split <;> omega
theorem scan_back (xs : List Int) : ∀ (i u : Nat) (ys : List Int) (v : Int), (∀ x ∈ xs, 0 ≤ x ∧ x ≤ 255) → scan i u xs = (ys, 0, v) → ∃ m : Nat, xs = putU m ++ ys ∧ v = unfoldF (u + m * 2 ^ (7 * i)) ∧ (0 < i → 0 < m) := by
  induction xs with
  | nil => intro i u ys v _ h; unfold scan at h; simp at h
  | cons x xs ih =>
    intro i u ys v hb h
    have hx := hb x List.mem_cons_self
    have hp : 2 ^ (7 * (i + 1)) = 128 * 2 ^ (7 * i) := by rw [show 7 * (i + 1) = 7 + 7 * i by omega, Nat.pow_add]
    unfold scan at h
    by_cases h9 : i = 9 ∧ 1 < x
    · rw [if_pos h9] at h; simp at h
    · rw [if_neg h9] at h
      by_cases h1 : 128 ≤ x
      · rw [if_pos h1] at h
        obtain ⟨m, hm, hv, h0⟩ := ih (i + 1) _ ys v (fun y hy => hb y (List.mem_cons_of_mem _ hy)) h
        have hm0 := h0 (by omega)
        refine ⟨(x - 128).toNat + 128 * m, ?_, ?_, fun _ => by omega⟩
        · rw [putU_ge (by omega), hm, show ((x - 128).toNat + 128 * m) / 128 = m by omega, show (((x - 128).toNat + 128 * m) % 128 + 128 : Nat) = x.toNat by omega, show ((x.toNat : Nat) : Int) = x by omega]
          rfl
        · rw [hv, hp, Nat.add_mul, show 128 * m * 2 ^ (7 * i) = m * (128 * 2 ^ (7 * i)) by rw [← Nat.mul_assoc, Nat.mul_comm 128 m], Nat.add_assoc]
      · rw [if_neg h1] at h
        by_cases h2 : 0 < i ∧ x = 0
        · rw [if_pos h2] at h; simp at h
        · rw [if_neg h2] at h
          injection h with e1 e2
          injection e2 with _ e3
          subst e1
          refine ⟨x.toNat, ?_, e3.symm, fun hi => by omega⟩
          rw [putU_lt (by omega), show ((x.toNat : Nat) : Int) = x by omega]
          rfl
theorem intF_back {xs ys : List Int} {v : Int} (hb : ∀ x ∈ xs, 0 ≤ x ∧ x ≤ 255) (h : intF ⟨xs, 0⟩ = (⟨ys, 0⟩, v)) : xs = putI v ++ ys := by
  unfold intF at h
  rw [if_pos rfl] at h
  injection h with e1 e2
  injection e1 with e3 e4
  obtain ⟨m, hm, hv, _⟩ := scan_back xs 0 0 ys v hb (by
    rw [← e2, ← e3, ← e4])
  rw [hm]
  unfold putI
  rw [hv]
  simp [fold_unfold]
theorem intF_rest {xs : List Int} (hb : ∀ x ∈ xs, 0 ≤ x ∧ x ≤ 255) : ∀ y ∈ (intF ⟨xs, 0⟩).1.xs, 0 ≤ y ∧ y ≤ 255 := by
  unfold intF
  rw [if_pos rfl]
  exact scan_rest xs 0 0 hb
theorem readN_back : ∀ (k : Nat) (xs ys l : List Int), (∀ x ∈ xs, 0 ≤ x ∧ x ≤ 255) → readN k ⟨xs, 0⟩ = (⟨ys, 0⟩, l) → l.length = k ∧ xs = l.flatMap putI ++ ys
  | 0, xs, ys, l, _, h => by
    injection h with e1 e2
    injection e1 with e3
    subst e2 e3
    exact ⟨rfl, rfl⟩
  | k + 1, xs, ys, l, hb, h => by
    rw [readN_succ, if_pos rfl] at h
    have hr := intF_rest hb
    rcases hi : intF ⟨xs, 0⟩ with ⟨⟨zs, bd⟩, v⟩
    rw [hi] at h hr
    simp only at h hr
    by_cases h0 : bd = 0
    · subst h0
      have hx := intF_back hb hi
      rcases hk : readN k ⟨zs, 0⟩ with ⟨st, l'⟩
      rw [hk] at h
      injection h with e1 e2
      simp only at e1 e2
      rw [e1] at hk
      obtain ⟨hl, hz⟩ := readN_back k zs ys l' hr hk
      subst e2
      refine ⟨by simp [hl], ?_⟩
      rw [hx, hz, List.flatMap_cons, List.append_assoc]
    · rw [readN_bad h0] at h
      injection h with e1 e2
      injection e1 with _ e3
      exact absurd e3 h0
theorem endF_ok {st : CS} (h : endF st = 0) : st = ⟨[], 0⟩ := by
  unfold endF at h
  obtain ⟨xs, bd⟩ := st
  simp only at h
  split at h
  · omega
  · rename_i hn
    subst h
    simp at hn
    rw [hn]
theorem readN_putC {xs : List Int} (h : Cmd12 xs) (ys : List Int) : readN 12 ⟨putC xs ++ ys, 0⟩ = (⟨ys, 0⟩, cleanL xs) := by
  have := readN_put (cleanL xs) 0 ys (cleanL_cmd h).inb
  rw [cleanL_len] at this
  unfold putC
  rw [this]
  simp [readN]
theorem ysC_put {xs : List Int} (h : Cmd12 xs) : ysC (putC xs) = cleanL xs := by
  have := readN_putC h []
  rw [List.append_nil] at this
  unfold ysC
  rw [this, cleanL_len]
  simp
theorem readB_put {xs : List Int} (h : Cmd12 xs) : readB (putC xs) = rightL xs := by
  have hr := readN_putC h []
  rw [List.append_nil] at hr
  unfold readB
  rw [hr, ysC_put h, nzC_same (cleanL_len xs) (cleanL_cmd h).last, right_clean, clean_clean]
  simp [endF]
theorem readB_more {xs : List Int} (h : Cmd12 xs) : readB (putC xs ++ [0]) = false := by
  unfold readB
  rw [readN_putC h]
  rfl
theorem flat_pos : ∀ (l : List Int), l.length ≤ (l.flatMap putI).length
  | [] => by simp
  | x :: l => by
    have h1 := putI_pos x
    have h2 := flat_pos l
    simp only [List.flatMap_cons, List.length_append, List.length_cons]
    omega
theorem putC_pos (xs : List Int) : 12 ≤ (putC xs).length := by
  have := flat_pos (cleanL xs)
  rw [cleanL_len] at this
  exact this
theorem putC_le {xs : List Int} (h : Cmd12 xs) : (putC xs).length ≤ 120 := by
  have := flat_len (cleanL xs) (cleanL_cmd h).inb
  rw [cleanL_len] at this
  unfold putC
  omega
theorem readB_cut {xs : List Int} (h : Cmd12 xs) : readB ((putC xs).take ((putC xs).length - 1)) = false := by
  have hcl := cleanL_cmd h
  have hn : cleanL xs ≠ [] := fun e => by have := cleanL_len xs; rw [e] at this; cases this
  rcases List.eq_nil_or_concat (cleanL xs) with e | ⟨i, x, e⟩
  · exact absurd e hn
  · rw [List.concat_eq_append] at e
    have hl : i.length = 11 := by have := cleanL_len xs; rw [e] at this; simpa using this
    have hx : -9223372036854775808 ≤ x ∧ x ≤ 9223372036854775807 := hcl.inb x (by rw [e]; simp)
    have hi : ∀ y ∈ i, -9223372036854775808 ≤ y ∧ y ≤ 9223372036854775807 := fun y hy => hcl.inb y (by rw [e]; simp [hy])
    have hp := putI_pos x
    have ht : (putC xs).take ((putC xs).length - 1) = i.flatMap putI ++ (putI x).take ((putI x).length - 1) := by
      unfold putC
      rw [e, List.flatMap_append, show [x].flatMap putI = putI x by simp]
      generalize i.flatMap putI = A
      rw [List.take_append, List.length_append, List.take_of_length_le (by omega), show A.length + (putI x).length - 1 - A.length = (putI x).length - 1 by omega]
    have h3 := readN_put i 1 ((putI x).take ((putI x).length - 1)) hi
    have hc : readN 1 ⟨(putI x).take ((putI x).length - 1), 0⟩ = (⟨[], 10⟩, [0]) := by
      rw [readN_succ, if_pos rfl, intF_cut hx (by omega)]
      rfl
    rw [hc, hl] at h3
    unfold readB
    rw [ht, h3]
    rfl
/-- what is read is laid as it was -/
theorem readB_back {bs : List Int} (hb : ∀ x ∈ bs, 0 ≤ x ∧ x ≤ 255) (h : readB bs = true) : putC (ysC bs) = bs ∧ Cmd12 (ysC bs) ∧ cleanL (ysC bs) = ysC bs ∧ rightL (ysC bs) = true := by
  unfold readB at h
  rw [Bool.and_eq_true, Bool.and_eq_true, beq_iff_eq, decide_eq_true_eq] at h
  obtain ⟨⟨h1, h2⟩, h3⟩ := h
  have hz := nzC_cmd (ysC_len bs) (ysC_in hb)
  have hc : Cmd12 (ysC bs) := by rw [← h3]; exact cleanL_cmd hz
  have hn : nzC (ysC bs) = ysC bs := nzC_same (ysC_len bs) hc.last
  rw [hn] at h2 h3
  refine ⟨?_, hc, h3, h2⟩
  have he := endF_ok h1
  rcases hr : readN 12 ⟨bs, 0⟩ with ⟨st, l⟩
  rw [hr] at he
  simp only at he
  subst he
  obtain ⟨hl, hbs⟩ := readN_back 12 bs [] l hb hr
  have hys : ysC bs = l := by unfold ysC; rw [hr]; simp [hl]
  unfold putC
  rw [h3, hys, hbs]
  simp
theorem putC_inj {xs ys : List Int} (hx : Cmd12 xs) (hy : Cmd12 ys) (h : putC xs = putC ys) : cleanL xs = cleanL ys := by
  rw [← ysC_put hx, ← ysC_put hy, h]
theorem putC_mem (xs : List Int) : ∀ x ∈ putC xs, 0 ≤ x ∧ x ≤ 255 := by
  intro x hx
  unfold putC at hx
  obtain ⟨y, _, hy⟩ := List.mem_flatMap.1 hx
  exact putI_mem y x hy
end Go.Proofs.YtdfkfcpkejjlnaaDoor
