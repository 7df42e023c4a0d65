/- Whether a command may be (layer 22): Right walked. No condition. -/
import Derived.Test.YtlejicmpefdhpaaDoorCmdC
namespace Go.Proofs.YtlejicmpefdhpaaDoor
set_option linter.unusedVariables false
open Go.ChangeShapes Go.WideShapes Go.ChangeAt Go.RowKit
attribute [local go_sem ↓] Go.wp_at_zero Go.wp_at_succ comesTo_value_eq comesTo_skip_eq comesTo_enter_eq

theorem counted_no (k : Int) (h : k < 1 ∨ 12 < k) (w : World) :
    Calls Tryd.prog 25 #[.int .i64 k] w fun e w' => e = .returned (.slice none 0 0) ∧ w = w' := by
  have h1 : (k == 1) = false := by rw [beq_eq_false_iff_ne]; omega
  have h2 : (k == 2) = false := by rw [beq_eq_false_iff_ne]; omega
  have h3 : (k == 3) = false := by rw [beq_eq_false_iff_ne]; omega
  have h4 : (k == 4) = false := by rw [beq_eq_false_iff_ne]; omega
  have h5 : (k == 5) = false := by rw [beq_eq_false_iff_ne]; omega
  have h6 : (k == 6) = false := by rw [beq_eq_false_iff_ne]; omega
  have h7 : (k == 7) = false := by rw [beq_eq_false_iff_ne]; omega
  have h8 : (k == 8) = false := by rw [beq_eq_false_iff_ne]; omega
  have h9 : (k == 9) = false := by rw [beq_eq_false_iff_ne]; omega
  have h10 : (k == 10) = false := by rw [beq_eq_false_iff_ne]; omega
  have h11 : (k == 11) = false := by rw [beq_eq_false_iff_ne]; omega
  have h12 : (k == 12) = false := by rw [beq_eq_false_iff_ne]; omega
  clear h
  go_enter Tryd.func25, Tryd.ntmps25
  go_wp2
  go_ret
  exact ⟨rfl, rfl⟩
theorem numC_one (xs : List Int) : (numC xs).all (·.oneCell') = true := by
  rw [List.all_eq_true]
  intro v hv
  obtain ⟨x, _, rfl⟩ := List.mem_map.1 hv; rfl
set_option maxRecDepth 100000 in
set_option maxHeartbeats 400000 in
theorem right_c {xs : List Int} (h : Cmd12 xs) (w : World) : Calls Tryd.prog 12 #[.agg (cmdC xs).toArray] w fun e w' => e = .returned (.bool (rightL xs)) ∧ Below w.heap.size w w' := by
  have KL := Lib.hid (fun W => laid_c h W)
  have hk0 : (cmdC xs).toArray[0]? = some (.int .i64 (xs.getD 0 0)) := by simpa using cmdC_kind h.len
  have HLEN := Lib.hid (cmdC_len h.len)
  have HK0 := Lib.hid hk0
  have HXL := Lib.hid h.len
  have hcl : kindB xs = true ∨ kindB xs = false := by cases kindB xs; exact .inr rfl; exact .inl rfl
  have HM := Lib.hid (numC_len xs)
  have HMA := Lib.hid (fun (i : Nat) (hi : i < 12) => numC_at (xs := xs) (i := i) (by rw [h.len]; exact hi))
  have HM1 := Lib.hid (numC_one xs)
  generalize hl : cmdC xs = l at *
  generalize hm : numC xs = m at *
  clear hl hm hk0
  go_enter Tryd.func12, Tryd.ntmps12
  go_upto_region 1 with fail
  have hC := World.alloc_heap_new w (.cells l.toArray 24)
  have HB := Lib.hid (below_alloc (Below.refl _ w) (.cells l.toArray 24))
  have HS := Lib.hid (show (w.alloc (.cells l.toArray 24)).heap.size = w.heap.size + 1 by simp)
  generalize w.alloc (.cells l.toArray 24) = U at *
  have HC := Lib.hid hC
  clear hC
  refine wp_region_lit ?_
  refine wpList_load_all rfl 24 _ rfl w.heap.size l _ (by go_simp) HC.out Tryd.underlying24 rfl (by rw [HLEN.out]; kernel_rfl) ?_
  refine wpList_enter rfl (by go_simp) (KL.out U) ?_
  rintro e w2 ⟨rfl, hb2⟩
  refine ⟨_, rfl, ?_⟩
  have hc2 := (hb2.block w.heap.size (by have := HS.out; omega)).trans HC.out
  have HB2 := Lib.hid (below_next HB.out hb2)
  have hs2 : U.heap.size ≤ w2.heap.size := hb2.size
  refine wpList_yield (w' := w2.alloc (.cells #[.int .i64 0, .int .i64 0, .int .i64 0, .int .i64 0, .int .i64 0, .int .i64 0, .int .i64 0, .int .i64 0, .int .i64 0, .int .i64 0, .int .i64 0, .int .i64 0] 55)) (v := .pointer (some ⟨w2.heap.size, 0, none⟩)) rfl (by go_simp) ?_
  refine wpList_store_all rfl 55 _ _ rfl w2.heap.size (cs := #[.int .i64 0, .int .i64 0, .int .i64 0, .int .i64 0, .int .i64 0, .int .i64 0, .int .i64 0, .int .i64 0, .int .i64 0, .int .i64 0, .int .i64 0, .int .i64 0]) (T := 55) m (by go_simp) (by go_simp) (World.alloc_heap_new _ _) (by rw [HM.out, HXL.out]; rfl) (by rw [HM.out, HXL.out]; kernel_rfl) HM1.out ?_
  intro w3 hw3
  have hb3 := hw3.below (below_alloc (Below.refl _ w2) _) (Nat.le_refl _)
  have hs3 : w3.heap.size = w2.heap.size + 1 := by rw [hw3.size]; simp
  have hc3 := (hb3.block _ (by have := HS.out; omega)).trans hc2
  have HM3 := Lib.hid hw3.there
  have HB3 := Lib.hid (below_next HB2.out hb3)
  have HQ := Lib.hid (show w.heap.size + 1 ≤ w2.heap.size by have := HS.out; omega)
  have c0 := cell_of_block (o := 0) hc3 HK0.out
  have HC3 := Lib.hid hc3
  have HN3 := Lib.hid hs3
  clear hw3 hb3 hc3 hc2 hb2 hs2 HB2 HB HC KL hs3
  generalize w2.heap.size = q at *
  rcases hcl with hk | hk
  · obtain ⟨n, hn, hkn, hn1, hn2⟩ := kindB_yes hk
    rw [hn] at c0
    have HR := Lib.hid (show rightL xs = (cntN n).all fun f => decide ((bndF (n : Int) f).1 ≤ xs.getD f 0) && decide (xs.getD f 0 ≤ (bndF (n : Int) f).2) by unfold rightL; rw [hk, hkn, hn, Bool.true_and])
    have KC := Lib.hid (counted_n n ⟨hn1, hn2⟩ w3)
    have HN0 := Lib.hid hn
    clear hk hn hkn
    go_wp2_with fail
    ((with_reducible refine KC.out.mono ?_))
    rintro e w5 ⟨rfl, hcnt, hb5⟩
    have HM5 := Lib.hid ((hb5.block q (by have := HN3.out; omega)).trans HM3.out)
    have HB5 := Lib.hid (below_next HB3.out hb5)
    have hc5 := (hb5.block w.heap.size (by have := HN3.out; have := HQ.out; omega)).trans HC3.out
    have HC5 := Lib.hid hc5
    rw [HN3.out] at hcnt
    have HCNT := Lib.hid hcnt
    rw [show w3.heap.size = q + 1 from HN3.out]
    have hcl := cntN_len n
    have HCI := Lib.hid (cntN_in n)
    have KI := Lib.hid (fun W => iskind_yes (n : Int) (by omega) (by omega) W)
    generalize hcs : cntN n = fs at *
    clear hcnt hb5 c0 KC hcs hc5
    go_wp2_with fail
    generalize hlen : fs.length = len at *
    have HLN := Lib.hid hlen
    clear hlen
    go_loopw [14] (fun i wr => ∃ j : Nat, j ≤ len ∧ i = .int .i64 j ∧ (∀ f ∈ fs.take j, (bndF (n : Int) f).1 ≤ xs.getD f 0 ∧ xs.getD f 0 ≤ (bndF (n : Int) f).2) ∧ wr = w5) (fun i _ => len - (intOf i).toNat)
    case atStart => exact ⟨0, Nat.zero_le _, rfl, (fun f hf => by cases hf), rfl⟩
    case round =>
      obtain ⟨j, hj, rfl, hall, rfl⟩ := hrel
      have HA := Lib.hid hall
      clear hall
      by_cases hlt : j < len
      · have hd : decide ((j : Int) < (len : Int)) = true := decide_eq_true (by omega)
        have hjl : j < fs.length := by have := HLN.out; omega
        have hcn : wr.cell? ⟨q + 1, j, none⟩ = some (.int .i64 ((fs.getD j 0 : Nat) : Int)) := by
          refine cell_of_block HCNT.out ?_
          simp [hjl]
        have hmem : fs.getD j 0 ∈ fs := by simp [List.getD, hjl]
        have htk : fs.take (j + 1) = fs.take j ++ [fs.getD j 0] := by
          rw [List.take_add_one]; simp [List.getD, hjl]
        have hf := HCI.out _ hmem
        have HTK := Lib.hid htk
        have HMEM := Lib.hid hmem
        clear hmem htk hjl
        generalize fs.getD j 0 = f at *
        have hf1 := hf.1
        have hf2 : f < 12 := by omega
        have KB := Lib.hid (bounds_at (n : Int) f hf wr)
        have hcm : wr.cell? ⟨q, f, none⟩ = some (.int .i64 (xs.getD f 0)) := by
          refine cell_of_block HM5.out ?_
          have := HMA.out f hf2
          simpa using this
        have c0 := cell_of_block (o := 0) HC5.out HK0.out
        rw [show xs.getD 0 0 = (n : Int) from HN0.out] at c0
        have HX := Lib.hid (show ((bndF (n : Int) f).1 ≤ xs.getD f 0 ∧ xs.getD f 0 ≤ (bndF (n : Int) f).2) → ∀ g ∈ fs.take (j + 1), (bndF (n : Int) g).1 ≤ xs.getD g 0 ∧ xs.getD g 0 ≤ (bndF (n : Int) g).2 from fun hh g hg => by
          rw [HTK.out] at hg
          rcases List.mem_append.1 hg with hg | hg
          · exact HA.out g hg
          · rw [List.mem_singleton.1 hg]; exact hh)
        have HNO := Lib.hid (show ¬ ((bndF (n : Int) f).1 ≤ xs.getD f 0 ∧ xs.getD f 0 ≤ (bndF (n : Int) f).2) → rightL xs = false from fun hh => by
          rw [HR.out, List.all_eq_false]
          exact ⟨f, HMEM.out, by rw [Bool.and_eq_true, decide_eq_true_eq, decide_eq_true_eq]; exact hh⟩)
        clear hf
        generalize xs.getD f 0 = v at *
        rcases hbd : bndF (n : Int) f with ⟨lo, hi⟩
        rw [hbd] at KB HX HNO
        clear hbd
        simp only at KB HX HNO
        by_cases hlo : lo ≤ v
        · have hd1 : decide (v < lo) = false := decide_eq_false (by omega)
          by_cases hhi : v ≤ hi
          · have hd2 : decide (v > hi) = false := decide_eq_false (by omega)
            have HOK := Lib.hid (HX.out ⟨hlo, hhi⟩)
            clear hlo hhi
            go_wp2_with fail
            ((with_reducible refine KB.out.mono ?_))
            rintro e w6 ⟨rfl, rfl⟩
            go_wp2_with fail
            go_roundw
            case rel => exact ⟨j + 1, by omega, by go_num, HOK.out, trivial⟩
            case measure => simp [intOf]; omega
          · have hd2 : decide (v > hi) = true := decide_eq_true (by omega)
            have HF := Lib.hid (HNO.out fun hh => hhi hh.2)
            clear hlo hhi
            go_wp2_with fail
            ((with_reducible refine KB.out.mono ?_))
            rintro e w6 ⟨rfl, rfl⟩
            go_wp2
            go_ret
            exact ⟨by rw [HF.out]; rfl, HB5.out⟩
        · have hd1 : decide (v < lo) = true := decide_eq_true (by omega)
          have HF := Lib.hid (HNO.out fun hh => hlo hh.1)
          clear hlo
          go_wp2_with fail
          ((with_reducible refine KB.out.mono ?_))
          rintro e w6 ⟨rfl, rfl⟩
          go_wp2
          go_ret
          exact ⟨by rw [HF.out]; rfl, HB5.out⟩
      · have hd : decide ((j : Int) < (len : Int)) = false := decide_eq_false (by omega)
        have c0 := cell_of_block (o := 0) HC5.out HK0.out
        rw [show xs.getD 0 0 = (n : Int) from HN0.out] at c0
        have HT := Lib.hid (show rightL xs = true by
          rw [HR.out, List.all_eq_true]
          intro f hf
          have := HA.out f (by rw [List.take_of_length_le (by have := HLN.out; omega)]; exact hf)
          rw [Bool.and_eq_true, decide_eq_true_eq, decide_eq_true_eq]; exact this)
        go_wp2_with fail
        ((with_reducible refine (KI.out _).mono ?_))
        rintro e w6 ⟨rfl, rfl⟩
        go_wp2
        go_ret
        exact ⟨by rw [HT.out]; rfl, HB5.out⟩
  · have KC := Lib.hid (counted_no _ (kindB_no hk) w3)
    have KI := Lib.hid (iskind_no _ (kindB_no hk) w3)
    have HRES := Lib.hid (show rightL xs = false by unfold rightL; rw [hk, Bool.false_and])
    clear hk
    generalize xs.getD 0 0 = k at *
    go_wp2_with fail
    ((with_reducible refine KC.out.mono ?_))
    rintro e w5 ⟨rfl, rfl⟩
    go_wp2_with fail
    go_loopw [14] (fun i wr => i = .int .i64 0 ∧ wr = w3) (fun i _ => 0)
    case atStart => exact ⟨rfl, rfl⟩
    case round =>
      obtain ⟨rfl, rfl⟩ := hrel
      go_wp2_with fail
      ((with_reducible refine KI.out.mono ?_))
      rintro e w6 ⟨rfl, rfl⟩
      go_wp2
      go_ret
      exact ⟨by rw [HRES.out]; rfl, HB3.out⟩
end Go.Proofs.YtlejicmpefdhpaaDoor
