/- The document's answers of layer 22 (berthingref22): Clean, Right, Put, at any twelve numbers. No condition but the numbers' bounds. -/
import Derived.Test.YtlejicmpefdhpaaDoorCmdF
import Derived.Test.YtlejicmpefdhpaaDoorCodRef
import Derived.Test.YtlejicmpefdhpaaDoorCmdQ
namespace Go.Proofs.YtlejicmpefdhpaaDoor
set_option linter.unusedVariables false
open Go.ChangeShapes Go.WideShapes Go.ChangeAt Go.RowKit
attribute [local go_sem ↓] Go.wp_at_zero Go.wp_at_succ comesTo_value_eq comesTo_skip_eq comesTo_enter_eq Rl.comesToR_value_eq Rl.comesToR_skip_eq Rl.comesToR_enter_eq

theorem chr_not : ∀ j : Nat, j < 11 → chrF (j + 1) ≠ 45 := by decide +kernel
theorem fld_dash {n j : Nat} (h : j < 11) : (((fldF n j : Nat) : Int) == 45) = !decide (j + 1 ∈ cntN n) := by
  unfold fldF
  by_cases hc : j + 1 ∈ cntN n
  · rw [if_pos hc, decide_eq_true hc]
    have := chr_not j h
    rw [Bool.not_true, beq_eq_false_iff_ne]
    omega
  · rw [if_neg hc, decide_eq_false hc]; rfl
theorem fld_index (n j : Nat) (h : j < 11) (w : World) : (Instr.index 9 (.string (fldS n)) (.int .i64 (j : Int))).run Tryd.prog w = .ok (.int .u8 (fldF n j : Int)) w := by
  rw [run_index_string w 9 (fldS n) .i64 (j : Int) Tryd.underlying9]
  have hs := fldS_size n
  rw [dif_pos ⟨by omega, by rw [hs]; omega⟩]
  have := fldS_get n j (by rw [hs]; exact h)
  simp only [Int.toNat_natCast]
  rw [this]
theorem fldS_ne (n : Nat) : (fldS n).toList.isEmpty = false := by
  rw [List.isEmpty_eq_false_iff, ByteArray.toList_eq]
  intro e
  have h : (fldS n).data.toList.length = 11 := by have := fldS_size n; rw [Array.length_toList]; exact this
  rw [e] at h
  cases h
/-- fields that do not count made 0, one behind the other -/
def mixL (xs : List Int) (n j : Nat) : List Int := (List.range 12).map fun i => if i = 0 then xs.getD 0 0 else if i ≤ j ∧ i ∉ cntN n then 0 else xs.getD i 0
theorem mixL_len (xs : List Int) (n j : Nat) : (mixL xs n j).length = 12 := by simp [mixL]
theorem mixL_get {xs : List Int} {n j i : Nat} (h : i < 12) : (mixL xs n j).getD i 0 = if i = 0 then xs.getD 0 0 else if i ≤ j ∧ i ∉ cntN n then 0 else xs.getD i 0 := by
  unfold mixL
  rw [List.getD_eq_getElem?_getD, List.getElem?_map, List.getElem?_range h]
  rfl
theorem mixL_zero {xs : List Int} (h : xs.length = 12) (n : Nat) : mixL xs n 0 = xs := by
  refine list_ext12 (mixL_len _ _ _) h fun i hi => ?_
  rw [mixL_get hi]
  by_cases h0 : i = 0
  · rw [if_pos h0, h0]
  · rw [if_neg h0, if_neg (by omega)]
theorem mixL_all {xs : List Int} (n : Nat) : mixL xs n 11 = partL xs (cntN n) := by
  refine list_ext12 (mixL_len _ _ _) (partL_len _ _) fun i hi => ?_
  rw [mixL_get hi, partL_get hi]
  by_cases h0 : i = 0
  · rw [if_pos h0, if_pos h0]
  · rw [if_neg h0, if_neg h0]
    by_cases hc : i ∈ cntN n
    · rw [if_pos hc, if_neg (fun h => h.2 hc)]
    · rw [if_neg hc, if_pos ⟨by omega, hc⟩]
theorem mixL_keep {xs : List Int} {n j : Nat} (hc : j + 1 ∈ cntN n) : mixL xs n (j + 1) = mixL xs n j := by
  refine list_ext12 (mixL_len _ _ _) (mixL_len _ _ _) fun i hi => ?_
  rw [mixL_get hi, mixL_get hi]
  by_cases h0 : i = 0
  · rw [if_pos h0, if_pos h0]
  · rw [if_neg h0, if_neg h0]
    by_cases he : i = j + 1
    · subst he
      rw [if_neg (fun h => h.2 hc), if_neg (fun h => h.2 hc)]
    · have : (i ≤ j + 1 ∧ i ∉ cntN n) ↔ (i ≤ j ∧ i ∉ cntN n) := ⟨fun h => ⟨by omega, h.2⟩, fun h => ⟨by omega, h.2⟩⟩
      simp only [this]
theorem mixL_set {xs : List Int} {n j : Nat} (hj : j < 11) (hc : j + 1 ∉ cntN n) : (mixL xs n j).set (j + 1) 0 = mixL xs n (j + 1) := by
  refine list_ext12 (by rw [List.length_set, mixL_len]) (mixL_len _ _ _) fun i hi => ?_
  rw [List.getD_eq_getElem?_getD, List.getElem?_set, mixL_get hi]
  by_cases he : j + 1 = i
  · subst he
    rw [if_pos rfl, if_pos (by rw [mixL_len]; omega), if_neg (by omega), if_pos ⟨Nat.le_refl _, hc⟩]
    rfl
  · rw [if_neg he, ← List.getD_eq_getElem?_getD, mixL_get hi]
    by_cases h0 : i = 0
    · rw [if_pos h0, if_pos h0]
    · rw [if_neg h0, if_neg h0]
      have : (i ≤ j + 1 ∧ i ∉ cntN n) ↔ (i ≤ j ∧ i ∉ cntN n) := ⟨fun h => ⟨by omega, h.2⟩, fun h => ⟨by omega, h.2⟩⟩
      simp only [this]
theorem numC_size (xs : List Int) : (numC xs).toArray.size = xs.length := by simp [numC]
set_option maxRecDepth 100000 in
set_option maxHeartbeats 400000 in
theorem rclean_any {xs : List Int} (h : xs.length = 12) (w : World) : Calls Tryd.prog 11 #[.agg (numC xs).toArray] w fun e w' => e = .returned (.agg (numC (cleanL xs)).toArray) ∧ Below w.heap.size w w' := by
  have hk0 : (numC xs).toArray[0]? = some (.int .i64 (xs.getD 0 0)) := by have := numC_at (xs := xs) (i := 0) (by omega); simpa using this
  have hcl : kindB xs = true ∨ kindB xs = false := by cases kindB xs; exact .inr rfl; exact .inl rfl
  have HM0 := Lib.hid (fun n => mixL_zero h n)
  generalize hl : numC xs = l at *
  have HL := Lib.hid hl
  clear hl
  go_enter Tryd.func11, Tryd.ntmps11
  go_upto_region 1 with fail
  generalize hW : (w.alloc (.cells l.toArray 27)).alloc (.cells #[.int .i64 0, .int .i64 0, .int .i64 0, .int .i64 0, .int .i64 0, .int .i64 0, .int .i64 0, .int .i64 0, .int .i64 0, .int .i64 0, .int .i64 0, .int .i64 0] 27) = U
  have hC : U.heap[w.heap.size]? = some (.cells l.toArray 27 (0, 0)) := by rw [← hW]; exact ((below_alloc (Below.refl _ _) _).block _ (by simp)).trans (World.alloc_heap_new w _)
  have hZ : U.heap[w.heap.size + 1]? = some (.cells #[.int .i64 0, .int .i64 0, .int .i64 0, .int .i64 0, .int .i64 0, .int .i64 0, .int .i64 0, .int .i64 0, .int .i64 0, .int .i64 0, .int .i64 0, .int .i64 0] 27 (0, 0)) := by
    rw [← hW]
    have := World.alloc_heap_new (w.alloc (.cells l.toArray 27)) (.cells #[.int .i64 0, .int .i64 0, .int .i64 0, .int .i64 0, .int .i64 0, .int .i64 0, .int .i64 0, .int .i64 0, .int .i64 0, .int .i64 0, .int .i64 0, .int .i64 0] 27)
    rwa [show (w.alloc (.cells l.toArray 27)).heap.size = w.heap.size + 1 by simp] at this
  have HB := Lib.hid (show Below w.heap.size w U by rw [← hW]; exact (by repeat (first | exact Below.refl _ _ | assumption | refine below_drewN ?_ _ | refine Below.drew ?_ | refine below_alloc ?_ _ | refine Below.alloc ?_ (by first | omega | (simp; done) | (simp; omega)) _ | refine Below.setCell ?_ (Below.size (by assumption)) _ | refine Below.setCell ?_ (by first | omega | (simp; done) | (simp; omega)) _ | (refine Below.trans ?_ (Below.mono (by assumption) (by first | omega | (simp; done) | (simp; omega)))) | refine below_next ?_ (by assumption))))
  clear hW
  have c0 := cell_of_block (o := 0) hC hk0
  have HC := Lib.hid hC
  have HZ := Lib.hid hZ
  clear hC hZ hk0
  rcases hcl with hk | hk
  · obtain ⟨n, hn, hkn, hn1, hn2⟩ := kindB_yes hk
    rw [hn] at c0
    have KF := Lib.hid (rfields_at n ⟨hn1, hn2⟩ U)
    have HR := Lib.hid (show cleanL xs = mixL xs n 11 by rw [mixL_all]; unfold cleanL; rw [if_pos hk, hkn])
    have hie := fldS_ne n
    have HIX := Lib.hid (fun j hj W => fld_index n j hj W)
    clear hk hn hkn
    generalize fldS n = S at *
    go_wp2_with fail
    ((with_reducible refine KF.out.mono ?_))
    rintro e w1 ⟨rfl, rfl⟩
    have HIE := Lib.hid hie
    go_upto_region 4 with fail
    go_wp2_with fail
    go_loopw [4] (fun i wr => ∃ j : Nat, j ≤ 11 ∧ i = .int .i64 j ∧ wr.heap[w.heap.size]? = some (.cells (numC (mixL xs n j)).toArray 27 (0, 0)) ∧ wr.heap[w.heap.size + 1]? = U.heap[w.heap.size + 1]? ∧ Below w.heap.size w wr) (fun i _ => 11 - (intOf i).toNat)
    case atStart => exact ⟨0, Nat.zero_le _, rfl, by rw [HM0.out, HL.out]; exact HC.out, rfl, HB.out⟩
    case round =>
      obtain ⟨j, hj, rfl, hp, hz, hb⟩ := hrel
      have HP := Lib.hid hp
      have HZR := Lib.hid hz
      have HBR := Lib.hid hb
      clear hp hz hb hie
      by_cases hlt : j < 11
      · have hd : decide ((j : Int) < 11) = true := decide_eq_true (by omega)
        have hix := HIX.out j hlt wr
        have hfd := fld_dash (n := n) hlt
        have HMK := Lib.hid (fun hc => mixL_keep (xs := xs) (n := n) (j := j) hc)
        have HMS := Lib.hid (fun hc => mixL_set (xs := xs) (n := n) hlt hc)
        have hcp : wr.cell? ⟨w.heap.size, 1 + j, none⟩ = some (.int .i64 ((mixL xs n j).getD (j + 1) 0)) := by
          refine cell_of_block HP.out ?_
          have := numC_at (xs := mixL xs n j) (i := j + 1) (by rw [mixL_len]; omega)
          rw [show 1 + j = j + 1 by omega]
          simpa using this
        have hfr := free_of_block (1 + j) HP.out
        generalize ((fldF n j : Nat) : Int) = fc at *
        generalize (mixL xs n j).getD (j + 1) 0 = v0 at *
        by_cases hc : j + 1 ∈ cntN n
        · rw [decide_eq_true hc, Bool.not_true] at hfd
          have HMK1 := Lib.hid (HMK.out hc)
          clear hc
          go_wp2_with fail
          go_roundw
          case rel => exact ⟨j + 1, by omega, by go_num, by rw [HMK1.out]; exact HP.out, HZR.out, HBR.out⟩
          case measure => simp [intOf]; omega
        · rw [decide_eq_false hc, Bool.not_false] at hfd
          have HMS1 := Lib.hid (HMS.out hc)
          clear hc
          go_wp2_with fail
          go_roundw
          case rel =>
            have hW := (wrote_refl HP.out).set (1 + j) (.int .i64 0)
            refine ⟨j + 1, by omega, by go_num, ?_, (hW.rest _ (by omega)).trans HZR.out, hW.below HBR.out (Nat.le_refl _)⟩
            rw [← HMS1.out, ← numC_arr_set, show j + 1 = 1 + j by omega]
            exact hW.there
          case measure => simp [intOf]; omega
      · have hd : decide ((j : Int) < 11) = false := decide_eq_false (by omega)
        obtain rfl : j = 11 := by omega
        have HPE := Lib.hid (show wr.heap[w.heap.size]? = some (.cells (numC (cleanL xs)).toArray 27 (0, 0)) by rw [HR.out]; exact HP.out)
        have HZE := Lib.hid (HZR.out.trans HZ.out)
        have HCL := Lib.hid (show (numC (cleanL xs)).length = 12 by rw [numC_len, cleanL_len])
        have HON := Lib.hid (numC_one (cleanL xs))
        generalize hzl : numC (cleanL xs) = zl at *
        have HZL := Lib.hid hzl
        clear hzl
        go_upto_region 9 with fail
        refine wp_region_lit ?_
        refine wpList_load_all rfl 27 _ rfl w.heap.size zl _ (by go_simp) HPE.out Tryd.underlying27 rfl (by rw [HCL.out]; kernel_rfl) ?_
        refine wpList_store_all rfl 27 _ _ rfl (w.heap.size + 1) (T := 27) zl (by go_simp) (by go_simp) HZE.out (by rw [HCL.out]; rfl) (by rw [HCL.out]; kernel_rfl) HON.out ?_
        intro w7 hw7
        have HW7 := Lib.hid hw7.there
        have HB7 := Lib.hid (hw7.below HBR.out (by omega))
        clear hw7
        go_wp2_with fail
        exact bodyPost_ret (results_all zl _ Tryd.results11 (by go_simp) HW7.out Tryd.underlying27 rfl (by rw [HCL.out]; kernel_rfl)) rfl ⟨by rw [HZL.out], HB7.out⟩
  · have KF := Lib.hid (rfields_no _ (kindB_no hk) U)
    have hres : cleanL xs = List.replicate 12 0 := by unfold cleanL; rw [hk, if_neg (by decide)]
    have HRES := Lib.hid hres
    clear hk hres
    generalize xs.getD 0 0 = k at *
    go_wp2_with fail
    ((with_reducible refine KF.out.mono ?_))
    rintro e w1 ⟨rfl, rfl⟩
    go_upto_region 3 with fail
    refine wp_region_lit ?_
    refine wpList_yield (w' := U) (v := .agg (numC (List.replicate 12 0)).toArray) rfl (by go_simp; rfl) ?_
    refine wpList_store_all rfl 27 _ _ rfl (w.heap.size + 1) (T := 27) (numC (List.replicate 12 0)) (by go_simp) (by go_simp) HZ.out rfl (by kernel_rfl) rfl ?_
    intro w7 hw7
    have HW7 := Lib.hid hw7.there
    have HB7 := Lib.hid (hw7.below HB.out (by omega))
    clear hw7
    go_wp2_with fail
    exact bodyPost_ret (results_all (numC (List.replicate 12 0)) _ Tryd.results11 (by go_simp) HW7.out Tryd.underlying27 rfl (by kernel_rfl)) rfl ⟨by rw [HRES.out], HB7.out⟩
end Go.Proofs.YtlejicmpefdhpaaDoor
