/- Laws that belong together: The document's answers of layer 22 (berthingref22): Clean, Right, Put, at any twelve numbers. No condition but the numbers' bounds.; The document's answers of layer 22 (berthingref22): Right, Put, at any twelve numbers. No condition but the numbers' bounds. -/
import Derived.Test.YtdfkfcpkejjlnaaDoorMae
import Derived.Test.YtdfkfcpkejjlnaaDoorMad
namespace Go.Proofs.YtdfkfcpkejjlnaaDoor
set_option linter.unusedVariables false
open Go.ChangeShapes Go.WideShapes Go.ChangeAt Go.RowKit
attribute [local go_sem ↓] Go.wp_at_zero Go.wp_at_succ comesTo_value_eq comesTo_skip_eq comesTo_enter_eq Rl.comesToR_value_eq Rl.comesToR_skip_eq Rl.comesToR_enter_eq

theorem chr_not : ∀ j : Nat, j < 11 → chrF (j + 1) ≠ 45 := by decide +kernel
theorem fld_dash {n j : Nat} (h : j < 11) : (((fldF n j : Nat) : Int) == 45) = !decide (j + 1 ∈ cntN n) := by
  unfold fldF
  by_cases hc : j + 1 ∈ cntN n
  · rw [if_pos hc, decide_eq_true hc]
    have := chr_not j h
    rw [Bool.not_true, beq_eq_false_iff_ne]
    omega
  · rw [if_neg hc, decide_eq_false hc]; rfl
theorem fld_index (n j : Nat) (h : j < 11) (w : World) : (Instr.index 9 (.string (fldS n)) (.int .i64 (j : Int))).run Tryd.prog w = .ok (.int .u8 (fldF n j : Int)) w := by
  rw [run_index_string w 9 (fldS n) .i64 (j : Int) Tryd.underlying9]
  have hs := fldS_size n
  rw [dif_pos ⟨by omega, by rw [hs]; omega⟩]
  have := fldS_get n j (by rw [hs]; exact h)
  simp only [Int.toNat_natCast]
  rw [this]
theorem fldS_ne (n : Nat) : (fldS n).toList.isEmpty = false := by
  rw [List.isEmpty_eq_false_iff, ByteArray.toList_eq]
  intro e
  have h : (fldS n).data.toList.length = 11 := by have := fldS_size n; rw [Array.length_toList]; exact this
  rw [e] at h
  cases h
/-- fields that do not count made 0, one behind the other -/
def mixL (xs : List Int) (n j : Nat) : List Int := (List.range 12).map fun i => if i = 0 then xs.getD 0 0 else if i ≤ j ∧ i ∉ cntN n then 0 else xs.getD i 0
theorem mixL_len (xs : List Int) (n j : Nat) : (mixL xs n j).length = 12 := by simp [mixL]
theorem mixL_get {xs : List Int} {n j i : Nat} (h : i < 12) : (mixL xs n j).getD i 0 = if i = 0 then xs.getD 0 0 else if i ≤ j ∧ i ∉ cntN n then 0 else xs.getD i 0 := by
  unfold mixL
  rw [List.getD_eq_getElem?_getD, List.getElem?_map, List.getElem?_range h]
  rfl
theorem mixL_zero {xs : List Int} (h : xs.length = 12) (n : Nat) : mixL xs n 0 = xs := by
  refine list_ext12 (mixL_len _ _ _) h fun i hi => ?_
  rw [mixL_get hi]
  by_cases h0 : i = 0
  · rw [if_pos h0, h0]
  · rw [if_neg h0, if_neg (by omega)]
theorem mixL_all {xs : List Int} (n : Nat) : mixL xs n 11 = partL xs (cntN n) := by
  refine list_ext12 (mixL_len _ _ _) (partL_len _ _) fun i hi => ?_
  rw [mixL_get hi, partL_get hi]
  by_cases h0 : i = 0
  · rw [if_pos h0, if_pos h0]
  · rw [if_neg h0, if_neg h0]
    by_cases hc : i ∈ cntN n
    · rw [if_pos hc, if_neg (fun h => h.2 hc)]
    · rw [if_neg hc, if_pos ⟨by omega, hc⟩]
theorem mixL_keep {xs : List Int} {n j : Nat} (hc : j + 1 ∈ cntN n) : mixL xs n (j + 1) = mixL xs n j := by
  refine list_ext12 (mixL_len _ _ _) (mixL_len _ _ _) fun i hi => ?_
  rw [mixL_get hi, mixL_get hi]
  by_cases h0 : i = 0
  · rw [if_pos h0, if_pos h0]
  · rw [if_neg h0, if_neg h0]
    by_cases he : i = j + 1
    · subst he
      rw [if_neg (fun h => h.2 hc), if_neg (fun h => h.2 hc)]
    · have : (i ≤ j + 1 ∧ i ∉ cntN n) ↔ (i ≤ j ∧ i ∉ cntN n) := ⟨fun h => ⟨by omega, h.2⟩, fun h => ⟨by omega, h.2⟩⟩
      simp only [this]
theorem mixL_set {xs : List Int} {n j : Nat} (hj : j < 11) (hc : j + 1 ∉ cntN n) : (mixL xs n j).set (j + 1) 0 = mixL xs n (j + 1) := by
  refine list_ext12 (by rw [List.length_set, mixL_len]) (mixL_len _ _ _) fun i hi => ?_
  rw [List.getD_eq_getElem?_getD, List.getElem?_set, mixL_get hi]
  by_cases he : j + 1 = i
  · subst he
    rw [if_pos rfl, if_pos (by rw [mixL_len]; omega), if_neg (by omega), if_pos ⟨Nat.le_refl _, hc⟩]
    rfl
  · rw [if_neg he, ← List.getD_eq_getElem?_getD, mixL_get hi]
    by_cases h0 : i = 0
    · rw [if_pos h0, if_pos h0]
    · rw [if_neg h0, if_neg h0]
      have : (i ≤ j + 1 ∧ i ∉ cntN n) ↔ (i ≤ j ∧ i ∉ cntN n) := ⟨fun h => ⟨by omega, h.2⟩, fun h => ⟨by omega, h.2⟩⟩
      simp only [this]
theorem numC_size (xs : List Int) : (numC xs).toArray.size = xs.length := by simp [numC]
set_option maxRecDepth 100000 in
set_option maxHeartbeats 400000 in
theorem rclean_any {xs : List Int} (h : xs.length = 12) (w : World) : Calls Tryd.prog 20 #[.agg (numC xs).toArray] w fun e w' => e = .returned (.agg (numC (cleanL xs)).toArray) ∧ Below w.heap.size w w' := by
  have hk0 : (numC xs).toArray[0]? = some (.int .i64 (xs.getD 0 0)) := by have := numC_at (xs := xs) (i := 0) (by omega); simpa using this
  have hcl : kindB xs = true ∨ kindB xs = false := by cases kindB xs; exact .inr rfl; exact .inl rfl
  have HM0 := Lib.hid (fun n => mixL_zero h n)
  generalize hl : numC xs = l at *
  have HL := Lib.hid hl
  clear hl
  go_enter Tryd.func20, Tryd.ntmps20
  go_upto_region 1 with fail
  generalize hW : (w.alloc (.cells l.toArray 32)).alloc (.cells #[.int .i64 0, .int .i64 0, .int .i64 0, .int .i64 0, .int .i64 0, .int .i64 0, .int .i64 0, .int .i64 0, .int .i64 0, .int .i64 0, .int .i64 0, .int .i64 0] 32) = U
  have hC : U.heap[w.heap.size]? = some (.cells l.toArray 32 (0, 0)) := by rw [← hW]; exact ((below_alloc (Below.refl _ _) _).block _ (by simp)).trans (World.alloc_heap_new w _)
  have hZ : U.heap[w.heap.size + 1]? = some (.cells #[.int .i64 0, .int .i64 0, .int .i64 0, .int .i64 0, .int .i64 0, .int .i64 0, .int .i64 0, .int .i64 0, .int .i64 0, .int .i64 0, .int .i64 0, .int .i64 0] 32 (0, 0)) := by
    rw [← hW]
    have := World.alloc_heap_new (w.alloc (.cells l.toArray 32)) (.cells #[.int .i64 0, .int .i64 0, .int .i64 0, .int .i64 0, .int .i64 0, .int .i64 0, .int .i64 0, .int .i64 0, .int .i64 0, .int .i64 0, .int .i64 0, .int .i64 0] 32)
    rwa [show (w.alloc (.cells l.toArray 32)).heap.size = w.heap.size + 1 by simp] at this
  have HB := Lib.hid (show Below w.heap.size w U by rw [← hW]; exact (by repeat (first | exact Below.refl _ _ | assumption | refine below_drewN ?_ _ | refine Below.drew ?_ | refine below_alloc ?_ _ | refine Below.alloc ?_ (by first | omega | (simp; done) | (simp; omega)) _ | refine Below.setCell ?_ (Below.size (by assumption)) _ | refine Below.setCell ?_ (by first | omega | (simp; done) | (simp; omega)) _ | (refine Below.trans ?_ (Below.mono (by assumption) (by first | omega | (simp; done) | (simp; omega)))) | refine below_next ?_ (by assumption))))
  clear hW
  have c0 := cell_of_block (o := 0) hC hk0
  have HC := Lib.hid hC
  have HZ := Lib.hid hZ
  clear hC hZ hk0
  rcases hcl with hk | hk
  · obtain ⟨n, hn, hkn, hn1, hn2⟩ := kindB_yes hk
    rw [hn] at c0
    have KF := Lib.hid (rfields_at n ⟨hn1, hn2⟩ U)
    have HR := Lib.hid (show cleanL xs = mixL xs n 11 by rw [mixL_all]; unfold cleanL; rw [if_pos hk, hkn])
    have hie := fldS_ne n
    have HIX := Lib.hid (fun j hj W => fld_index n j hj W)
    clear hk hn hkn
    generalize fldS n = S at *
    go_wp2_with fail
    ((with_reducible refine KF.out.mono ?_))
    rintro e w1 ⟨rfl, rfl⟩
    have HIE := Lib.hid hie
    go_upto_region 4 with fail
    go_wp2_with fail
    go_loopw [4] (fun i wr => ∃ j : Nat, j ≤ 11 ∧ i = .int .i64 j ∧ wr.heap[w.heap.size]? = some (.cells (numC (mixL xs n j)).toArray 32 (0, 0)) ∧ wr.heap[w.heap.size + 1]? = U.heap[w.heap.size + 1]? ∧ Below w.heap.size w wr) (fun i _ => 11 - (intOf i).toNat)
    case atStart => exact ⟨0, Nat.zero_le _, rfl, by rw [HM0.out, HL.out]; exact HC.out, rfl, HB.out⟩
    case round =>
      obtain ⟨j, hj, rfl, hp, hz, hb⟩ := hrel
      have HP := Lib.hid hp
      have HZR := Lib.hid hz
      have HBR := Lib.hid hb
      clear hp hz hb hie
      by_cases hlt : j < 11
      · have hd : decide ((j : Int) < 11) = true := decide_eq_true (by omega)
        have hix := HIX.out j hlt wr
        have hfd := fld_dash (n := n) hlt
        have HMK := Lib.hid (fun hc => mixL_keep (xs := xs) (n := n) (j := j) hc)
        have HMS := Lib.hid (fun hc => mixL_set (xs := xs) (n := n) hlt hc)
        have hcp : wr.cell? ⟨w.heap.size, 1 + j, none⟩ = some (.int .i64 ((mixL xs n j).getD (j + 1) 0)) := by
          refine cell_of_block HP.out ?_
          have := numC_at (xs := mixL xs n j) (i := j + 1) (by rw [mixL_len]; omega)
          rw [show 1 + j = j + 1 by omega]
          simpa using this
        have hfr := free_of_block (1 + j) HP.out
        generalize ((fldF n j : Nat) : Int) = fc at *
        generalize (mixL xs n j).getD (j + 1) 0 = v0 at *
        by_cases hc : j + 1 ∈ cntN n
        · rw [decide_eq_true hc, Bool.not_true] at hfd
          have HMK1 := Lib.hid (HMK.out hc)
          clear hc
          go_wp2_with fail
          go_roundw
          case rel => exact ⟨j + 1, by omega, by go_num, by rw [HMK1.out]; exact HP.out, HZR.out, HBR.out⟩
          case measure => simp [intOf]; omega
        · rw [decide_eq_false hc, Bool.not_false] at hfd
          have HMS1 := Lib.hid (HMS.out hc)
          clear hc
          go_wp2_with fail
          go_roundw
          case rel =>
            have hW := (wrote_refl HP.out).set (1 + j) (.int .i64 0)
            refine ⟨j + 1, by omega, by go_num, ?_, (hW.rest _ (by omega)).trans HZR.out, hW.below HBR.out (Nat.le_refl _)⟩
            rw [← HMS1.out, ← numC_arr_set, show j + 1 = 1 + j by omega]
            exact hW.there
          case measure => simp [intOf]; omega
      · have hd : decide ((j : Int) < 11) = false := decide_eq_false (by omega)
        obtain rfl : j = 11 := by omega
        have HPE := Lib.hid (show wr.heap[w.heap.size]? = some (.cells (numC (cleanL xs)).toArray 32 (0, 0)) by rw [HR.out]; exact HP.out)
        have HZE := Lib.hid (HZR.out.trans HZ.out)
        have HCL := Lib.hid (show (numC (cleanL xs)).length = 12 by rw [numC_len, cleanL_len])
        have HON := Lib.hid (numC_one (cleanL xs))
        generalize hzl : numC (cleanL xs) = zl at *
        have HZL := Lib.hid hzl
        clear hzl
        go_upto_region 9 with fail
        refine wp_region_lit ?_
        refine wpList_load_all rfl 32 _ rfl w.heap.size zl _ (by go_simp) HPE.out Tryd.underlying32 rfl (by rw [HCL.out]; kernel_rfl) ?_
        refine wpList_store_all rfl 32 _ _ rfl (w.heap.size + 1) (T := 32) zl (by go_simp) (by go_simp) HZE.out (by rw [HCL.out]; rfl) (by rw [HCL.out]; kernel_rfl) HON.out ?_
        intro w7 hw7
        have HW7 := Lib.hid hw7.there
        have HB7 := Lib.hid (hw7.below HBR.out (by omega))
        clear hw7
        go_wp2_with fail
        exact bodyPost_ret (results_all zl _ Tryd.results20 (by go_simp) HW7.out Tryd.underlying32 rfl (by rw [HCL.out]; kernel_rfl)) rfl ⟨by rw [HZL.out], HB7.out⟩
  · have KF := Lib.hid (rfields_no _ (kindB_no hk) U)
    have hres : cleanL xs = List.replicate 12 0 := by unfold cleanL; rw [hk, if_neg (by decide)]
    have HRES := Lib.hid hres
    clear hk hres
    generalize xs.getD 0 0 = k at *
    go_wp2_with fail
    ((with_reducible refine KF.out.mono ?_))
    rintro e w1 ⟨rfl, rfl⟩
    go_upto_region 3 with fail
    refine wp_region_lit ?_
    refine wpList_yield (w' := U) (v := .agg (numC (List.replicate 12 0)).toArray) rfl (by go_simp; rfl) ?_
    refine wpList_store_all rfl 32 _ _ rfl (w.heap.size + 1) (T := 32) (numC (List.replicate 12 0)) (by go_simp) (by go_simp) HZ.out rfl (by kernel_rfl) rfl ?_
    intro w7 hw7
    have HW7 := Lib.hid hw7.there
    have HB7 := Lib.hid (hw7.below HB.out (by omega))
    clear hw7
    go_wp2_with fail
    exact bodyPost_ret (results_all (numC (List.replicate 12 0)) _ Tryd.results20 (by go_simp) HW7.out Tryd.underlying32 rfl (by kernel_rfl)) rfl ⟨by rw [HRES.out], HB7.out⟩
end Go.Proofs.YtdfkfcpkejjlnaaDoor
namespace Go.Proofs.YtdfkfcpkejjlnaaDoor
set_option linter.unusedVariables false
open Go.ChangeShapes Go.WideShapes Go.ChangeAt Go.RowKit
attribute [local go_sem ↓] Go.wp_at_zero Go.wp_at_succ comesTo_value_eq comesTo_skip_eq comesTo_enter_eq Rl.comesToR_value_eq Rl.comesToR_skip_eq Rl.comesToR_enter_eq

theorem right_may {xs : List Int} {n : Nat} (hk : kindB xs = true) (hn : xs.getD 0 0 = (n : Int)) : rightL xs = true ↔ ∀ i, i < 11 → mayB n i (xs.getD (i + 1) 0) = true := by
  have hkn : kN xs = n := by unfold kN; rw [hn]; rfl
  unfold rightL
  rw [hk, hkn, hn, Bool.true_and, List.all_eq_true]
  constructor
  · intro h i hi
    unfold mayB
    by_cases hc : i + 1 ∈ cntN n
    · rw [if_pos hc]; exact h _ hc
    · rw [if_neg hc]
  · intro h f hf
    have hb := cntN_in n f hf
    have := h (f - 1) (by omega)
    unfold mayB at this
    rw [show f - 1 + 1 = f by omega, if_pos hf] at this
    exact this
set_option maxRecDepth 100000 in
set_option maxHeartbeats 400000 in
theorem rright_any {xs : List Int} (h : xs.length = 12) (w : World) : Calls Tryd.prog 18 #[.agg (numC xs).toArray] w fun e w' => e = .returned (.bool (rightL xs)) ∧ Below w.heap.size w w' := by
  have hmx : Tryd.prog.follows .mixedOrders = true := by kernel_rfl
  have hk0 : (numC xs).toArray[0]? = some (.int .i64 (xs.getD 0 0)) := by have := numC_at (xs := xs) (i := 0) (by omega); simpa using this
  have HMA := Lib.hid (fun (i : Nat) (hi : i < 12) => show (numC xs).toArray[i]? = some (.int .i64 (xs.getD i 0)) by have := numC_at (xs := xs) (i := i) (by omega); simpa using this)
  have hcl : kindB xs = true ∨ kindB xs = false := by cases kindB xs; exact .inr rfl; exact .inl rfl
  generalize numC xs = l at *
  go_enter Tryd.func18, Tryd.ntmps18
  go_upto_region 1 with fail
  have hN := World.alloc_heap_new w (.cells l.toArray 32)
  have HB := Lib.hid (below_alloc (Below.refl _ w) (.cells l.toArray 32))
  generalize w.alloc (.cells l.toArray 32) = U at *
  have c0 := cell_of_block (o := 0) hN hk0
  have HN := Lib.hid hN
  clear hN hk0
  rcases hcl with hk | hk
  · obtain ⟨n, hn, hkn, hn1, hn2⟩ := kindB_yes hk
    have HRM := Lib.hid (right_may hk hn)
    have HN0 := Lib.hid hn
    rw [hn] at c0
    have KF := Lib.hid (rfields_at n ⟨hn1, hn2⟩ U)
    have hie := fldS_ne n
    have HIX := Lib.hid (fun j hj W => fld_index n j hj W)
    have HSZ := Lib.hid (fldS_size n)
    clear hk hn hkn
    generalize fldS n = S at *
    go_wp2_with fail
    ((with_reducible refine KF.out.mono ?_))
    rintro e w1 ⟨rfl, rfl⟩
    go_wp2_with fail
    go_loopw [4] (fun i wr => ∃ j : Nat, j ≤ 11 ∧ i = .int .i64 j ∧ (∀ m, m < j → mayB n m (xs.getD (m + 1) 0) = true) ∧ Below U.heap.size U wr) (fun i _ => 11 - (intOf i).toNat)
    case atStart => exact ⟨0, Nat.zero_le _, rfl, (fun m hm => by omega), Below.refl _ _⟩
    case round =>
      obtain ⟨j, hj, rfl, hall, hb⟩ := hrel
      have HA := Lib.hid hall
      have HBR := Lib.hid hb
      have HF := Lib.hid (below_next HB.out hb)
      have hnr := (hb.block _ (Array.getElem?_eq_some_iff.1 HN.out).1).trans HN.out
      have HNR := Lib.hid hnr
      clear hall hb hnr c0
      by_cases hlt : j < 11
      · have hd : decide (j < S.size) = true := by rw [HSZ.out]; exact decide_eq_true (by omega)
        have HC0 := Lib.hid (fun (W : World) (h : Below wr.heap.size wr W) => cell_of_block (o := 0) ((h.block _ (Array.getElem?_eq_some_iff.1 HNR.out).1).trans HNR.out) (HN0.out ▸ HMA.out 0 (by decide)))
        have HCJ := Lib.hid (fun (W : World) (h : Below wr.heap.size wr W) => cell_of_block (o := 1 + j) ((h.block _ (Array.getElem?_eq_some_iff.1 HNR.out).1).trans HNR.out) (by rw [show 1 + j = j + 1 by omega]; exact HMA.out (j + 1) (by omega)))
        have KM := Lib.hid (fun W => rmay_any n j hlt (xs.getD (j + 1) 0) W)
        have HSTEP := Lib.hid (show mayB n j (xs.getD (j + 1) 0) = true → ∀ m, m < j + 1 → mayB n m (xs.getD (m + 1) 0) = true from fun h m hm => by
          rcases Nat.lt_or_ge m j with h1 | h1
          · exact HA.out m h1
          · obtain rfl : m = j := by omega
            exact h)
        have HNO := Lib.hid (show mayB n j (xs.getD (j + 1) 0) = false → rightL xs = false from fun h => by
          cases hr : rightL xs with
          | false => rfl
          | true => rw [HRM.out.1 hr j hlt] at h; cases h)
        have HIJ := Lib.hid (fun W => HIX.out j hlt W)
        generalize xs.getD (j + 1) 0 = v at *
        generalize fldF n j = fc at *
        have hji : (j : Int) < 11 := by omega
        cases hm : mayB n j v with
        | true =>
          rw [hm] at KM
          have HS1 := Lib.hid (HSTEP.out hm)
          clear hm
          go_wp2_with fail
          refine Rl.wp_region_rel (fun a b => Below a.heap.size a b) wr (fun a b c h h' => below_next h h') (fun a => Below.refl _ _) hmx (by kernel_rfl) (Below.refl _ _).drew ?_
          (refine Rl.textR_run ?_ (fun ρ => ?_) (fun ρ W hS hd => ?_) ?_; rotate_left; (focus go_simp); (focus (obtain ⟨hc, hf⟩ := bcell hS; go_simp; first | exact ⟨rfl, Below.refl _ _⟩ | (refine ⟨?_, Below.refl _ _⟩; rfl))); (try go_simp))
          (refine Rl.textR_run ?_ (fun ρ => ?_) (fun ρ W hS hd => ?_) ?_; rotate_left; (focus go_simp); (focus (have hfact := HC0.out W hS; go_simp; first | exact ⟨rfl, Below.refl _ _⟩ | (refine ⟨?_, Below.refl _ _⟩; rfl))); (try go_simp))
          iterate 2 (refine Rl.textR_run ?_ (fun ρ => ?_) (fun ρ W hS hd => ?_) ?_; rotate_left; (focus go_simp); (focus (obtain ⟨hc, hf⟩ := bcell hS; go_simp; first | exact ⟨rfl, Below.refl _ _⟩ | (refine ⟨?_, Below.refl _ _⟩; rfl))); (try go_simp))
          (refine Rl.textR_run ?_ (fun ρ => ?_) (fun ρ W hS hd => ?_) ?_; rotate_left; (focus go_simp); (focus (have hfact := HIJ.out W; go_simp; first | exact ⟨rfl, Below.refl _ _⟩ | (refine ⟨?_, Below.refl _ _⟩; rfl))); (try go_simp))
          iterate 3 (refine Rl.textR_run ?_ (fun ρ => ?_) (fun ρ W hS hd => ?_) ?_; rotate_left; (focus go_simp); (focus (obtain ⟨hc, hf⟩ := bcell hS; go_simp; first | exact ⟨rfl, Below.refl _ _⟩ | (refine ⟨?_, Below.refl _ _⟩; rfl))); (try go_simp))
          (refine Rl.textR_run ?_ (fun ρ => ?_) (fun ρ W hS hd => ?_) ?_; rotate_left; (focus go_simp); (focus (have hfact := HCJ.out W hS; go_simp; first | exact ⟨rfl, Below.refl _ _⟩ | (refine ⟨?_, Below.refl _ _⟩; rfl))); (try go_simp))
          (refine Rl.textR_run ?_ (fun ρ => ?_) (fun ρ W hS hd => ?_) ?_; rotate_left; (focus go_simp); (focus (obtain ⟨hc, hf⟩ := bcell hS; go_simp; refine (KM.out W).mono ?_; rintro e w1 ⟨rfl, rfl⟩; refine ⟨_, rfl, ?_, Below.refl _ _⟩; rfl)); (try go_simp))
          (refine Rl.textR_run ?_ (fun ρ => ?_) (fun ρ W hS hd => ?_) ?_; rotate_left; (focus go_simp); (focus (obtain ⟨hc, hf⟩ := bcell hS; go_simp; first | exact ⟨rfl, Below.refl _ _⟩ | (refine ⟨?_, Below.refl _ _⟩; rfl))); (try go_simp))
          refine Rl.textR_nil ?_
          intro ρ w2 hg hk
          have HG := Lib.hid (below_next HBR.out hg)
          clear hg hk
          dsimp only
          clear ρ
          go_wp2_with fail
          go_roundw
          case rel => exact ⟨j + 1, by omega, by go_num, HS1.out, HG.out⟩
          case measure => simp [intOf]; omega
        | false =>
          rw [hm] at KM
          have HS1 := Lib.hid (HNO.out hm)
          clear hm
          go_wp2_with fail
          refine Rl.wp_region_rel (fun a b => Below a.heap.size a b) wr (fun a b c h h' => below_next h h') (fun a => Below.refl _ _) hmx (by kernel_rfl) (Below.refl _ _).drew ?_
          (refine Rl.textR_run ?_ (fun ρ => ?_) (fun ρ W hS hd => ?_) ?_; rotate_left; (focus go_simp); (focus (obtain ⟨hc, hf⟩ := bcell hS; go_simp; first | exact ⟨rfl, Below.refl _ _⟩ | (refine ⟨?_, Below.refl _ _⟩; rfl))); (try go_simp))
          (refine Rl.textR_run ?_ (fun ρ => ?_) (fun ρ W hS hd => ?_) ?_; rotate_left; (focus go_simp); (focus (have hfact := HC0.out W hS; go_simp; first | exact ⟨rfl, Below.refl _ _⟩ | (refine ⟨?_, Below.refl _ _⟩; rfl))); (try go_simp))
          iterate 2 (refine Rl.textR_run ?_ (fun ρ => ?_) (fun ρ W hS hd => ?_) ?_; rotate_left; (focus go_simp); (focus (obtain ⟨hc, hf⟩ := bcell hS; go_simp; first | exact ⟨rfl, Below.refl _ _⟩ | (refine ⟨?_, Below.refl _ _⟩; rfl))); (try go_simp))
          (refine Rl.textR_run ?_ (fun ρ => ?_) (fun ρ W hS hd => ?_) ?_; rotate_left; (focus go_simp); (focus (have hfact := HIJ.out W; go_simp; first | exact ⟨rfl, Below.refl _ _⟩ | (refine ⟨?_, Below.refl _ _⟩; rfl))); (try go_simp))
          iterate 3 (refine Rl.textR_run ?_ (fun ρ => ?_) (fun ρ W hS hd => ?_) ?_; rotate_left; (focus go_simp); (focus (obtain ⟨hc, hf⟩ := bcell hS; go_simp; first | exact ⟨rfl, Below.refl _ _⟩ | (refine ⟨?_, Below.refl _ _⟩; rfl))); (try go_simp))
          (refine Rl.textR_run ?_ (fun ρ => ?_) (fun ρ W hS hd => ?_) ?_; rotate_left; (focus go_simp); (focus (have hfact := HCJ.out W hS; go_simp; first | exact ⟨rfl, Below.refl _ _⟩ | (refine ⟨?_, Below.refl _ _⟩; rfl))); (try go_simp))
          (refine Rl.textR_run ?_ (fun ρ => ?_) (fun ρ W hS hd => ?_) ?_; rotate_left; (focus go_simp); (focus (obtain ⟨hc, hf⟩ := bcell hS; go_simp; refine (KM.out W).mono ?_; rintro e w1 ⟨rfl, rfl⟩; refine ⟨_, rfl, ?_, Below.refl _ _⟩; rfl)); (try go_simp))
          (refine Rl.textR_run ?_ (fun ρ => ?_) (fun ρ W hS hd => ?_) ?_; rotate_left; (focus go_simp); (focus (obtain ⟨hc, hf⟩ := bcell hS; go_simp; first | exact ⟨rfl, Below.refl _ _⟩ | (refine ⟨?_, Below.refl _ _⟩; rfl))); (try go_simp))
          refine Rl.textR_nil ?_
          intro ρ w2 hg hk
          have HG := Lib.hid (below_next HF.out hg)
          clear hg hk
          dsimp only
          clear ρ
          go_wp2_with fail
          go_ret
          exact ⟨by rw [HS1.out]; rfl, HG.out⟩
      · have hd : decide (j < S.size) = false := by rw [HSZ.out]; exact decide_eq_false (by omega)
        have HT := Lib.hid (HRM.out.2 fun i hi => HA.out i (by omega))
        go_wp2
        go_ret
        exact ⟨by rw [HT.out]; rfl, HF.out⟩
  · have KF := Lib.hid (rfields_no _ (kindB_no hk) U)
    have HRES := Lib.hid (show rightL xs = false by unfold rightL; rw [hk, Bool.false_and])
    clear hk
    generalize xs.getD 0 0 = k at *
    go_wp2_with fail
    ((with_reducible refine KF.out.mono ?_))
    rintro e w1 ⟨rfl, rfl⟩
    go_wp2_with fail
    go_loopw [4] (fun i wr => i = .int .i64 0 ∧ wr = U) (fun i _ => 0)
    case atStart => exact ⟨rfl, rfl⟩
    case round =>
      obtain ⟨rfl, rfl⟩ := hrel
      go_wp2_with fail
      go_ret
      exact ⟨by rw [HRES.out]; rfl, HB.out⟩
set_option maxRecDepth 100000 in
set_option maxHeartbeats 400000 in
theorem rput_any {xs : List Int} (h : xs.length = 12) (hin : ∀ x ∈ xs, -9223372036854775808 ≤ x ∧ x ≤ 9223372036854775807) (w : World) : Calls Tryd.prog 28 #[.agg (numC xs).toArray] w fun e w' => e = .returned (.string (strOfNums (putC xs))) ∧ Below w.heap.size w w' := by
  have KC := Lib.hid (fun W => rclean_any h W)
  have HL := Lib.hid (show (numC xs).length = 12 by rw [numC_len, h])
  have hzl := cleanL_len xs
  have hzin : ∀ x ∈ cleanL xs, -9223372036854775808 ≤ x ∧ x ≤ 9223372036854775807 := by
    intro x hx
    unfold cleanL at hx
    split at hx
    · unfold partL at hx
      obtain ⟨i, _, rfl⟩ := List.mem_map.1 hx
      have h0 := getD_inb hin 0
      have hi := getD_inb hin i
      split
      · exact h0
      · split
        · exact hi
        · decide
    · rw [(List.mem_replicate.1 hx).2]; decide
  have HPC := Lib.hid (show putC xs = (cleanL xs).flatMap putI from rfl)
  have HMA := Lib.hid (fun (i : Nat) (hi : i < 12) => show (numC (cleanL xs)).toArray[i]? = some (.int .i64 ((cleanL xs).getD i 0)) by have := numC_at (xs := cleanL xs) (i := i) (by rw [hzl]; exact hi); simpa using this)
  have HLZ := Lib.hid (show (numC (cleanL xs)).length = 12 by rw [numC_len, hzl])
  have HON := Lib.hid (numC_one (cleanL xs))
  generalize hl : numC xs = l at *
  generalize numC (cleanL xs) = m at *
  generalize cleanL xs = zs at *
  clear hl
  have HZL := Lib.hid hzl
  have HZI := Lib.hid hzin
  clear hzl hzin
  go_enter Tryd.func28, Tryd.ntmps28
  go_upto_region 1 with fail
  have hN := World.alloc_heap_new w (.cells l.toArray 32)
  have HB := Lib.hid (below_alloc (Below.refl _ w) (.cells l.toArray 32))
  generalize w.alloc (.cells l.toArray 32) = U at *
  have HN := Lib.hid hN
  clear hN
  refine wp_region_lit ?_
  refine wpList_load_all rfl 32 _ rfl w.heap.size l _ (by go_simp) HN.out Tryd.underlying32 rfl (by rw [HL.out]; kernel_rfl) ?_
  refine wpList_enter rfl (by go_simp) (KC.out U) ?_
  rintro e w2 ⟨rfl, hb2⟩
  refine ⟨_, rfl, ?_⟩
  have HN2 := Lib.hid ((hb2.block _ (Array.getElem?_eq_some_iff.1 HN.out).1).trans HN.out)
  have HB2 := Lib.hid (below_next HB.out hb2)
  clear hb2
  refine wpList_store_all rfl 32 _ _ rfl w.heap.size (T := 32) m (by go_simp) (by go_simp) HN2.out (by rw [HLZ.out]; simpa using HL.out.symm) (by rw [HLZ.out]; kernel_rfl) HON.out ?_
  intro w3 hw3
  have HN3 := Lib.hid hw3.there
  have HB3 := Lib.hid (hw3.below HB2.out (Nat.le_refl _))
  have c0 := cell_of_block (o := 0) hw3.there (HMA.out 0 (by decide))
  clear hw3
  have K0 := rputint_any [] (by decide) (HZI.out _ (getD_mem12 (zs := zs) (j := 0) (by rw [HZL.out]; decide))) w3
  rw [show strOfNums [] = ⟨#[]⟩ from rfl, List.nil_append] at K0
  have K0 := Lib.hid K0
  have HT1 := Lib.hid (show (zs.take 1).flatMap putI = putI (zs.getD 0 0) by
    have hz := HZL.out
    rcases zs with _ | ⟨z, zs⟩
    · cases hz
    · simp)
  generalize zs.getD 0 0 = z0 at *
  go_wp2_with fail
  ((with_reducible refine K0.out.mono ?_))
  rintro e w4 ⟨rfl, hb4⟩
  have HB4 := Lib.hid hb4
  clear hb4 c0
  go_wp2_with fail
  go_loopw [3, 4] (fun s i wr => ∃ j : Nat, j ≤ 11 ∧ i = .int .i64 j ∧ s = .string (strOfNums ((zs.take (j + 1)).flatMap putI)) ∧ Below w3.heap.size w3 wr) (fun _ i _ => 11 - (intOf i).toNat)
  case atStart => exact ⟨0, Nat.zero_le _, rfl, by rw [HT1.out], HB4.out⟩
  case round =>
    obtain ⟨j, hj, rfl, rfl, hb⟩ := hrel
    have HBR := Lib.hid hb
    have hnr := (hb.block _ (Array.getElem?_eq_some_iff.1 HN3.out).1).trans HN3.out
    clear hb
    by_cases hlt : j < 11
    · have hd : decide ((j : Int) < 11) = true := decide_eq_true (by omega)
      have hjz : j + 1 < zs.length := by rw [HZL.out]; omega
      have HTK := Lib.hid (show (zs.take (j + 1 + 1)).flatMap putI = (zs.take (j + 1)).flatMap putI ++ putI (zs.getD (j + 1) 0) by
        rw [List.take_add_one, List.flatMap_append]; simp [List.getD, hjz])
      have hlen : ((zs.take (j + 1)).flatMap putI).length ≤ 1099511627776 := by
        have := flat_len (zs.take (j + 1)) (fun x hx => HZI.out x (List.mem_of_mem_take hx))
        have h2 : (zs.take (j + 1)).length ≤ 12 := by simp; omega
        omega
      have KP := Lib.hid (rputint_any ((zs.take (j + 1)).flatMap putI) hlen (HZI.out _ (getD_mem12 hjz)) wr)
      have hcj : wr.cell? ⟨w.heap.size, 1 + j, none⟩ = some (.int .i64 (zs.getD (j + 1) 0)) := cell_of_block hnr (by rw [show 1 + j = j + 1 by omega]; exact HMA.out (j + 1) (by omega))
      clear hnr hjz hlen
      generalize zs.getD (j + 1) 0 = v at *
      rw [← HTK.out] at KP
      generalize strOfNums ((zs.take (j + 1)).flatMap putI) = s0 at *
      go_wp2_with fail
      ((with_reducible refine KP.out.mono ?_))
      rintro e w5 ⟨rfl, hb5⟩
      have HB5 := Lib.hid (below_next HBR.out hb5)
      clear hb5 hcj
      go_wp2_with fail
      go_roundw
      case rel => exact ⟨j + 1, by omega, by go_num, rfl, HB5.out⟩
      case measure => simp [intOf]; omega
    · have hd : decide ((j : Int) < 11) = false := decide_eq_false (by omega)
      have HE := Lib.hid (show (zs.take (j + 1)).flatMap putI = putC xs by rw [List.take_of_length_le (by rw [HZL.out]; omega), HPC.out])
      have HBE := Lib.hid (HB3.out.trans (HBR.out.mono HB3.out.size))
      clear hnr
      rw [HE.out]
      go_wp2_with fail
      go_ret
      exact ⟨rfl, HBE.out⟩
end Go.Proofs.YtdfkfcpkejjlnaaDoor
