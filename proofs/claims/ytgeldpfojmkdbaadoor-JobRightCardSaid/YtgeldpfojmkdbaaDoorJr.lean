/- The law JobRight of layer 15, walked. No condition. -/
import Derived.Test.YtgeldpfojmkdbaaDoorJq
import Derived.Test.YtgeldpfojmkdbaaDoorJn
import Derived.Test.YtgeldpfojmkdbaaDoorJp
import Derived.Test.YtgeldpfojmkdbaaDoorMask
import Derived.Test.YtgeldpfojmkdbaaDoorRelL
import Derived.Deep.CutBlock
namespace Go.Proofs.YtgeldpfojmkdbaaDoor
set_option linter.unusedVariables false
open Go.ChangeShapes Go.WideShapes Go.ChangeAt Go.RowKit
attribute [local go_sem ↓] Go.wp_at_zero Go.wp_at_succ comesTo_value_eq comesTo_skip_eq comesTo_enter_eq Rl.comesToR_value_eq Rl.comesToR_skip_eq Rl.comesToR_enter_eq

set_option maxRecDepth 100000 in
set_option maxHeartbeats 4000000 in
theorem jobright_no (j : JobV) (hr : rightB j = false) (lad : Option Addr) (ll lcap : Nat) (r : Int) (w : World) :
    Calls Tryd.prog 4 #[.agg (jobC j).toArray, .slice lad ll lcap, .int .i64 r] w fun e w' => e = .returned (.bool true) ∧ Below w.heap.size w w' := by
  have KR := Lib.hid (fun W => right_is hr W)
  have HLEN := Lib.hid (jobC_len j)
  generalize hl : jobC j = l at *
  clear hl
  go_enter Tryd.func4, Tryd.ntmps4
  go_upto_region 1 with fail
  have hC := World.alloc_heap_new w (.cells l.toArray 26)
  have HB := Lib.hid (below_alloc (Below.refl _ w) (.cells l.toArray 26))
  generalize w.alloc (.cells l.toArray 26) = U at *
  have HC := Lib.hid hC
  clear hC
  refine wp_region_lit ?_
  refine wpList_load_all rfl 26 _ rfl w.heap.size l _ (by go_simp) HC.out Tryd.underlying26 rfl (by rw [HLEN.out]; kernel_rfl) ?_
  refine wpList_enter rfl (by go_simp) (KR.out U) ?_
  rintro e w2 ⟨rfl, hb2⟩
  refine ⟨_, rfl, ?_⟩
  have HB2 := Lib.hid (below_next HB.out hb2)
  clear hb2
  go_wp2_with fail
  refine (job_one _).mono ?_
  rintro e w3 ⟨rfl, hb3⟩
  have HB3 := Lib.hid (below_next HB2.out hb3)
  clear hb3
  go_wp2_with fail
  go_ret
  exact ⟨rfl, HB3.out⟩
theorem exec_eql {P : Program} {o : Oper} {a : Act} {W : World} (ty ty2 : TypeId) (x y : Operand) (ho : o.op = .binOp .eql ty x y ty2) (xs ys : Array Value) (hx : a.eval x = .agg xs) (hy : a.eval y = .agg ys) (hm : P.eqGuardType P.depth ty = false) {b : Bool}
    (he : (Op.equalIn 10000 ty (.agg xs) (.agg ys)).run P W = .ok b W) : (execOp a.eval o).run P W = .ok (.value (.bool b)) W := by
  unfold execOp
  simp only [ho, hx, hy, Sem.run_bind, run_eqGuard_agg W .eql ty x y xs ys hm, Result.andThen_ok, run_eql_struct, he]
  rfl
set_option maxRecDepth 100000 in
set_option maxHeartbeats 40000000 in
theorem jobright_yes (j : JobV) (hj : j.Ok) (hr : rightB j = true) (lad : Option Addr) (ll lcap : Nat) (A : Nat → ActV) (r : Int) (w : World) (hA : ActsAt w lad ll A) (hE : ErrAt w) :
    Calls Tryd.prog 4 #[.agg (jobC j).toArray, .slice lad ll lcap, .int .i64 r] w fun e w' => e = .returned (.bool true) ∧ Below w.heap.size w w' := by
  have hmx : Tryd.prog.follows .mixedOrders = true := by kernel_rfl
  have hm7 := mask_7 r
  have hR0 : 0 ≤ r % 8 := by omega
  have hR7 : r % 8 ≤ 7 := by omega
  generalize r % 8 = R at *
  have KR := Lib.hid (fun W => right_is hr W)
  have HLEN := Lib.hid (jobC_len j)
  have HA := Lib.hid hA
  have HE := Lib.hid hE
  have HJ := Lib.hid hj
  have HR := Lib.hid hr
  have k12 : (jobC j).toArray[12]? = some (.int .i64 j.tries) := rfl
  clear hA hE hj hr
  generalize hl : jobC j = l at *
  have HL := Lib.hid hl
  clear hl
  go_enter Tryd.func4, Tryd.ntmps4
  go_upto_region 1 with fail
  have hC := World.alloc_heap_new w (.cells l.toArray 26)
  have HB := Lib.hid (below_alloc (Below.refl _ w) (.cells l.toArray 26))
  generalize w.alloc (.cells l.toArray 26) = U at *
  have HC := Lib.hid hC
  clear hC
  refine wp_region_lit ?_
  refine wpList_load_all rfl 26 _ rfl w.heap.size l _ (by go_simp) HC.out Tryd.underlying26 rfl (by rw [HLEN.out]; kernel_rfl) ?_
  refine wpList_enter rfl (by go_simp) (KR.out U) ?_
  rintro e w2 ⟨rfl, hb2⟩
  refine ⟨_, rfl, ?_⟩
  have HB2 := Lib.hid (below_next HB.out hb2)
  have hc2 := (hb2.block w.heap.size (Array.getElem?_eq_some_iff.1 HC.out).1).trans HC.out
  have c12 := cell_of_block (o := 12) hc2 k12
  have HC2 := Lib.hid hc2
  clear hb2 hc2 k12 HB HC KR
  go_wp2_with fail
  go_loopw [8] (fun i wr => ∃ (q : Nat) (jv : JobV), q ≤ 30 ∧ q ≤ ll ∧ i = .int .i64 q ∧ jv.Ok ∧ rightB jv = true ∧ (j.tries ≤ R → InvT R jv) ∧ wr.heap[w.heap.size]? = some (.cells (jobC jv).toArray 26 (0, 0)) ∧ Below w.heap.size w wr) (fun i _ => 30 - (intOf i).toNat)
  case atStart => exact ⟨0, j, Nat.zero_le _, Nat.zero_le _, rfl, HJ.out, HR.out, (fun h => ⟨fun _ => h, by omega⟩), by rw [HL.out]; exact HC2.out, HB2.out⟩
  case round =>
    obtain ⟨q, jv, hq30, hql, rfl, hok, hrv, hinv, hcv, hbv⟩ := hrel
    have HOK := Lib.hid hok
    have HRV := Lib.hid hrv
    have HIN := Lib.hid hinv
    have HCV := Lib.hid hcv
    have HBV := Lib.hid hbv
    clear hok hrv hinv hcv hbv
    by_cases hlt : q < ll ∧ q < 30
    case neg =>
      rcases (by omega : ¬ q < ll ∨ q < ll ∧ q = 30) with hx | ⟨hx, rfl⟩
      · have hd1 : decide (q < ll) = false := decide_eq_false (by omega)
        clear hlt
        have hwr1 : IntKind.i64.wrap (R + 1) = R + 1 := by rw [IntKind.wrap_i64]; omega
        have kv12 : (jobC jv).toArray[12]? = some (.int .i64 jv.tries) := rfl
        have c12 := cell_of_block (o := 12) HCV.out kv12
        have HLV := Lib.hid (jobC_len jv)
        have HV1 := Lib.hid (jobC_one jv)
        have hgt : j.tries ≤ R → decide (jv.tries > R + 1) = false := fun h => decide_eq_false (by have := (HIN.out h).2; omega)
        have hta : (decide (j.tries ≤ R) = true ∧ decide (jv.tries > R + 1) = false) ∨ decide (j.tries ≤ R) = false := by
          by_cases h : j.tries ≤ R
          · exact .inl ⟨decide_eq_true h, hgt h⟩
          · exact .inr (decide_eq_false h)
        have hbx := below_alloc (Below.refl _ wr) (.cells #[.int .u8 7] 5)
        have HT7 := Lib.hid (byte_txt (World.alloc_heap_new wr (.cells #[.int .u8 7] 5)) (by decide : (0 : Int) ≤ 7 ∧ (7 : Int) ≤ 255))
        have HC7 := Lib.hid ((hbx.block _ (Array.getElem?_eq_some_iff.1 HCV.out).1).trans HCV.out)
        have HB7 := Lib.hid (below_next HBV.out hbx)
        have KP := Lib.hid (put_any jv HOK.out HT7.out (by decide))
        have HPL := Lib.hid (putJ_len HOK.out)
        have HRP := Lib.hid (read_put HOK.out [])
        have HRV2 := Lib.hid HRV.out
        clear kv12 hgt hbx
        generalize hlv : jobC jv = lv at *
        have HLJ := Lib.hid hlv
        clear hlv
        rcases hta with ⟨ht1, ht2⟩ | ht1
        all_goals (
          go_upto_region 23 with fail
          refine wp_region_lit ?_
          refine wpList_yield (w' := wr.alloc (.cells #[.int .u8 7] 5)) (v := .slice (some ⟨wr.heap.size, 0, none⟩) 1 1) rfl (by go_simp) ?_
          generalize wr.alloc (.cells #[.int .u8 7] 5) = W7 at *
          refine wpList_load_all rfl 26 _ rfl w.heap.size lv _ (by go_simp) HC7.out Tryd.underlying26 rfl (by rw [HLV.out]; kernel_rfl) ?_
          refine wpList_enter rfl (by go_simp) KP.out ?_
          rintro e w8 ⟨u, rfl, ho8, hb8⟩
          refine ⟨_, rfl, ?_⟩
          obtain ⟨g, cu, rfl, hcu⟩ : ∃ g c, u = .slice (some ⟨g, 0, none⟩) ([7] ++ putJ jv).length c ∧ ([7] ++ putJ jv).length ≤ c := by
            rcases ho8.form'' with ⟨_, h0⟩ | h
            · exact absurd h0 (by simp)
            · exact h
          have hlen : ([7] ++ putJ jv).length = (putJ jv).length + 1 := by simp
          have hdr : ([7] ++ putJ jv).drop 1 = putJ jv := rfl
          have hsl0 := slice_from (b := g) (o := 0) (k := 1) (n := ([7] ++ putJ jv).length) (c := cu) (by omega) hcu w8
          have htx := TxtAt.behind (k := 1) ho8.at (by omega) hcu
          rw [hdr] at htx
          generalize hm : ([7] ++ putJ jv).length = m at *
          generalize (if cu = 1 then 0 else 0 + 1) = oo at hsl0 htx
          have hsl : Sem.run Tryd.prog (Instr.slice 27 (.slice (some ⟨g, 0, none⟩) m cu) (some (.int .i64 1)) none none) w8 = .ok (.slice (some ⟨g, oo, none⟩) (m - 1) (cu - 1)) w8 := hsl0
          have HB8 := Lib.hid (below_next HB7.out hb8)
          have HC8 := Lib.hid ((hb8.block _ (Array.getElem?_eq_some_iff.1 HC7.out).1).trans HC7.out)
          have HM := Lib.hid hlen
          have hm1 : decide ((m : Int) < 1) = false := decide_eq_false (by omega)
          have KJ := Lib.hid (jread_any htx (by have := HPL.out; omega) (HE.out.below HB8.out))
          have hrp := HRP.out
          rw [List.append_nil] at hrp
          have hok : okJ (putJ jv) = true := by unfold okJ; rw [hrp, HRV2.out]; rfl
          have hg1 : gotJ (putJ jv) = jv := by unfold gotJ; rw [hok, hrp]; rfl
          have hg2 : cntJ (putJ jv) = ((putJ jv).length : Int) := by unfold cntJ; rw [hok, hrp]; simp
          have hg3 : codeJ (putJ jv) = 0 := by unfold codeJ; rw [hok]; rfl
          rw [hg1, hg2, hg3, HLJ.out] at KJ
          clear hrp hok hg1 hg2 hg3 hsl0 htx hdr hlen
          clear ho8 hb8 hm c12
          go_upto_region 26 with fail
          refine wp_region_lit ?_
          refine wpList_yield (w' := w8) (v := .slice (some ⟨g, 0, none⟩) m cu) rfl (by go_simp) ?_
          refine wpList_yield (w' := w8) (v := .slice (some ⟨g, oo, none⟩) (m - 1) (cu - 1)) rfl (by go_simp) ?_
          refine wpList_enter rfl (by go_simp) KJ.out ?_
          rintro e w9 ⟨rfl, hb9⟩
          refine ⟨_, rfl, ?_⟩
          have HB9 := Lib.hid (below_next HB8.out hb9)
          have HC9 := Lib.hid ((hb9.block _ (Array.getElem?_eq_some_iff.1 HC8.out).1).trans HC8.out)
          refine wpList_yield (w' := w9) (v := .tuple #[.agg lv.toArray, .int .i64 ((putJ jv).length : Int), .int .i64 0]) rfl (by go_simp) ?_
          refine wpList_yield (w' := w9) (v := .agg lv.toArray) rfl (by first | (go_simp; done) | (go_simp; rfl)) ?_
          refine wpList_yield (w' := w9) (v := .int .i64 ((putJ jv).length : Int)) rfl (by first | (go_simp; done) | (go_simp; rfl)) ?_
          refine wpList_yield (w' := w9) (v := .int .i64 0) rfl (by first | (go_simp; done) | (go_simp; rfl)) ?_
          refine wpList_yield (w' := w9.alloc (.cells #[.int .i64 0, .int .i64 0, .int .i64 0, .int .i64 0, .int .i64 0, .int .i64 0, .int .i64 0, .bool false, .int .i64 0, .int .i64 0, .int .i64 0, .int .i64 0, .int .i64 0, .int .u64 0, .int .u64 0, .int .i64 0, .int .i64 0] 26)) (v := .pointer (some ⟨w9.heap.size, 0, none⟩)) rfl (by go_simp) ?_
          refine wpList_store_all rfl 26 _ _ rfl w9.heap.size (T := 26) lv (by go_simp) (by go_simp) (World.alloc_heap_new _ _) (by rw [HLV.out]; rfl) (by rw [HLV.out]; kernel_rfl) HV1.out ?_
          intro wa hwa
          have hba := hwa.below (below_alloc (Below.refl _ w9) _) (Nat.le_refl _)
          have HBa := Lib.hid (below_next HB9.out hba)
          have HCa := Lib.hid ((hba.block _ (Array.getElem?_eq_some_iff.1 HC9.out).1).trans HC9.out)
          have HKa := Lib.hid hwa.there
          have KEQ := Lib.hid (show (Op.equalIn 10000 26 (.agg lv.toArray) (.agg lv.toArray)).run Tryd.prog wa = .ok true wa by rw [← HLJ.out]; exact (eqinJ jv jv wa).trans (by rw [(keyJ_eq jv jv).2 rfl]))
          have hsub : IntKind.i64.wrap ((m : Int) - 1) = ((putJ jv).length : Int) := by rw [IntKind.wrap_i64]; have := HM.out; have := HPL.out; omega
          clear hwa hba hb9
          generalize w9.heap.size = p9 at *
          go_upto_region 27 with fail
          refine wp_region_lit ?_
          refine wpList_yield (w' := wa) (v := .int .i64 0) rfl (by first | (go_simp; done) | (go_simp; rfl)) ?_
          refine wpList_yield (w' := wa) (v := .bool true) rfl (by first | (go_simp; done) | (go_simp; rfl)) ?_
          refine wpList_yield (w' := wa) (v := .bool true) rfl (by first | (go_simp; done) | (go_simp; rfl)) ?_
          refine wpList_load_all_w (by first | (go_simp; done) | (go_simp; rfl)) 26 _ rfl p9 lv _ (by go_simp) HKa.out Tryd.underlying26 rfl (by rw [HLV.out]; kernel_rfl) ?_
          refine wpList_load_all_w (by first | (go_simp; done) | (go_simp; rfl)) 26 _ rfl w.heap.size lv _ (by go_simp) HCa.out Tryd.underlying26 rfl (by rw [HLV.out]; kernel_rfl) ?_
          refine wpList_yield_w (w' := wa) (v := .bool true) (by first | (go_simp; done) | (go_simp; rfl)) (exec_eql 26 _ _ _ rfl lv.toArray lv.toArray (by go_simp) (by go_simp) (by kernel_rfl) KEQ.out) ?_
          go_wp2_with (go_at_call 10; refine (job_one _).mono ?_; rintro e wz ⟨rfl, hbz⟩)
          go_ret
          exact ⟨rfl, below_next HBa.out hbz⟩)
      · have hd1 : decide (30 < ll) = true := decide_eq_true (by omega)
        clear hlt
        have hwr1 : IntKind.i64.wrap (R + 1) = R + 1 := by rw [IntKind.wrap_i64]; omega
        have kv12 : (jobC jv).toArray[12]? = some (.int .i64 jv.tries) := rfl
        have c12 := cell_of_block (o := 12) HCV.out kv12
        have HLV := Lib.hid (jobC_len jv)
        have HV1 := Lib.hid (jobC_one jv)
        have hgt : j.tries ≤ R → decide (jv.tries > R + 1) = false := fun h => decide_eq_false (by have := (HIN.out h).2; omega)
        have hta : (decide (j.tries ≤ R) = true ∧ decide (jv.tries > R + 1) = false) ∨ decide (j.tries ≤ R) = false := by
          by_cases h : j.tries ≤ R
          · exact .inl ⟨decide_eq_true h, hgt h⟩
          · exact .inr (decide_eq_false h)
        have hbx := below_alloc (Below.refl _ wr) (.cells #[.int .u8 7] 5)
        have HT7 := Lib.hid (byte_txt (World.alloc_heap_new wr (.cells #[.int .u8 7] 5)) (by decide : (0 : Int) ≤ 7 ∧ (7 : Int) ≤ 255))
        have HC7 := Lib.hid ((hbx.block _ (Array.getElem?_eq_some_iff.1 HCV.out).1).trans HCV.out)
        have HB7 := Lib.hid (below_next HBV.out hbx)
        have KP := Lib.hid (put_any jv HOK.out HT7.out (by decide))
        have HPL := Lib.hid (putJ_len HOK.out)
        have HRP := Lib.hid (read_put HOK.out [])
        have HRV2 := Lib.hid HRV.out
        clear kv12 hgt hbx
        generalize hlv : jobC jv = lv at *
        have HLJ := Lib.hid hlv
        clear hlv
        rcases hta with ⟨ht1, ht2⟩ | ht1
        all_goals (
          go_upto_region 23 with fail
          refine wp_region_lit ?_
          refine wpList_yield (w' := wr.alloc (.cells #[.int .u8 7] 5)) (v := .slice (some ⟨wr.heap.size, 0, none⟩) 1 1) rfl (by go_simp) ?_
          generalize wr.alloc (.cells #[.int .u8 7] 5) = W7 at *
          refine wpList_load_all rfl 26 _ rfl w.heap.size lv _ (by go_simp) HC7.out Tryd.underlying26 rfl (by rw [HLV.out]; kernel_rfl) ?_
          refine wpList_enter rfl (by go_simp) KP.out ?_
          rintro e w8 ⟨u, rfl, ho8, hb8⟩
          refine ⟨_, rfl, ?_⟩
          obtain ⟨g, cu, rfl, hcu⟩ : ∃ g c, u = .slice (some ⟨g, 0, none⟩) ([7] ++ putJ jv).length c ∧ ([7] ++ putJ jv).length ≤ c := by
            rcases ho8.form'' with ⟨_, h0⟩ | h
            · exact absurd h0 (by simp)
            · exact h
          have hlen : ([7] ++ putJ jv).length = (putJ jv).length + 1 := by simp
          have hdr : ([7] ++ putJ jv).drop 1 = putJ jv := rfl
          have hsl0 := slice_from (b := g) (o := 0) (k := 1) (n := ([7] ++ putJ jv).length) (c := cu) (by omega) hcu w8
          have htx := TxtAt.behind (k := 1) ho8.at (by omega) hcu
          rw [hdr] at htx
          generalize hm : ([7] ++ putJ jv).length = m at *
          generalize (if cu = 1 then 0 else 0 + 1) = oo at hsl0 htx
          have hsl : Sem.run Tryd.prog (Instr.slice 27 (.slice (some ⟨g, 0, none⟩) m cu) (some (.int .i64 1)) none none) w8 = .ok (.slice (some ⟨g, oo, none⟩) (m - 1) (cu - 1)) w8 := hsl0
          have HB8 := Lib.hid (below_next HB7.out hb8)
          have HC8 := Lib.hid ((hb8.block _ (Array.getElem?_eq_some_iff.1 HC7.out).1).trans HC7.out)
          have HM := Lib.hid hlen
          have hm1 : decide ((m : Int) < 1) = false := decide_eq_false (by omega)
          have KJ := Lib.hid (jread_any htx (by have := HPL.out; omega) (HE.out.below HB8.out))
          have hrp := HRP.out
          rw [List.append_nil] at hrp
          have hok : okJ (putJ jv) = true := by unfold okJ; rw [hrp, HRV2.out]; rfl
          have hg1 : gotJ (putJ jv) = jv := by unfold gotJ; rw [hok, hrp]; rfl
          have hg2 : cntJ (putJ jv) = ((putJ jv).length : Int) := by unfold cntJ; rw [hok, hrp]; simp
          have hg3 : codeJ (putJ jv) = 0 := by unfold codeJ; rw [hok]; rfl
          rw [hg1, hg2, hg3, HLJ.out] at KJ
          clear hrp hok hg1 hg2 hg3 hsl0 htx hdr hlen
          clear ho8 hb8 hm c12
          go_upto_region 26 with fail
          refine wp_region_lit ?_
          refine wpList_yield (w' := w8) (v := .slice (some ⟨g, 0, none⟩) m cu) rfl (by go_simp) ?_
          refine wpList_yield (w' := w8) (v := .slice (some ⟨g, oo, none⟩) (m - 1) (cu - 1)) rfl (by go_simp) ?_
          refine wpList_enter rfl (by go_simp) KJ.out ?_
          rintro e w9 ⟨rfl, hb9⟩
          refine ⟨_, rfl, ?_⟩
          have HB9 := Lib.hid (below_next HB8.out hb9)
          have HC9 := Lib.hid ((hb9.block _ (Array.getElem?_eq_some_iff.1 HC8.out).1).trans HC8.out)
          refine wpList_yield (w' := w9) (v := .tuple #[.agg lv.toArray, .int .i64 ((putJ jv).length : Int), .int .i64 0]) rfl (by go_simp) ?_
          refine wpList_yield (w' := w9) (v := .agg lv.toArray) rfl (by first | (go_simp; done) | (go_simp; rfl)) ?_
          refine wpList_yield (w' := w9) (v := .int .i64 ((putJ jv).length : Int)) rfl (by first | (go_simp; done) | (go_simp; rfl)) ?_
          refine wpList_yield (w' := w9) (v := .int .i64 0) rfl (by first | (go_simp; done) | (go_simp; rfl)) ?_
          refine wpList_yield (w' := w9.alloc (.cells #[.int .i64 0, .int .i64 0, .int .i64 0, .int .i64 0, .int .i64 0, .int .i64 0, .int .i64 0, .bool false, .int .i64 0, .int .i64 0, .int .i64 0, .int .i64 0, .int .i64 0, .int .u64 0, .int .u64 0, .int .i64 0, .int .i64 0] 26)) (v := .pointer (some ⟨w9.heap.size, 0, none⟩)) rfl (by go_simp) ?_
          refine wpList_store_all rfl 26 _ _ rfl w9.heap.size (T := 26) lv (by go_simp) (by go_simp) (World.alloc_heap_new _ _) (by rw [HLV.out]; rfl) (by rw [HLV.out]; kernel_rfl) HV1.out ?_
          intro wa hwa
          have hba := hwa.below (below_alloc (Below.refl _ w9) _) (Nat.le_refl _)
          have HBa := Lib.hid (below_next HB9.out hba)
          have HCa := Lib.hid ((hba.block _ (Array.getElem?_eq_some_iff.1 HC9.out).1).trans HC9.out)
          have HKa := Lib.hid hwa.there
          have KEQ := Lib.hid (show (Op.equalIn 10000 26 (.agg lv.toArray) (.agg lv.toArray)).run Tryd.prog wa = .ok true wa by rw [← HLJ.out]; exact (eqinJ jv jv wa).trans (by rw [(keyJ_eq jv jv).2 rfl]))
          have hsub : IntKind.i64.wrap ((m : Int) - 1) = ((putJ jv).length : Int) := by rw [IntKind.wrap_i64]; have := HM.out; have := HPL.out; omega
          clear hwa hba hb9
          generalize w9.heap.size = p9 at *
          go_upto_region 27 with fail
          refine wp_region_lit ?_
          refine wpList_yield (w' := wa) (v := .int .i64 0) rfl (by first | (go_simp; done) | (go_simp; rfl)) ?_
          refine wpList_yield (w' := wa) (v := .bool true) rfl (by first | (go_simp; done) | (go_simp; rfl)) ?_
          refine wpList_yield (w' := wa) (v := .bool true) rfl (by first | (go_simp; done) | (go_simp; rfl)) ?_
          refine wpList_load_all_w (by first | (go_simp; done) | (go_simp; rfl)) 26 _ rfl p9 lv _ (by go_simp) HKa.out Tryd.underlying26 rfl (by rw [HLV.out]; kernel_rfl) ?_
          refine wpList_load_all_w (by first | (go_simp; done) | (go_simp; rfl)) 26 _ rfl w.heap.size lv _ (by go_simp) HCa.out Tryd.underlying26 rfl (by rw [HLV.out]; kernel_rfl) ?_
          refine wpList_yield_w (w' := wa) (v := .bool true) (by first | (go_simp; done) | (go_simp; rfl)) (exec_eql 26 _ _ _ rfl lv.toArray lv.toArray (by go_simp) (by go_simp) (by kernel_rfl) KEQ.out) ?_
          go_wp2_with (go_at_call 10; refine (job_one _).mono ?_; rintro e wz ⟨rfl, hbz⟩)
          go_ret
          exact ⟨rfl, below_next HBa.out hbz⟩)
    case pos =>
      obtain ⟨hql2, hq3⟩ := hlt
      have hd1 : decide (q < ll) = true := decide_eq_true hql2
      have hd2 : decide (q < 30) = true := decide_eq_true hq3
      have hd2i : decide ((q : Int) < 30) = true := decide_eq_true (by omega)
      have hql3 : (q : Int) < (ll : Int) := by omega
      have hw1 : IntKind.i64.wrap ((q : Int) + 1) = (q : Int) + 1 := by rw [IntKind.wrap_i64]; omega
      have HQ := Lib.hid (And.intro hql2 hq3)
      obtain ⟨ab, off, rfl, hrow⟩ := HA.out.2 (by omega)
      have hc := hrow q hql2
      clear hrow
      generalize A q = a at hc
      have hlt0 : ab < w.heap.size := World.block_lt_of_cell? w _ hc.c0
      have r0 := (HBV.out.cell (p := ⟨ab, off + q * 4, none⟩) hlt0).trans hc.c0
      have r1 := (HBV.out.cell (p := ⟨ab, off + q * 4 + 1, none⟩) hlt0).trans hc.c1
      have r2 := (HBV.out.cell (p := ⟨ab, off + q * 4 + 2, none⟩) hlt0).trans hc.c2
      have r3 := (HBV.out.cell (p := ⟨ab, off + q * 4 + 3, none⟩) hlt0).trans hc.c3
      obtain ⟨k, E, hKE⟩ : ∃ k E, actJ jv a R = (k, E) := ⟨_, _, rfl⟩
      have hnx : E = 0 → nextJ jv a R = k := fun h => by unfold nextJ; rw [hKE, h]; rfl
      have HNX := Lib.hid hnx
      have HNOK := Lib.hid (next_ok (r := R) HOK.out hc.ok)
      have HNRT := Lib.hid (next_right (a := a) (r := R) HRV.out)
      have HNTR := Lib.hid (fun h => next_tries (a := a) hR0 HRV.out (HIN.out h))
      have har : E = 0 → rightB k = true ∧ ((k.state == 1) = true → fitsB k k.nodes = true) ∧ (overB jv = true → k = jv) := fun h => by
        have := act_right (a := a) (r := R) HRV.out (by rw [hKE, h])
        rwa [hKE] at this
      have HAR := Lib.hid har
      have HLV := Lib.hid (jobC_len jv)
      have HV1 := Lib.hid (jobC_one jv)
      have HLK := Lib.hid (jobC_len k)
      have HK1 := Lib.hid (jobC_one k)
      have K0 := Lib.hid (fun (h : (a.kind == 0) = true) (W : World) => (show Calls Tryd.prog 12 #[.agg (jobC jv).toArray, .int .i64 a.now, .int .u64 (nv a.nodes)] W fun e w' => e = .returned (.tuple #[.agg (jobC k).toArray, .int .i64 E]) ∧ Below W.heap.size W w' by
        have h2 : beginJ jv a.now a.nodes = (k, E) := by rw [← hKE]; unfold actJ; rw [if_pos h]
        have := begin_any jv a.now a.nodes W
        rwa [h2] at this))
      have K1 := Lib.hid (fun (h0 : (a.kind == 0) = false) (h : (a.kind == 1) = true) (W : World) => (show Calls Tryd.prog 13 #[.agg (jobC jv).toArray, .int .i64 a.now, .int .i64 a.n] W fun e w' => e = .returned (.tuple #[.agg (jobC k).toArray, .int .i64 E]) ∧ Below W.heap.size W w' by
        have h2 : stopJ jv a.now a.n = (k, E) := by rw [← hKE]; unfold actJ; rw [if_neg (by rw [h0]; decide), if_pos h]
        have := stop_any jv a.now a.n W
        rwa [h2] at this))
      have K2 := Lib.hid (fun (h0 : (a.kind == 0) = false) (h1 : (a.kind == 1) = false) (h : (a.kind == 2) = true) (W : World) => (show Calls Tryd.prog 14 #[.agg (jobC jv).toArray, .int .i64 a.now, .int .i64 a.n, .int .i64 R] W fun e w' => e = .returned (.tuple #[.agg (jobC k).toArray, .int .i64 E]) ∧ Below W.heap.size W w' by
        have h2 : loseJ jv a.now a.n R = (k, E) := by rw [← hKE]; unfold actJ; rw [if_neg (by rw [h0]; decide), if_neg (by rw [h1]; decide), if_pos h]
        have := lose_any jv a.now a.n R W
        rwa [h2] at this))
      have K3 := Lib.hid (fun (h0 : (a.kind == 0) = false) (h1 : (a.kind == 1) = false) (h2 : (a.kind == 2) = false) => (show k = jv ∧ E = 0 by
        have h3 : actJ jv a R = (jv, 0) := by unfold actJ; rw [if_neg (by rw [h0]; decide), if_neg (by rw [h1]; decide), if_neg (by rw [h2]; decide)]
        rw [h3] at hKE
        exact ⟨(congrArg Prod.fst hKE).symm, (congrArg Prod.snd hKE).symm⟩))
      clear hc hnx har hKE HA HE hql2 hq3 hlt0
      have hA1 := below_alloc (Below.refl _ wr) (.cells #[.int .i64 a.kind, .int .i64 a.now, .int .u64 (nv a.nodes), .int .i64 a.n] 42)
      have hN1 := World.alloc_heap_new wr (.cells #[.int .i64 a.kind, .int .i64 a.now, .int .u64 (nv a.nodes), .int .i64 a.n] 42)
      have HB5 := Lib.hid (below_next HBV.out hA1)
      have HC5 := Lib.hid ((hA1.block w.heap.size (Array.getElem?_eq_some_iff.1 HCV.out).1).trans HCV.out)
      clear hA1
      have kk8 := Lib.hid (show (jobC k).toArray[8]? = some (.int .i64 k.state) from rfl)
      have kk3 := Lib.hid (show (jobC k).toArray[3]? = some (.int .i64 k.width) from rfl)
      have kk13 := Lib.hid (show (jobC k).toArray[13]? = some (.int .u64 (nv k.black)) from rfl)
      have kk14 := Lib.hid (show (jobC k).toArray[14]? = some (.int .u64 (nv k.nodes)) from rfl)
      have K3L := Lib.hid (fun (h : k = jv) => (show jobC jv = jobC k by rw [h]))
      generalize hlv : jobC jv = lv at *
      have HLJ := Lib.hid hlv
      clear hlv
      generalize hlk : jobC k = lk at *
      have HLK2 := Lib.hid hlk
      clear hlk
      go_upto_region 9 with fail
      clear r0 r1 r2 r3
      generalize wr.alloc (.cells #[.int .i64 a.kind, .int .i64 a.now, .int .u64 (nv a.nodes), .int .i64 a.n] 42) = w5 at *
      have d0 := cell_of_block (o := 0) hN1 rfl
      have d1 := cell_of_block (o := 1) hN1 rfl
      have d2 := cell_of_block (o := 2) hN1 rfl
      have d3 := cell_of_block (o := 3) hN1 rfl
      have hlt5 : wr.heap.size < w5.heap.size := (Array.getElem?_eq_some_iff.1 hN1).1
      clear hN1
      generalize wr.heap.size = pa at *
      refine wp_region_lit ?_
      refine wpList_load_all rfl 26 _ rfl w.heap.size lv _ (by go_simp) HC5.out Tryd.underlying26 rfl (by rw [HLV.out]; kernel_rfl) ?_
      refine wpList_yield (w' := w5.alloc (.cells #[.int .i64 0, .int .i64 0, .int .i64 0, .int .i64 0, .int .i64 0, .int .i64 0, .int .i64 0, .bool false, .int .i64 0, .int .i64 0, .int .i64 0, .int .i64 0, .int .i64 0, .int .u64 0, .int .u64 0, .int .i64 0, .int .i64 0] 26)) (v := .pointer (some ⟨w5.heap.size, 0, none⟩)) rfl (by go_simp) ?_
      refine wpList_store_all rfl 26 _ _ rfl w5.heap.size (T := 26) lv (by go_simp) (by go_simp) (World.alloc_heap_new _ _) (by rw [HLV.out]; rfl) (by rw [HLV.out]; kernel_rfl) HV1.out ?_
      intro w6 hw6
      have hb6 := hw6.below (below_alloc (Below.refl _ w5) _) (Nat.le_refl _)
      have HB6 := Lib.hid (below_next HB5.out hb6)
      have HC6 := Lib.hid ((hb6.block _ (Array.getElem?_eq_some_iff.1 HC5.out).1).trans HC5.out)
      have HK6 := Lib.hid hw6.there
      have HL6 := Lib.hid (show w5.heap.size < w6.heap.size from (Array.getElem?_eq_some_iff.1 hw6.there).1)
      have HGE := Lib.hid (show w.heap.size ≤ w5.heap.size from HB5.out.size)
      have HG2 := Lib.hid (show w.heap.size < w5.heap.size from (Array.getElem?_eq_some_iff.1 HC5.out).1)
      have e0 : w6.cell? ⟨pa, 0, none⟩ = some (.int .i64 a.kind) := (hb6.cell (p := ⟨pa, 0, none⟩) hlt5).trans d0
      have e1 : w6.cell? ⟨pa, 1, none⟩ = some (.int .i64 a.now) := (hb6.cell (p := ⟨pa, 1, none⟩) hlt5).trans d1
      have e2 : w6.cell? ⟨pa, 2, none⟩ = some (.int .u64 (nv a.nodes)) := (hb6.cell (p := ⟨pa, 2, none⟩) hlt5).trans d2
      have e3 : w6.cell? ⟨pa, 3, none⟩ = some (.int .i64 a.n) := (hb6.cell (p := ⟨pa, 3, none⟩) hlt5).trans d3
      clear hw6 hb6 d0 d1 d2 d3 hlt5 HC5 HB5
      generalize w5.heap.size = p at *
      refine wpList_yield (w' := w6) (v := .int .i64 0) rfl (by first | (go_simp; done) | (go_simp; rfl)) ?_
      go_upto_block 2 with fail
      go_cut [11] (fun s wx => s = .int .i64 E ∧ Below w.heap.size w wx ∧ wx.heap[w.heap.size]? = some (.cells lv.toArray 26 (0, 0)) ∧ wx.heap[p]? = some (.cells lk.toArray 26 (0, 0)))
      case first =>
        cases h0 : (a.kind == 0) with
        | true =>
          go_upto_region 12 with fail
          refine wp_region_lit ?_
          refine wpList_load_all rfl 26 _ rfl w.heap.size lv _ (by go_simp) HC6.out Tryd.underlying26 rfl (by rw [HLV.out]; kernel_rfl) ?_
          refine wpList_yield (w' := w6) (v := .pointer (some ⟨pa, 1, none⟩)) rfl (by first | (go_simp; done) | (go_simp; rfl)) ?_
          refine wpList_yield (w' := w6) (v := .int .i64 a.now) rfl (by first | (go_simp; done) | (go_simp; rfl)) ?_
          refine wpList_yield (w' := w6) (v := .pointer (some ⟨pa, 2, none⟩)) rfl (by first | (go_simp; done) | (go_simp; rfl)) ?_
          refine wpList_yield (w' := w6) (v := .int .u64 (nv a.nodes)) rfl (by first | (go_simp; done) | (go_simp; rfl)) ?_
          refine wpList_enter rfl (by go_simp) (K0.out h0 w6) ?_
          rintro e w7 ⟨rfl, hb7⟩
          refine ⟨_, rfl, ?_⟩
          have HK7 := Lib.hid ((hb7.block _ HL6.out).trans HK6.out)
          have HC7 := Lib.hid ((hb7.block _ (Array.getElem?_eq_some_iff.1 HC6.out).1).trans HC6.out)
          have HB7 := Lib.hid (below_next HB6.out hb7)
          clear hb7
          refine wpList_yield (w' := w7) (v := .tuple #[.agg lk.toArray, .int .i64 E]) rfl (by go_simp) ?_
          refine wpList_yield (w' := w7) (v := .agg lk.toArray) rfl (by first | (go_simp; done) | (go_simp; rfl)) ?_
          refine wpList_yield (w' := w7) (v := .int .i64 E) rfl (by first | (go_simp; done) | (go_simp; rfl)) ?_
          refine wpList_store_all rfl 26 _ _ rfl p (T := 26) lk (by go_simp) (by go_simp) HK7.out (by rw [HLK.out]; simp [HLV.out]) (by rw [HLK.out]; kernel_rfl) HK1.out ?_
          intro w8 hw8
          have HK8 := Lib.hid hw8.there
          have HC8 := Lib.hid ((hw8.rest w.heap.size (by have := HG2.out; omega)).trans HC7.out)
          have HB8 := Lib.hid (hw8.below HB7.out HGE.out)
          clear hw8
          refine wpList_yield (w' := w8) (v := .int .i64 E) rfl (by first | (go_simp; done) | (go_simp; rfl)) ?_
          go_wp2_with fail
          try go_simp
          go_meet
          exact ⟨rfl, HB8.out, HC8.out, HK8.out⟩
        | false =>
          cases h1 : (a.kind == 1) with
          | true =>
            go_upto_region 14 with fail
            refine wp_region_lit ?_
            refine wpList_load_all rfl 26 _ rfl w.heap.size lv _ (by go_simp) HC6.out Tryd.underlying26 rfl (by rw [HLV.out]; kernel_rfl) ?_
            refine wpList_yield (w' := w6) (v := .pointer (some ⟨pa, 1, none⟩)) rfl (by first | (go_simp; done) | (go_simp; rfl)) ?_
            refine wpList_yield (w' := w6) (v := .int .i64 a.now) rfl (by first | (go_simp; done) | (go_simp; rfl)) ?_
            refine wpList_yield (w' := w6) (v := .pointer (some ⟨pa, 3, none⟩)) rfl (by first | (go_simp; done) | (go_simp; rfl)) ?_
            refine wpList_yield (w' := w6) (v := .int .i64 a.n) rfl (by first | (go_simp; done) | (go_simp; rfl)) ?_
            refine wpList_enter rfl (by go_simp) (K1.out h0 h1 w6) ?_
            rintro e w7 ⟨rfl, hb7⟩
            refine ⟨_, rfl, ?_⟩
            have HK7 := Lib.hid ((hb7.block _ HL6.out).trans HK6.out)
            have HC7 := Lib.hid ((hb7.block _ (Array.getElem?_eq_some_iff.1 HC6.out).1).trans HC6.out)
            have HB7 := Lib.hid (below_next HB6.out hb7)
            clear hb7
            refine wpList_yield (w' := w7) (v := .tuple #[.agg lk.toArray, .int .i64 E]) rfl (by go_simp) ?_
            refine wpList_yield (w' := w7) (v := .agg lk.toArray) rfl (by first | (go_simp; done) | (go_simp; rfl)) ?_
            refine wpList_yield (w' := w7) (v := .int .i64 E) rfl (by first | (go_simp; done) | (go_simp; rfl)) ?_
            refine wpList_store_all rfl 26 _ _ rfl p (T := 26) lk (by go_simp) (by go_simp) HK7.out (by rw [HLK.out]; simp [HLV.out]) (by rw [HLK.out]; kernel_rfl) HK1.out ?_
            intro w8 hw8
            have HK8 := Lib.hid hw8.there
            have HC8 := Lib.hid ((hw8.rest w.heap.size (by have := HG2.out; omega)).trans HC7.out)
            have HB8 := Lib.hid (hw8.below HB7.out HGE.out)
            clear hw8
            refine wpList_yield (w' := w8) (v := .int .i64 E) rfl (by first | (go_simp; done) | (go_simp; rfl)) ?_
            go_wp2_with fail
            try go_simp
            go_meet
            exact ⟨rfl, HB8.out, HC8.out, HK8.out⟩
          | false =>
            cases h2 : (a.kind == 2) with
            | true =>
              go_upto_region 16 with fail
              refine wp_region_lit ?_
              refine wpList_load_all rfl 26 _ rfl w.heap.size lv _ (by go_simp) HC6.out Tryd.underlying26 rfl (by rw [HLV.out]; kernel_rfl) ?_
              refine wpList_yield (w' := w6) (v := .pointer (some ⟨pa, 1, none⟩)) rfl (by first | (go_simp; done) | (go_simp; rfl)) ?_
              refine wpList_yield (w' := w6) (v := .int .i64 a.now) rfl (by first | (go_simp; done) | (go_simp; rfl)) ?_
              refine wpList_yield (w' := w6) (v := .pointer (some ⟨pa, 3, none⟩)) rfl (by first | (go_simp; done) | (go_simp; rfl)) ?_
              refine wpList_yield (w' := w6) (v := .int .i64 a.n) rfl (by first | (go_simp; done) | (go_simp; rfl)) ?_
              refine wpList_yield (w' := w6) (v := .int .i64 R) rfl (by first | (go_simp; done) | (go_simp; rfl)) ?_
              refine wpList_enter rfl (by go_simp) (K2.out h0 h1 h2 w6) ?_
              rintro e w7 ⟨rfl, hb7⟩
              refine ⟨_, rfl, ?_⟩
              have HK7 := Lib.hid ((hb7.block _ HL6.out).trans HK6.out)
              have HC7 := Lib.hid ((hb7.block _ (Array.getElem?_eq_some_iff.1 HC6.out).1).trans HC6.out)
              have HB7 := Lib.hid (below_next HB6.out hb7)
              clear hb7
              refine wpList_yield (w' := w7) (v := .tuple #[.agg lk.toArray, .int .i64 E]) rfl (by go_simp) ?_
              refine wpList_yield (w' := w7) (v := .agg lk.toArray) rfl (by first | (go_simp; done) | (go_simp; rfl)) ?_
              refine wpList_yield (w' := w7) (v := .int .i64 E) rfl (by first | (go_simp; done) | (go_simp; rfl)) ?_
              refine wpList_store_all rfl 26 _ _ rfl p (T := 26) lk (by go_simp) (by go_simp) HK7.out (by rw [HLK.out]; simp [HLV.out]) (by rw [HLK.out]; kernel_rfl) HK1.out ?_
              intro w8 hw8
              have HK8 := Lib.hid hw8.there
              have HC8 := Lib.hid ((hw8.rest w.heap.size (by have := HG2.out; omega)).trans HC7.out)
              have HB8 := Lib.hid (hw8.below HB7.out HGE.out)
              clear hw8
              refine wpList_yield (w' := w8) (v := .int .i64 E) rfl (by first | (go_simp; done) | (go_simp; rfl)) ?_
              go_wp2_with fail
              try go_simp
              go_meet
              exact ⟨rfl, HB8.out, HC8.out, HK8.out⟩
            | false =>
              obtain ⟨hk, hE⟩ := K3.out h0 h1 h2
              go_wp2_with fail
              go_meet
              exact ⟨by rw [hE], HB6.out, HC6.out, by rw [← K3L.out hk]; exact HK6.out⟩
      case rest =>
      obtain ⟨rfl, hb9, hc9, hk9⟩ := hcut
      have HB9 := Lib.hid hb9
      have HC9 := Lib.hid hc9
      have HK9 := Lib.hid hk9
      clear hb9 hc9 hk9 e0 e1 e2 e3 HB6 HC6 HK6 HL6 K0 K1 K2 K3 K3L HBV HCV
      cases hE : (E != 0) with
      | true =>
        go_wp2_with fail
        go_roundw
        case rel => exact ⟨q + 1, jv, by have := HQ.out; omega, by have := HQ.out; omega, by go_num, HOK.out, HRV.out, HIN.out, by rw [HLJ.out]; exact HC9.out, HB9.out⟩
        case measure => have := HQ.out; simp [intOf]; omega
      | false =>
        obtain rfl : E = 0 := by simpa using hE
        obtain ⟨hkr, hkf, hko⟩ := HAR.out rfl
        have HNK := Lib.hid (HNX.out rfl)
        have KRK := Lib.hid (fun W => right_is hkr W)
        rw [HLK2.out] at KRK
        have hlk9 : p < wc.heap.size := (Array.getElem?_eq_some_iff.1 HK9.out).1
        have hlv9 : w.heap.size < wc.heap.size := (Array.getElem?_eq_some_iff.1 HC9.out).1
        have hc8 := cell_of_block (o := 8) HK9.out kk8.out
        have hc3 := cell_of_block (o := 3) HK9.out kk3.out
        have hc13 := cell_of_block (o := 13) HK9.out kk13.out
        have hc14 := cell_of_block (o := 14) HK9.out kk14.out
        have P8 := Lib.hid (fun (W : World) (h : Below wc.heap.size wc W) => (h.cell (p := ⟨p, 8, none⟩) hlk9).trans hc8)
        have P3 := Lib.hid (fun (W : World) (h : Below wc.heap.size wc W) => (h.cell (p := ⟨p, 3, none⟩) hlk9).trans hc3)
        have P13 := Lib.hid (fun (W : World) (h : Below wc.heap.size wc W) => (h.cell (p := ⟨p, 13, none⟩) hlk9).trans hc13)
        have P14 := Lib.hid (fun (W : World) (h : Below wc.heap.size wc W) => (h.cell (p := ⟨p, 14, none⟩) hlk9).trans hc14)
        have LK := Lib.hid (fun (W : World) (h : Below wc.heap.size wc W) => (h.block p hlk9).trans HK9.out)
        have LV := Lib.hid (fun (W : World) (h : Below wc.heap.size wc W) => (h.block w.heap.size hlv9).trans HC9.out)
        have KOV := Lib.hid (fun (b : Bool) (h : overB jv = b) (W : World) => over_is h W)
        rw [HLJ.out] at KOV
        have KEQ := Lib.hid (fun (h : k = jv) (W : World) => show (Op.equalIn 10000 26 (.agg lk.toArray) (.agg lv.toArray)).run Tryd.prog W = .ok true W by subst h; rw [← HLJ.out, ← HLK2.out]; exact (eqinJ k k W).trans (by rw [(keyJ_eq k k).2 rfl]))
        have HKO := Lib.hid hko
        have HKF := Lib.hid hkf
        clear hkr hkf hko hc8 hc3 hc13 hc14 hlk9 hlv9
        cases hs : (k.state == 1) with
        | true =>
          have hfit := HKF.out hs
          have hov : overB jv = false := by
            cases ho : overB jv with
            | false => rfl
            | true =>
              have h1 := HKO.out ho
              rw [← h1] at ho
              have h2 : k.state = 1 := by simpa using hs
              unfold overB at ho
              rw [h2] at ho
              exact absurd ho (by decide)
          unfold fitsB at hfit
          rw [Bool.and_eq_true] at hfit
          have hf1 : ((card k.nodes : Int) != k.width) = false := by rw [bne, hfit.1]; rfl
          have hf2 : (nv (k.nodes &&& k.black) != 0) = false := by rw [bne, hfit.2]; rfl
          clear hfit
          go_upto_region 18 with fail
          refine Rl.wp_region_rel (fun a b => Below a.heap.size a b) wc (fun a b c h h' => below_next h h') (fun a => Below.refl _ _) hmx (by kernel_rfl) (Below.refl _ _).drew ?_
          refine Rl.textR_run (.agg lk.toArray) (fun ρ => ?_) (fun ρ W hS hd => ?_) ?_
          · go_simp
          · exact Rl.comesToR_load 26 _ rfl p (by go_simp) _ _ (LK.out W hS) Tryd.underlying26 rfl (by rw [HLK.out]; kernel_rfl) ⟨rfl, Below.refl _ _⟩
          (try go_simp)
          (refine Rl.textR_run ?_ (fun ρ => ?_) (fun ρ W hS hd => ?_) ?_; rotate_left; (focus go_simp); (focus (obtain ⟨hc, hf⟩ := bcell hS; go_simp; refine (KRK.out W).mono ?_; rintro e w1 ⟨rfl, hb⟩; refine ⟨_, rfl, ?_, hb⟩; rfl)); (try go_simp))
          iterate 2 (refine Rl.textR_run ?_ (fun ρ => ?_) (fun ρ W hS hd => ?_) ?_; rotate_left; (focus go_simp); (focus (obtain ⟨hc, hf⟩ := bcell hS; go_simp; first | exact ⟨rfl, Below.refl _ _⟩ | (refine ⟨?_, Below.refl _ _⟩; rfl))); (try go_simp))
          (refine Rl.textR_run ?_ (fun ρ => ?_) (fun ρ W hS hd => ?_) ?_; rotate_left; (focus go_simp); (focus (obtain ⟨hc, hf⟩ := bcell hS; go_simp; first | exact ⟨rfl, Below.refl _ _⟩ | (refine ⟨?_, Below.refl _ _⟩; rfl))); (try go_simp))
          (refine Rl.textR_run ?_ (fun ρ => ?_) (fun ρ W hS hd => ?_) ?_; rotate_left; (focus go_simp); (focus (have hfact := P8.out W hS; go_simp; first | exact ⟨rfl, Below.refl _ _⟩ | (refine ⟨?_, Below.refl _ _⟩; rfl))); (try go_simp))
          iterate 2 (refine Rl.textR_run ?_ (fun ρ => ?_) (fun ρ W hS hd => ?_) ?_; rotate_left; (focus go_simp); (focus (obtain ⟨hc, hf⟩ := bcell hS; go_simp; first | exact ⟨rfl, Below.refl _ _⟩ | (refine ⟨?_, Below.refl _ _⟩; rfl))); (try go_simp))
          (refine Rl.textR_run ?_ (fun ρ => ?_) (fun ρ W hS hd => ?_) ?_; rotate_left; (focus go_simp); (focus (obtain ⟨hc, hf⟩ := bcell hS; go_simp; first | exact ⟨rfl, Below.refl _ _⟩ | (refine ⟨?_, Below.refl _ _⟩; rfl))); (try go_simp))
          (refine Rl.textR_run ?_ (fun ρ => ?_) (fun ρ W hS hd => ?_) ?_; rotate_left; (focus go_simp); (focus (have hfact := P14.out W hS; go_simp; first | exact ⟨rfl, Below.refl _ _⟩ | (refine ⟨?_, Below.refl _ _⟩; rfl))); (try go_simp))
          (refine Rl.textR_run ?_ (fun ρ => ?_) (fun ρ W hS hd => ?_) ?_; rotate_left; (focus go_simp); (focus (obtain ⟨hc, hf⟩ := bcell hS; go_simp; refine (len_any k.nodes W).mono ?_; rintro e w1 ⟨rfl, rfl⟩; refine ⟨_, rfl, ?_, Below.refl _ _⟩; rfl)); (try go_simp))
          (refine Rl.textR_run ?_ (fun ρ => ?_) (fun ρ W hS hd => ?_) ?_; rotate_left; (focus go_simp); (focus (obtain ⟨hc, hf⟩ := bcell hS; go_simp; first | exact ⟨rfl, Below.refl _ _⟩ | (refine ⟨?_, Below.refl _ _⟩; rfl))); (try go_simp))
          (refine Rl.textR_run ?_ (fun ρ => ?_) (fun ρ W hS hd => ?_) ?_; rotate_left; (focus go_simp); (focus (have hfact := P3.out W hS; go_simp; first | exact ⟨rfl, Below.refl _ _⟩ | (refine ⟨?_, Below.refl _ _⟩; rfl))); (try go_simp))
          iterate 2 (refine Rl.textR_run ?_ (fun ρ => ?_) (fun ρ W hS hd => ?_) ?_; rotate_left; (focus go_simp); (focus (obtain ⟨hc, hf⟩ := bcell hS; go_simp; first | exact ⟨rfl, Below.refl _ _⟩ | (refine ⟨?_, Below.refl _ _⟩; rfl))); (try go_simp))
          (refine Rl.textR_run ?_ (fun ρ => ?_) (fun ρ W hS hd => ?_) ?_; rotate_left; (focus go_simp); (focus (obtain ⟨hc, hf⟩ := bcell hS; go_simp; first | exact ⟨rfl, Below.refl _ _⟩ | (refine ⟨?_, Below.refl _ _⟩; rfl))); (try go_simp))
          (refine Rl.textR_run ?_ (fun ρ => ?_) (fun ρ W hS hd => ?_) ?_; rotate_left; (focus go_simp); (focus (have hfact := P14.out W hS; go_simp; first | exact ⟨rfl, Below.refl _ _⟩ | (refine ⟨?_, Below.refl _ _⟩; rfl))); (try go_simp))
          (refine Rl.textR_run ?_ (fun ρ => ?_) (fun ρ W hS hd => ?_) ?_; rotate_left; (focus go_simp); (focus (obtain ⟨hc, hf⟩ := bcell hS; go_simp; first | exact ⟨rfl, Below.refl _ _⟩ | (refine ⟨?_, Below.refl _ _⟩; rfl))); (try go_simp))
          (refine Rl.textR_run ?_ (fun ρ => ?_) (fun ρ W hS hd => ?_) ?_; rotate_left; (focus go_simp); (focus (have hfact := P13.out W hS; go_simp; first | exact ⟨rfl, Below.refl _ _⟩ | (refine ⟨?_, Below.refl _ _⟩; rfl))); (try go_simp))
          (refine Rl.textR_run ?_ (fun ρ => ?_) (fun ρ W hS hd => ?_) ?_; rotate_left; (focus go_simp); (focus (obtain ⟨hc, hf⟩ := bcell hS; go_simp; refine (and_any k.nodes k.black W).mono ?_; rintro e w1 ⟨rfl, rfl⟩; refine ⟨_, rfl, ?_, Below.refl _ _⟩; rfl)); (try go_simp))
          iterate 5 (refine Rl.textR_run ?_ (fun ρ => ?_) (fun ρ W hS hd => ?_) ?_; rotate_left; (focus go_simp); (focus (obtain ⟨hc, hf⟩ := bcell hS; go_simp; first | exact ⟨rfl, Below.refl _ _⟩ | (refine ⟨?_, Below.refl _ _⟩; rfl))); (try go_simp))
          refine Rl.textR_run (.agg lv.toArray) (fun ρ => ?_) (fun ρ W hS hd => ?_) ?_
          · go_simp
          · exact Rl.comesToR_load 26 _ rfl w.heap.size (by go_simp) _ _ (LV.out W hS) Tryd.underlying26 rfl (by rw [HLV.out]; kernel_rfl) ⟨rfl, Below.refl _ _⟩
          (try go_simp)
          (refine Rl.textR_run ?_ (fun ρ => ?_) (fun ρ W hS hd => ?_) ?_; rotate_left; (focus go_simp); (focus (obtain ⟨hc, hf⟩ := bcell hS; go_simp; refine (KOV.out _ hov W).mono ?_; rintro e w1 ⟨rfl, hb⟩; refine ⟨_, rfl, ?_, hb⟩; rfl)); (try go_simp))
          (refine Rl.textR_run ?_ (fun ρ => ?_) (fun ρ W hS hd => ?_) ?_; rotate_left; (focus go_simp); (focus (obtain ⟨hc, hf⟩ := bcell hS; go_simp; first | exact ⟨rfl, Below.refl _ _⟩ | (refine ⟨?_, Below.refl _ _⟩; rfl))); (try go_simp))
          iterate 3 (refine Rl.textR_skip (fun ρ => ?_) ?_; (focus (first | rfl | (go_simp; done) | (go_simp; rfl))); (try go_simp))
          iterate 2 (refine Rl.textR_run ?_ (fun ρ => ?_) (fun ρ W hS hd => ?_) ?_; rotate_left; (focus go_simp); (focus (obtain ⟨hc, hf⟩ := bcell hS; go_simp; first | exact ⟨rfl, Below.refl _ _⟩ | (refine ⟨?_, Below.refl _ _⟩; rfl))); (try go_simp))
          refine Rl.textR_nil ?_
          intro ρ w10 hg hk
          have HF := Lib.hid (below_next HB9.out hg)
          have HKF0 := Lib.hid (LK.out w10 hg)
          have HVF0 := Lib.hid (LV.out w10 hg)
          clear hg hk
          dsimp only
          clear ρ
          go_upto_region 20 with fail
          refine wp_region_lit ?_
          refine wpList_load_all rfl 26 _ rfl p lk _ (by go_simp) HKF0.out Tryd.underlying26 rfl (by rw [HLK.out]; kernel_rfl) ?_
          refine wpList_store_all rfl 26 _ _ rfl w.heap.size (T := 26) lk (by go_simp) (by go_simp) HVF0.out (by rw [HLK.out]; simp [HLV.out]) (by rw [HLK.out]; kernel_rfl) HK1.out ?_
          intro w11 hw11
          have HC11 := Lib.hid hw11.there
          have HB11 := Lib.hid (hw11.below HF.out (Nat.le_refl _))
          clear hw11
          go_wp2_with fail
          go_roundw
          case rel => exact ⟨q + 1, k, by have := HQ.out; omega, by have := HQ.out; omega, by go_num, by rw [← HNK.out]; exact HNOK.out, by rw [← HNK.out]; exact HNRT.out, by rw [← HNK.out]; exact HNTR.out, by rw [HLK2.out]; exact HC11.out, HB11.out⟩
          case measure => have := HQ.out; simp [intOf]; omega
        | false =>
          cases hov : overB jv with
          | true =>
            go_upto_region 18 with fail
            refine Rl.wp_region_rel (fun a b => Below a.heap.size a b) wc (fun a b c h h' => below_next h h') (fun a => Below.refl _ _) hmx (by kernel_rfl) (Below.refl _ _).drew ?_
            refine Rl.textR_run (.agg lk.toArray) (fun ρ => ?_) (fun ρ W hS hd => ?_) ?_
            · go_simp
            · exact Rl.comesToR_load 26 _ rfl p (by go_simp) _ _ (LK.out W hS) Tryd.underlying26 rfl (by rw [HLK.out]; kernel_rfl) ⟨rfl, Below.refl _ _⟩
            (try go_simp)
            (refine Rl.textR_run ?_ (fun ρ => ?_) (fun ρ W hS hd => ?_) ?_; rotate_left; (focus go_simp); (focus (obtain ⟨hc, hf⟩ := bcell hS; go_simp; refine (KRK.out W).mono ?_; rintro e w1 ⟨rfl, hb⟩; refine ⟨_, rfl, ?_, hb⟩; rfl)); (try go_simp))
            iterate 2 (refine Rl.textR_run ?_ (fun ρ => ?_) (fun ρ W hS hd => ?_) ?_; rotate_left; (focus go_simp); (focus (obtain ⟨hc, hf⟩ := bcell hS; go_simp; first | exact ⟨rfl, Below.refl _ _⟩ | (refine ⟨?_, Below.refl _ _⟩; rfl))); (try go_simp))
            (refine Rl.textR_run ?_ (fun ρ => ?_) (fun ρ W hS hd => ?_) ?_; rotate_left; (focus go_simp); (focus (obtain ⟨hc, hf⟩ := bcell hS; go_simp; first | exact ⟨rfl, Below.refl _ _⟩ | (refine ⟨?_, Below.refl _ _⟩; rfl))); (try go_simp))
            (refine Rl.textR_run ?_ (fun ρ => ?_) (fun ρ W hS hd => ?_) ?_; rotate_left; (focus go_simp); (focus (have hfact := P8.out W hS; go_simp; first | exact ⟨rfl, Below.refl _ _⟩ | (refine ⟨?_, Below.refl _ _⟩; rfl))); (try go_simp))
            iterate 2 (refine Rl.textR_run ?_ (fun ρ => ?_) (fun ρ W hS hd => ?_) ?_; rotate_left; (focus go_simp); (focus (obtain ⟨hc, hf⟩ := bcell hS; go_simp; first | exact ⟨rfl, Below.refl _ _⟩ | (refine ⟨?_, Below.refl _ _⟩; rfl))); (try go_simp))
            iterate 14 (refine Rl.textR_skip (fun ρ => ?_) ?_; (focus (first | rfl | (go_simp; done) | (go_simp; rfl))); (try go_simp))
            iterate 3 (refine Rl.textR_run ?_ (fun ρ => ?_) (fun ρ W hS hd => ?_) ?_; rotate_left; (focus go_simp); (focus (obtain ⟨hc, hf⟩ := bcell hS; go_simp; first | exact ⟨rfl, Below.refl _ _⟩ | (refine ⟨?_, Below.refl _ _⟩; rfl))); (try go_simp))
            refine Rl.textR_run (.agg lv.toArray) (fun ρ => ?_) (fun ρ W hS hd => ?_) ?_
            · go_simp
            · exact Rl.comesToR_load 26 _ rfl w.heap.size (by go_simp) _ _ (LV.out W hS) Tryd.underlying26 rfl (by rw [HLV.out]; kernel_rfl) ⟨rfl, Below.refl _ _⟩
            (try go_simp)
            (refine Rl.textR_run ?_ (fun ρ => ?_) (fun ρ W hS hd => ?_) ?_; rotate_left; (focus go_simp); (focus (obtain ⟨hc, hf⟩ := bcell hS; go_simp; refine (KOV.out _ hov W).mono ?_; rintro e w1 ⟨rfl, hb⟩; refine ⟨_, rfl, ?_, hb⟩; rfl)); (try go_simp))
            (refine Rl.textR_run ?_ (fun ρ => ?_) (fun ρ W hS hd => ?_) ?_; rotate_left; (focus go_simp); (focus (obtain ⟨hc, hf⟩ := bcell hS; go_simp; first | exact ⟨rfl, Below.refl _ _⟩ | (refine ⟨?_, Below.refl _ _⟩; rfl))); (try go_simp))
            refine Rl.textR_run (.agg lk.toArray) (fun ρ => ?_) (fun ρ W hS hd => ?_) ?_
            · go_simp
            · exact Rl.comesToR_load 26 _ rfl p (by go_simp) _ _ (LK.out W hS) Tryd.underlying26 rfl (by rw [HLK.out]; kernel_rfl) ⟨rfl, Below.refl _ _⟩
            (try go_simp)
            refine Rl.textR_run (.agg lv.toArray) (fun ρ => ?_) (fun ρ W hS hd => ?_) ?_
            · go_simp
            · exact Rl.comesToR_load 26 _ rfl w.heap.size (by go_simp) _ _ (LV.out W hS) Tryd.underlying26 rfl (by rw [HLV.out]; kernel_rfl) ⟨rfl, Below.refl _ _⟩
            (try go_simp)
            refine Rl.textR_run (.bool (!true)) (fun ρ => ?_) (fun ρ W hS hd => ?_) ?_
            · go_simp
            · exact Rl.comesToR_neq 26 _ _ _ rfl _ _ (by go_simp) (by go_simp) (by kernel_rfl) (KEQ.out (HKO.out hov) W) ⟨rfl, Below.refl _ _⟩
            (try go_simp)
            iterate 2 (refine Rl.textR_run ?_ (fun ρ => ?_) (fun ρ W hS hd => ?_) ?_; rotate_left; (focus go_simp); (focus (obtain ⟨hc, hf⟩ := bcell hS; go_simp; first | exact ⟨rfl, Below.refl _ _⟩ | (refine ⟨?_, Below.refl _ _⟩; rfl))); (try go_simp))
            refine Rl.textR_nil ?_
            intro ρ w10 hg hk
            have HF := Lib.hid (below_next HB9.out hg)
            have HKF0 := Lib.hid (LK.out w10 hg)
            have HVF0 := Lib.hid (LV.out w10 hg)
            clear hg hk
            dsimp only
            clear ρ
            go_upto_region 20 with fail
            refine wp_region_lit ?_
            refine wpList_load_all rfl 26 _ rfl p lk _ (by go_simp) HKF0.out Tryd.underlying26 rfl (by rw [HLK.out]; kernel_rfl) ?_
            refine wpList_store_all rfl 26 _ _ rfl w.heap.size (T := 26) lk (by go_simp) (by go_simp) HVF0.out (by rw [HLK.out]; simp [HLV.out]) (by rw [HLK.out]; kernel_rfl) HK1.out ?_
            intro w11 hw11
            have HC11 := Lib.hid hw11.there
            have HB11 := Lib.hid (hw11.below HF.out (Nat.le_refl _))
            clear hw11
            go_wp2_with fail
            go_roundw
            case rel => exact ⟨q + 1, k, by have := HQ.out; omega, by have := HQ.out; omega, by go_num, by rw [← HNK.out]; exact HNOK.out, by rw [← HNK.out]; exact HNRT.out, by rw [← HNK.out]; exact HNTR.out, by rw [HLK2.out]; exact HC11.out, HB11.out⟩
            case measure => have := HQ.out; simp [intOf]; omega
          | false =>
            go_upto_region 18 with fail
            refine Rl.wp_region_rel (fun a b => Below a.heap.size a b) wc (fun a b c h h' => below_next h h') (fun a => Below.refl _ _) hmx (by kernel_rfl) (Below.refl _ _).drew ?_
            refine Rl.textR_run (.agg lk.toArray) (fun ρ => ?_) (fun ρ W hS hd => ?_) ?_
            · go_simp
            · exact Rl.comesToR_load 26 _ rfl p (by go_simp) _ _ (LK.out W hS) Tryd.underlying26 rfl (by rw [HLK.out]; kernel_rfl) ⟨rfl, Below.refl _ _⟩
            (try go_simp)
            (refine Rl.textR_run ?_ (fun ρ => ?_) (fun ρ W hS hd => ?_) ?_; rotate_left; (focus go_simp); (focus (obtain ⟨hc, hf⟩ := bcell hS; go_simp; refine (KRK.out W).mono ?_; rintro e w1 ⟨rfl, hb⟩; refine ⟨_, rfl, ?_, hb⟩; rfl)); (try go_simp))
            iterate 2 (refine Rl.textR_run ?_ (fun ρ => ?_) (fun ρ W hS hd => ?_) ?_; rotate_left; (focus go_simp); (focus (obtain ⟨hc, hf⟩ := bcell hS; go_simp; first | exact ⟨rfl, Below.refl _ _⟩ | (refine ⟨?_, Below.refl _ _⟩; rfl))); (try go_simp))
            (refine Rl.textR_run ?_ (fun ρ => ?_) (fun ρ W hS hd => ?_) ?_; rotate_left; (focus go_simp); (focus (obtain ⟨hc, hf⟩ := bcell hS; go_simp; first | exact ⟨rfl, Below.refl _ _⟩ | (refine ⟨?_, Below.refl _ _⟩; rfl))); (try go_simp))
            (refine Rl.textR_run ?_ (fun ρ => ?_) (fun ρ W hS hd => ?_) ?_; rotate_left; (focus go_simp); (focus (have hfact := P8.out W hS; go_simp; first | exact ⟨rfl, Below.refl _ _⟩ | (refine ⟨?_, Below.refl _ _⟩; rfl))); (try go_simp))
            iterate 2 (refine Rl.textR_run ?_ (fun ρ => ?_) (fun ρ W hS hd => ?_) ?_; rotate_left; (focus go_simp); (focus (obtain ⟨hc, hf⟩ := bcell hS; go_simp; first | exact ⟨rfl, Below.refl _ _⟩ | (refine ⟨?_, Below.refl _ _⟩; rfl))); (try go_simp))
            iterate 14 (refine Rl.textR_skip (fun ρ => ?_) ?_; (focus (first | rfl | (go_simp; done) | (go_simp; rfl))); (try go_simp))
            iterate 3 (refine Rl.textR_run ?_ (fun ρ => ?_) (fun ρ W hS hd => ?_) ?_; rotate_left; (focus go_simp); (focus (obtain ⟨hc, hf⟩ := bcell hS; go_simp; first | exact ⟨rfl, Below.refl _ _⟩ | (refine ⟨?_, Below.refl _ _⟩; rfl))); (try go_simp))
            refine Rl.textR_run (.agg lv.toArray) (fun ρ => ?_) (fun ρ W hS hd => ?_) ?_
            · go_simp
            · exact Rl.comesToR_load 26 _ rfl w.heap.size (by go_simp) _ _ (LV.out W hS) Tryd.underlying26 rfl (by rw [HLV.out]; kernel_rfl) ⟨rfl, Below.refl _ _⟩
            (try go_simp)
            (refine Rl.textR_run ?_ (fun ρ => ?_) (fun ρ W hS hd => ?_) ?_; rotate_left; (focus go_simp); (focus (obtain ⟨hc, hf⟩ := bcell hS; go_simp; refine (KOV.out _ hov W).mono ?_; rintro e w1 ⟨rfl, hb⟩; refine ⟨_, rfl, ?_, hb⟩; rfl)); (try go_simp))
            (refine Rl.textR_run ?_ (fun ρ => ?_) (fun ρ W hS hd => ?_) ?_; rotate_left; (focus go_simp); (focus (obtain ⟨hc, hf⟩ := bcell hS; go_simp; first | exact ⟨rfl, Below.refl _ _⟩ | (refine ⟨?_, Below.refl _ _⟩; rfl))); (try go_simp))
            iterate 3 (refine Rl.textR_skip (fun ρ => ?_) ?_; (focus (first | rfl | (go_simp; done) | (go_simp; rfl))); (try go_simp))
            iterate 2 (refine Rl.textR_run ?_ (fun ρ => ?_) (fun ρ W hS hd => ?_) ?_; rotate_left; (focus go_simp); (focus (obtain ⟨hc, hf⟩ := bcell hS; go_simp; first | exact ⟨rfl, Below.refl _ _⟩ | (refine ⟨?_, Below.refl _ _⟩; rfl))); (try go_simp))
            refine Rl.textR_nil ?_
            intro ρ w10 hg hk
            have HF := Lib.hid (below_next HB9.out hg)
            have HKF0 := Lib.hid (LK.out w10 hg)
            have HVF0 := Lib.hid (LV.out w10 hg)
            clear hg hk
            dsimp only
            clear ρ
            go_upto_region 20 with fail
            refine wp_region_lit ?_
            refine wpList_load_all rfl 26 _ rfl p lk _ (by go_simp) HKF0.out Tryd.underlying26 rfl (by rw [HLK.out]; kernel_rfl) ?_
            refine wpList_store_all rfl 26 _ _ rfl w.heap.size (T := 26) lk (by go_simp) (by go_simp) HVF0.out (by rw [HLK.out]; simp [HLV.out]) (by rw [HLK.out]; kernel_rfl) HK1.out ?_
            intro w11 hw11
            have HC11 := Lib.hid hw11.there
            have HB11 := Lib.hid (hw11.below HF.out (Nat.le_refl _))
            clear hw11
            go_wp2_with fail
            go_roundw
            case rel => exact ⟨q + 1, k, by have := HQ.out; omega, by have := HQ.out; omega, by go_num, by rw [← HNK.out]; exact HNOK.out, by rw [← HNK.out]; exact HNRT.out, by rw [← HNK.out]; exact HNTR.out, by rw [HLK2.out]; exact HC11.out, HB11.out⟩
            case measure => have := HQ.out; simp [intOf]; omega
end Go.Proofs.YtgeldpfojmkdbaaDoor
