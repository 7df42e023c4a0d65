/- The document's Lose (layer 15) at any job. No condition. -/
import Derived.Test.YtgeldpfojmkdbaaJy
import Derived.Test.YtgeldpfojmkdbaaRmade
namespace Go.Proofs.Ytgeldpfojmkdbaa
set_option linter.unusedVariables false
open Go.ChangeShapes Go.WideShapes Go.ChangeAt Go.RowKit
attribute [local go_sem ↓] Go.wp_at_zero Go.wp_at_succ comesTo_value_eq comesTo_skip_eq comesTo_enter_eq Rl.comesToR_value_eq Rl.comesToR_skip_eq Rl.comesToR_enter_eq

theorem nodes_has (s : NSet) (n : Int) : decide (n ∈ nodes s) = hasI s n := by
  rw [Bool.eq_iff_iff, decide_eq_true_eq]
  exact nodes_mem _ s rfl n
set_option maxRecDepth 100000 in
set_option maxHeartbeats 4000000 in
theorem rlose_any (j : JobV) (now node retries : Int) (w : World) : Calls Try.prog 12 #[.agg (jobC j).toArray, .int .i64 now, .int .i64 node, .int .i64 retries] w fun e w' => e = .returned (.tuple #[.agg (jobC (loseJ j now node retries).1).toArray, .int .i64 (loseJ j now node retries).2]) ∧ Below w.heap.size w w' := by
  have KR := Lib.hid (fun b (h : rightB j = b) W => rright_is h W)
  have KL := Lib.hid (fun b (h : lateB j now = b) W => rlate_is h W)
  have KO := Lib.hid (fun W => rof_any j.nodes W)
  have KB := Lib.hid (fun W => rof_any j.black W)
  have KH := Lib.hid (fun b (h : hasI j.nodes node = b) W v (hv : ReadsI W v (nodes j.nodes)) => (show Calls Try.prog 28 #[v, .int .i64 node] W fun e w' => e = .returned (.bool b) ∧ W = w' from h ▸ nodes_has j.nodes node ▸ rhas_any node W hv))
  have HSET := Lib.hid (show (((jobC j).toArray).setIfInBounds 8 (.int .i64 3)).setIfInBounds 16 (.int .i64 now) = (jobC ({ j with state := 3, fin := now })).toArray from rfl)
  have HLEN' := Lib.hid (jobC_len ({ j with state := 3, fin := now }))
  have HONE' := Lib.hid (jobC_one ({ j with state := 3, fin := now }))
  have HSETb := Lib.hid (show (((((((jobC j).toArray).setIfInBounds 8 (.int .i64 0)).setIfInBounds 14 (.int .u64 0)).setIfInBounds 15 (.int .i64 0)).setIfInBounds 10 (.int .i64 1099511627776)).setIfInBounds 11 (.int .i64 1099511627776)).setIfInBounds 13 (.int .u64 (nv (j.black ||| oneI node))) = (jobC ({ j with state := 0, nodes := 0#64, start := 0, plan := 1099511627776, promise := 1099511627776, black := j.black ||| oneI node })).toArray from rfl)
  have HLEN'' := Lib.hid (jobC_len ({ j with state := 0, nodes := 0#64, start := 0, plan := 1099511627776, promise := 1099511627776, black := j.black ||| oneI node }))
  have HONE'' := Lib.hid (jobC_one ({ j with state := 0, nodes := 0#64, start := 0, plan := 1099511627776, promise := 1099511627776, black := j.black ||| oneI node }))
  have HNE := Lib.hid (show ∀ x, loseJ j now node retries = x → loseJ j now node retries = x from fun _ h => h)
  generalize hbj : loseJ j now node retries = bj at HNE ⊢
  have HBJ := Lib.hid hbj
  clear hbj HNE
  have HLEN := Lib.hid (jobC_len j)
  have k8 : (jobC j).toArray[8]? = some (.int .i64 j.state) := rfl
  have k10 : (jobC j).toArray[10]? = some (.int .i64 j.plan) := rfl
  have k11 : (jobC j).toArray[11]? = some (.int .i64 j.promise) := rfl
  have k12 : (jobC j).toArray[12]? = some (.int .i64 j.tries) := rfl
  have k13 : (jobC j).toArray[13]? = some (.int .u64 (nv j.black)) := rfl
  have k14 : (jobC j).toArray[14]? = some (.int .u64 (nv j.nodes)) := rfl
  have k15 : (jobC j).toArray[15]? = some (.int .i64 j.start) := rfl
  have k16 : (jobC j).toArray[16]? = some (.int .i64 j.fin) := rfl
  generalize hl' : jobC ({ j with state := 3, fin := now }) = l' at *
  have HL' := Lib.hid hl'
  clear hl'
  generalize hl'' : jobC ({ j with state := 0, nodes := 0#64, start := 0, plan := 1099511627776, promise := 1099511627776, black := j.black ||| oneI node }) = l'' at *
  have HL'' := Lib.hid hl''
  clear hl''
  generalize hl : jobC j = l at *
  clear hl
  go_enter Try.func12, Try.ntmps12
  go_upto_region 1 with fail
  generalize hU : (w.alloc (.cells l.toArray 29)).alloc (.cells #[.int .i64 0, .int .i64 0, .int .i64 0, .int .i64 0, .int .i64 0, .int .i64 0, .int .i64 0, .bool false, .int .i64 0, .int .i64 0, .int .i64 0, .int .i64 0, .int .i64 0, .int .u64 0, .int .u64 0, .int .i64 0, .int .i64 0] 29) = U
  have hC : U.heap[w.heap.size]? = some (.cells l.toArray 29 (0, 0)) := by rw [← hU]; exact ((below_alloc (Below.refl _ _) _).block _ (by simp)).trans (World.alloc_heap_new w _)
  have hZ : U.heap[w.heap.size + 1]? = some (.cells #[.int .i64 0, .int .i64 0, .int .i64 0, .int .i64 0, .int .i64 0, .int .i64 0, .int .i64 0, .bool false, .int .i64 0, .int .i64 0, .int .i64 0, .int .i64 0, .int .i64 0, .int .u64 0, .int .u64 0, .int .i64 0, .int .i64 0] 29 (0, 0)) := by
    rw [← hU]
    have := World.alloc_heap_new (w.alloc (.cells l.toArray 29)) (.cells #[.int .i64 0, .int .i64 0, .int .i64 0, .int .i64 0, .int .i64 0, .int .i64 0, .int .i64 0, .bool false, .int .i64 0, .int .i64 0, .int .i64 0, .int .i64 0, .int .i64 0, .int .u64 0, .int .u64 0, .int .i64 0, .int .i64 0] 29)
    rwa [show (w.alloc (.cells l.toArray 29)).heap.size = w.heap.size + 1 by simp] at this
  have HB := Lib.hid (show Below w.heap.size w U by rw [← hU]; exact (by repeat (first | exact Below.refl _ _ | assumption | refine below_drewN ?_ _ | refine Below.drew ?_ | refine below_alloc ?_ _ | refine Below.alloc ?_ (by first | omega | (simp; done) | (simp; omega)) _ | refine Below.setCell ?_ (Below.size (by assumption)) _ | refine Below.setCell ?_ (by first | omega | (simp; done) | (simp; omega)) _ | (refine Below.trans ?_ (Below.mono (by assumption) (by first | omega | (simp; done) | (simp; omega)))) | refine below_next ?_ (by assumption))))
  have HS := Lib.hid (show U.heap.size = w.heap.size + 2 by rw [← hU]; simp)
  clear hU
  have HC := Lib.hid hC
  have HZ := Lib.hid hZ
  clear hC hZ
  have HK8 := Lib.hid k8
  have HK10 := Lib.hid k10
  have HK11 := Lib.hid k11
  have HK12 := Lib.hid k12
  have HK13 := Lib.hid k13
  have HK14 := Lib.hid k14
  have HK15 := Lib.hid k15
  have HK16 := Lib.hid k16
  clear k8 k10 k11 k12 k13 k14 k15 k16
  cases r : rightB j with
  | false =>
    have E := Lib.hid (show bj = (job0, 11) by rw [← HBJ.out]; unfold loseJ; rw [r]; rfl)
    go_upto_region 1 with fail
    refine wp_region_lit ?_
    refine wpList_load_all rfl 29 _ rfl (w.heap.size) l _ (by go_simp) HC.out Try.underlying29 rfl (by rw [HLEN.out]; kernel_rfl) ?_
    refine wpList_enter rfl (by go_simp) (KR.out false r U) ?_
    rintro e w2 ⟨rfl, hb2⟩
    refine ⟨_, rfl, ?_⟩
    have hle := hb2.size
    have HC2 := Lib.hid ((hb2.block _ (Array.getElem?_eq_some_iff.1 HC.out).1).trans HC.out)
    have HZ2 := Lib.hid ((hb2.block _ (Array.getElem?_eq_some_iff.1 HZ.out).1).trans HZ.out)
    have HB2 := Lib.hid (below_next HB.out hb2)
    clear hb2 hle
    go_upto_region 2 with fail
    refine wp_region_lit ?_
    refine wpList_yield (w' := w2) (v := .agg (jobC job0).toArray) rfl (by go_simp; rfl) ?_
    refine wpList_store_all rfl 29 _ _ rfl (w.heap.size + 1) (T := 29) (jobC job0) (by go_simp) (by go_simp) HZ2.out rfl (by kernel_rfl) rfl ?_
    intro w9 hw9
    have HW9 := Lib.hid hw9.there
    have HB9 := Lib.hid (hw9.below HB2.out (by omega))
    clear hw9
    go_wp2_with fail
    exact bodyPost_ret (results_all2 (jobC job0) _ Try.results12 (by go_simp) HW9.out Try.underlying29 rfl (by kernel_rfl)) rfl ⟨by rw [E.out]; rfl, HB9.out⟩
  | true =>
    go_upto_region 1 with fail
    refine wp_region_lit ?_
    refine wpList_load_all rfl 29 _ rfl (w.heap.size) l _ (by go_simp) HC.out Try.underlying29 rfl (by rw [HLEN.out]; kernel_rfl) ?_
    refine wpList_enter rfl (by go_simp) (KR.out true r U) ?_
    rintro e w2 ⟨rfl, hb2⟩
    refine ⟨_, rfl, ?_⟩
    have hle := hb2.size
    have HC2 := Lib.hid ((hb2.block _ (Array.getElem?_eq_some_iff.1 HC.out).1).trans HC.out)
    have HZ2 := Lib.hid ((hb2.block _ (Array.getElem?_eq_some_iff.1 HZ.out).1).trans HZ.out)
    have HB2 := Lib.hid (below_next HB.out hb2)
    clear hb2 hle
    have c8 := cell_of_block (o := 8) HC2.out HK8.out
    cases hs : (j.state == 1) with
    | false =>
      have hs' : (j.state != 1) = true := by unfold bne; rw [hs]; rfl
      have E := Lib.hid (show bj = (job0, 16) by rw [← HBJ.out]; unfold loseJ; rw [r, hs]; rfl)
      go_upto_region 4 with fail
      refine wp_region_lit ?_
      refine wpList_yield (w' := w2) (v := .agg (jobC job0).toArray) rfl (by go_simp; rfl) ?_
      refine wpList_store_all rfl 29 _ _ rfl (w.heap.size + 1) (T := 29) (jobC job0) (by go_simp) (by go_simp) HZ2.out rfl (by kernel_rfl) rfl ?_
      intro w9 hw9
      have HW9 := Lib.hid hw9.there
      have HB9 := Lib.hid (hw9.below HB2.out (by omega))
      clear hw9
      go_wp2_with fail
      exact bodyPost_ret (results_all2 (jobC job0) _ Try.results12 (by go_simp) HW9.out Try.underlying29 rfl (by kernel_rfl)) rfl ⟨by rw [E.out]; rfl, HB9.out⟩
    | true =>
      have hs' : (j.state != 1) = false := by unfold bne; rw [hs]; rfl
      have hfin := right_fin r (beq_iff_eq.1 hs)
      go_upto_region 5 with fail
      clear c8
      have c14 := cell_of_block (o := 14) HC2.out HK14.out
      refine wp_region_lit ?_
      refine wpList_yield (w' := w2) (v := .pointer (some ⟨w.heap.size, 14, none⟩)) rfl (by first | (go_simp; done) | (go_simp; rfl)) ?_
      refine wpList_yield (w' := w2) (v := .int .u64 (nv j.nodes)) rfl (by first | (go_simp; done) | (go_simp; rfl)) ?_
      refine wpList_enter rfl (by go_simp) (KO.out w2) ?_
      rintro e w3 ⟨u, rfl, hO, hb3⟩
      refine ⟨_, rfl, ?_⟩
      have HC3 := Lib.hid ((hb3.block _ (Array.getElem?_eq_some_iff.1 HC2.out).1).trans HC2.out)
      have HZ3 := Lib.hid ((hb3.block _ (Array.getElem?_eq_some_iff.1 HZ2.out).1).trans HZ2.out)
      have HB3 := Lib.hid (below_next HB2.out hb3)
      have HO3 := Lib.hid hO.ints
      clear hO hb3 c14
      refine wpList_yield (w' := w3) (v := .int .i64 node) rfl (by first | (go_simp; done) | (go_simp; rfl)) ?_
      have hhh : hasI j.nodes node = true ∨ hasI j.nodes node = false := by cases hasI j.nodes node; exact .inr rfl; exact .inl rfl
      rcases hhh with hh | hh
      · refine wpList_enter rfl (by go_simp) (KH.out true hh w3 _ HO3.out) ?_
        rintro e w4 ⟨rfl, rfl⟩
        refine ⟨_, rfl, ?_⟩
        clear HO3
        have hll : lateB j now = true ∨ lateB j now = false := by cases lateB j now; exact .inr rfl; exact .inl rfl
        rcases hll with hla | hla
        · go_upto_region 7 with fail
          refine wp_region_lit ?_
          refine wpList_load_all rfl 29 _ rfl (w.heap.size) l _ (by go_simp) HC3.out Try.underlying29 rfl (by rw [HLEN.out]; kernel_rfl) ?_
          refine wpList_yield (w' := w3) (v := .int .i64 now) rfl (by first | (go_simp; done) | (go_simp; rfl)) ?_
          refine wpList_enter rfl (by go_simp) (KL.out true hla w3) ?_
          rintro e w6 ⟨rfl, hb2⟩
          refine ⟨_, rfl, ?_⟩
          have hle := hb2.size
          have HC6 := Lib.hid ((hb2.block _ (Array.getElem?_eq_some_iff.1 HC3.out).1).trans HC3.out)
          have HZ6 := Lib.hid ((hb2.block _ (Array.getElem?_eq_some_iff.1 HZ3.out).1).trans HZ3.out)
          have HB6 := Lib.hid (below_next HB3.out hb2)
          clear hb2 hle
          have E := Lib.hid (show bj = (job0, 18) by rw [← HBJ.out]; unfold loseJ; rw [r, hs, hh, hla]; rfl)
          go_upto_region 8 with fail
          refine wp_region_lit ?_
          refine wpList_yield (w' := w6) (v := .agg (jobC job0).toArray) rfl (by go_simp; rfl) ?_
          refine wpList_store_all rfl 29 _ _ rfl (w.heap.size + 1) (T := 29) (jobC job0) (by go_simp) (by go_simp) HZ6.out rfl (by kernel_rfl) rfl ?_
          intro w9 hw9
          have HW9 := Lib.hid hw9.there
          have HB9 := Lib.hid (hw9.below HB6.out (by omega))
          clear hw9
          go_wp2_with fail
          exact bodyPost_ret (results_all2 (jobC job0) _ Try.results12 (by go_simp) HW9.out Try.underlying29 rfl (by kernel_rfl)) rfl ⟨by rw [E.out]; rfl, HB9.out⟩
        · go_upto_region 7 with fail
          refine wp_region_lit ?_
          refine wpList_load_all rfl 29 _ rfl (w.heap.size) l _ (by go_simp) HC3.out Try.underlying29 rfl (by rw [HLEN.out]; kernel_rfl) ?_
          refine wpList_yield (w' := w3) (v := .int .i64 now) rfl (by first | (go_simp; done) | (go_simp; rfl)) ?_
          refine wpList_enter rfl (by go_simp) (KL.out false hla w3) ?_
          rintro e w6 ⟨rfl, hb2⟩
          refine ⟨_, rfl, ?_⟩
          have hle := hb2.size
          have HC6 := Lib.hid ((hb2.block _ (Array.getElem?_eq_some_iff.1 HC3.out).1).trans HC3.out)
          have HZ6 := Lib.hid ((hb2.block _ (Array.getElem?_eq_some_iff.1 HZ3.out).1).trans HZ3.out)
          have HB6 := Lib.hid (below_next HB3.out hb2)
          clear hb2 hle
          have c12 := cell_of_block (o := 12) HC6.out HK12.out
          cases hd : decide (retries < j.tries) with
          | true =>
            have hd' : decide (j.tries > retries) = true := hd
            have hs0 : (j.state == 0) = false := by rw [beq_iff_eq.1 hs]; rfl
            have E := Lib.hid (show bj = ({ j with state := 3, fin := now }, 0) by rw [← HBJ.out]; unfold loseJ endJ; rw [r, hs, hh, hla, hd, hs0]; rfl)
            go_upto_region 10 with fail
            clear c12
            have c8 := cell_of_block (o := 8) HC6.out HK8.out
            have c16 := cell_of_block (o := 16) HC6.out HK16.out
            have f8 := free_of_block 8 HC6.out
            have f16 := free_of_block 16 HC6.out
            go_upto_region 12 with fail
            have hW := ((wrote_refl HC6.out).set 8 (.int .i64 3)).set 16 (.int .i64 now)
            rw [HSET.out] at hW
            have HV := Lib.hid hW.there
            have HZV := Lib.hid ((hW.rest (w.heap.size + 1) (by omega)).trans HZ6.out)
            have HBV := Lib.hid (hW.below HB6.out (Nat.le_refl _))
            clear hW c8 c16 f8 f16
            generalize ((w6).setCell ⟨w.heap.size, 8, none⟩ (.int .i64 3)).setCell ⟨w.heap.size, 16, none⟩ (.int .i64 now) = V at *
            refine wp_region_lit ?_
            refine wpList_load_all rfl 29 _ rfl (w.heap.size) l' _ (by go_simp) HV.out Try.underlying29 rfl (by rw [HLEN'.out]; kernel_rfl) ?_
            refine wpList_store_all rfl 29 _ _ rfl (w.heap.size + 1) (T := 29) l' (by go_simp) (by go_simp) HZV.out (by rw [HLEN'.out]; rfl) (by rw [HLEN'.out]; kernel_rfl) HONE'.out ?_
            intro w9 hw9
            have HW9 := Lib.hid hw9.there
            have HB9 := Lib.hid (hw9.below HBV.out (by omega))
            clear hw9
            go_wp2_with fail
            exact bodyPost_ret (results_all2 l' _ Try.results12 (by go_simp) HW9.out Try.underlying29 rfl (by rw [HLEN'.out]; kernel_rfl)) rfl ⟨by rw [E.out, ← HL'.out]; first | done | rfl, HB9.out⟩
          | false =>
            have hd' : decide (j.tries > retries) = false := hd
            have E := Lib.hid (show bj = ({ j with state := 0, nodes := 0#64, start := 0, plan := 1099511627776, promise := 1099511627776, black := j.black ||| oneI node }, 0) by rw [← HBJ.out]; unfold loseJ; rw [r, hs, hh, hla, hd]; simp only [Bool.not_true, Bool.false_eq_true, if_false, hfin])
            go_upto_region 13 with fail
            clear c12
            have c8 := cell_of_block (o := 8) HC6.out HK8.out
            have c14 := cell_of_block (o := 14) HC6.out HK14.out
            have c15 := cell_of_block (o := 15) HC6.out HK15.out
            have c10 := cell_of_block (o := 10) HC6.out HK10.out
            have c11 := cell_of_block (o := 11) HC6.out HK11.out
            have f8 := free_of_block 8 HC6.out
            have f14 := free_of_block 14 HC6.out
            have f15 := free_of_block 15 HC6.out
            have f10 := free_of_block 10 HC6.out
            have f11 := free_of_block 11 HC6.out
            go_upto_region 18 with fail
            have hW := (((((wrote_refl HC6.out).set 8 (.int .i64 0)).set 14 (.int .u64 0)).set 15 (.int .i64 0)).set 10 (.int .i64 1099511627776)).set 11 (.int .i64 1099511627776)
            have hk13 : ((((((l.toArray).setIfInBounds 8 (.int .i64 0)).setIfInBounds 14 (.int .u64 0)).setIfInBounds 15 (.int .i64 0)).setIfInBounds 10 (.int .i64 1099511627776)).setIfInBounds 11 (.int .i64 1099511627776))[13]? = some (.int .u64 (nv j.black)) := by
              simp only [Array.getElem?_setIfInBounds, HK13.out]; simp
            have HK13b := Lib.hid hk13
            generalize hcs : (((((l.toArray).setIfInBounds 8 (.int .i64 0)).setIfInBounds 14 (.int .u64 0)).setIfInBounds 15 (.int .i64 0)).setIfInBounds 10 (.int .i64 1099511627776)).setIfInBounds 11 (.int .i64 1099511627776) = cs at *
            have HCS := Lib.hid hcs
            clear hcs hk13
            have HC7 := Lib.hid hW.there
            have HZ7 := Lib.hid ((hW.rest (w.heap.size + 1) (by omega)).trans HZ6.out)
            have HB7 := Lib.hid (hW.below HB6.out (Nat.le_refl _))
            clear hW c8 c14 c15 c10 c11 f8 f14 f15 f10 f11
            generalize (((((w6).setCell ⟨w.heap.size, 8, none⟩ (.int .i64 0)).setCell ⟨w.heap.size, 14, none⟩ (.int .u64 0)).setCell ⟨w.heap.size, 15, none⟩ (.int .i64 0)).setCell ⟨w.heap.size, 10, none⟩ (.int .i64 1099511627776)).setCell ⟨w.heap.size, 11, none⟩ (.int .i64 1099511627776) = V at *
            refine wp_region_lit ?_
            refine wpList_yield (w' := V.alloc (.cells #[] 3)) (v := .slice (some ⟨V.heap.size, 0, none⟩) 0 0) rfl (by first | (go_simp; done) | (go_simp; rfl)) ?_
            have hVs : w.heap.size + 2 ≤ V.heap.size := by have := (Array.getElem?_eq_some_iff.1 HZ7.out).1; omega
            have hM := OwnI.made V
            have HBm := below_alloc (Below.refl _ V) (.cells #[] 3)
            have hMs : V.heap.size < (V.alloc (.cells #[] 3)).heap.size := by simp
            have HC8 := Lib.hid ((HBm.block _ (Array.getElem?_eq_some_iff.1 HC7.out).1).trans HC7.out)
            have HZ8 := Lib.hid ((HBm.block _ (Array.getElem?_eq_some_iff.1 HZ7.out).1).trans HZ7.out)
            have HB8 := Lib.hid (below_next HB7.out HBm)
            clear HBm
            generalize V.alloc (.cells #[] 3) = V8 at *
            obtain ⟨m0, hm0⟩ : ∃ m, m = V.heap.size := ⟨_, rfl⟩
            rw [← hm0] at hM hVs hMs ⊢
            clear hm0 HC7 HZ7 HB7 HC6 HZ6 HB6
            have c13 := cell_of_block (o := 13) HC8.out HK13b.out
            refine wpList_yield (w' := V8) (v := .pointer (some ⟨w.heap.size, 13, none⟩)) rfl (by first | (go_simp; done) | (go_simp; rfl)) ?_
            refine wpList_yield (w' := V8) (v := .int .u64 (nv j.black)) rfl (by first | (go_simp; done) | (go_simp; rfl)) ?_
            refine wpList_enter rfl (by go_simp) (KB.out V8) ?_
            rintro e V9 ⟨u, rfl, hO, hb9⟩
            refine ⟨_, rfl, ?_⟩
            have hM9 := hM.below hb9
            have hs9 := hb9.size
            have HC9 := Lib.hid ((hb9.block _ (Array.getElem?_eq_some_iff.1 HC8.out).1).trans HC8.out)
            have HZ9 := Lib.hid ((hb9.block _ (Array.getElem?_eq_some_iff.1 HZ8.out).1).trans HZ8.out)
            have HB9 := Lib.hid (below_next HB8.out hb9)
            have hR := hO.ints
            clear hO hb9 c13 HC8 HZ8 HB8 hM
            have hNL : (nodes j.black).length ≤ 64 := by rw [nodes_length _ j.black rfl]; exact card_le j.black
            have HWS := Lib.hid (with_set15 j.black node)
            have KM := Lib.hid (fun W v (h : ReadsI W v (nodes j.black ++ [node])) => rmade_any W h)
            rw [with_set15] at KM
            have KS := Lib.hid (fun W v (h : ReadsI W v (nodes (j.black ||| oneI node))) => rset_nodes (j.black ||| oneI node) W h)
            generalize nodes j.black = bl at *
            refine wpList_append_read 54 55 (by kernel_rfl) (by kernel_rfl) rfl _ _ rfl m0 _ [] (by go_simp) hM9 _ bl (by go_simp) hR (by simp; omega) (by omega) ?_
            intro v10 V10 hM10 hb10
            rw [List.nil_append] at hM10
            have hC10 := (hb10.block (w.heap.size) (by omega)).trans HC9.out
            have hZ10 := (hb10.block (w.heap.size + 1) (by omega)).trans HZ9.out
            have hB10 := HB9.out.trans (hb10.mono (by omega))
            have HC10 := Lib.hid hC10
            have HZ10 := Lib.hid hZ10
            have HB10 := Lib.hid hB10
            have hs10 := hb10.size
            clear hC10 hZ10 hB10 hb10 hR HC9 HZ9 HB9 hM9
            refine wpList_yield (w' := V10) (v := .int .i64 node) rfl (by first | (go_simp; done) | (go_simp; rfl)) ?_
            refine wpList_yield (w' := V10.alloc (.cells #[.int .i64 node] 3)) (v := .slice (some ⟨V10.heap.size, 0, none⟩) 1 1) rfl (by first | (go_simp; done) | (go_simp; rfl)) ?_
            have hb11 := below_alloc (Below.refl _ V10) (.cells #[.int .i64 node] 3)
            have hg := cell_of_block (o := 0) (World.alloc_heap_new V10 (.cells #[.int .i64 node] 3)) rfl
            have hM11 := hM10.below hb11
            have hs11 := hb11.size
            have HC11 := Lib.hid ((hb11.block _ (Array.getElem?_eq_some_iff.1 HC10.out).1).trans HC10.out)
            have HZ11 := Lib.hid ((hb11.block _ (Array.getElem?_eq_some_iff.1 HZ10.out).1).trans HZ10.out)
            have HB11 := Lib.hid (below_next HB10.out hb11)
            clear hb11 HC10 HZ10 HB10 hM10
            generalize V10.alloc (.cells #[.int .i64 node] 3) = V11 at *
            refine wpList_append_int 54 (by kernel_rfl) rfl _ _ rfl m0 _ bl (by go_simp) hM11 _ 1 node (by go_simp) hg (by omega) (by omega) ?_
            intro v12 V12 hM12 hb12
            have hC12 := (hb12.block (w.heap.size) (by omega)).trans HC11.out
            have hZ12 := (hb12.block (w.heap.size + 1) (by omega)).trans HZ11.out
            have HC12 := Lib.hid hC12
            have HZ12 := Lib.hid hZ12
            have HB12 := Lib.hid (HB11.out.trans (hb12.mono (by omega)))
            clear hC12 hZ12 hb12 HC11 HZ11 HB11 hM11 hg
            refine wpList_enter rfl (by go_simp) (KM.out V12 _ hM12.ints) ?_
            rintro e V13 ⟨v13, rfl, hM13, hb13⟩
            refine ⟨_, rfl, ?_⟩
            have HC13 := Lib.hid ((hb13.block _ (Array.getElem?_eq_some_iff.1 HC12.out).1).trans HC12.out)
            have HZ13 := Lib.hid ((hb13.block _ (Array.getElem?_eq_some_iff.1 HZ12.out).1).trans HZ12.out)
            have HB13 := Lib.hid (below_next HB12.out hb13)
            clear hb13 HC12 HZ12 HB12 hM12
            refine wpList_enter rfl (by go_simp) (KS.out V13 _ hM13.ints) ?_
            rintro e V14 ⟨rfl, rfl⟩
            refine ⟨_, rfl, ?_⟩
            clear hM13
            refine wpList_yield (w' := V13) (v := .pointer (some ⟨w.heap.size, 13, none⟩)) rfl (by first | (go_simp; done) | (go_simp; rfl)) ?_
            have c13 := cell_of_block (o := 13) HC13.out HK13b.out
            have f13 := free_of_block 13 HC13.out
            have hW := (wrote_refl HC13.out).set 13 (.int .u64 (nv (j.black ||| oneI node)))
            rw [HSETb.out] at hW
            have HV := Lib.hid hW.there
            have HZV := Lib.hid ((hW.rest (w.heap.size + 1) (by omega)).trans HZ13.out)
            have HBV := Lib.hid (hW.below HB13.out (Nat.le_refl _))
            clear hW
            go_upto_region 19 with fail
            clear c13 f13
            generalize V13.setCell ⟨w.heap.size, 13, none⟩ (.int .u64 (nv (j.black ||| oneI node))) = VV at *
            refine wp_region_lit ?_
            refine wpList_load_all rfl 29 _ rfl (w.heap.size) l'' _ (by go_simp) HV.out Try.underlying29 rfl (by rw [HLEN''.out]; kernel_rfl) ?_
            refine wpList_store_all rfl 29 _ _ rfl (w.heap.size + 1) (T := 29) l'' (by go_simp) (by go_simp) HZV.out (by rw [HLEN''.out]; rfl) (by rw [HLEN''.out]; kernel_rfl) HONE''.out ?_
            intro w9 hw9
            have HW9 := Lib.hid hw9.there
            have HB9 := Lib.hid (hw9.below HBV.out (by omega))
            clear hw9
            go_wp2_with fail
            exact bodyPost_ret (results_all2 l'' _ Try.results12 (by go_simp) HW9.out Try.underlying29 rfl (by rw [HLEN''.out]; kernel_rfl)) rfl ⟨by rw [E.out, ← HL''.out]; first | done | rfl, HB9.out⟩
      · refine wpList_enter rfl (by go_simp) (KH.out false hh w3 _ HO3.out) ?_
        rintro e w4 ⟨rfl, rfl⟩
        refine ⟨_, rfl, ?_⟩
        clear HO3
        have E := Lib.hid (show bj = (job0, 13) by rw [← HBJ.out]; unfold loseJ; rw [r, hs, hh]; rfl)
        go_upto_region 6 with fail
        refine wp_region_lit ?_
        refine wpList_yield (w' := w3) (v := .agg (jobC job0).toArray) rfl (by go_simp; rfl) ?_
        refine wpList_store_all rfl 29 _ _ rfl (w.heap.size + 1) (T := 29) (jobC job0) (by go_simp) (by go_simp) HZ3.out rfl (by kernel_rfl) rfl ?_
        intro w9 hw9
        have HW9 := Lib.hid hw9.there
        have HB9 := Lib.hid (hw9.below HB3.out (by omega))
        clear hw9
        go_wp2_with fail
        exact bodyPost_ret (results_all2 (jobC job0) _ Try.results12 (by go_simp) HW9.out Try.underlying29 rfl (by kernel_rfl)) rfl ⟨by rw [E.out]; rfl, HB9.out⟩
end Go.Proofs.Ytgeldpfojmkdbaa
