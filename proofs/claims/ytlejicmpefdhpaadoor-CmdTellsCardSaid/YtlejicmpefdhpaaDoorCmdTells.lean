/- The laws CmdTells and CmdReads of layer 22, walked. Their conditions: errors.errorType and cmd.names read as the program's text lays them. -/
import Derived.Test.YtlejicmpefdhpaaDoorCmdI
import Derived.Test.YtlejicmpefdhpaaDoorCmdAlters
namespace Go.Proofs.YtlejicmpefdhpaaDoor
set_option linter.unusedVariables false
open Go.ChangeShapes Go.WideShapes Go.ChangeAt Go.RowKit
attribute [local go_sem ↓] Go.wp_at_zero Go.wp_at_succ comesTo_value_eq comesTo_skip_eq comesTo_enter_eq Rl.comesToR_value_eq Rl.comesToR_skip_eq Rl.comesToR_enter_eq

set_option maxRecDepth 100000 in
set_option maxHeartbeats 1000000 in
theorem tells_any {a : List Int} (ha : Cmd12 a) (w : World) (hE : ErrAt w) (hN : CmdNamesAt w) : Calls Tryd.prog 3 #[.agg (cmdC a).toArray] w fun e w' => e = .returned (.bool true) ∧ Below w.heap.size w w' := by
  have hmx : Tryd.prog.follows .mixedOrders = true := by kernel_rfl
  have hca := cleanL_cmd ha
  have HE := Lib.hid hE
  have HN := Lib.hid hN
  have KOA := Lib.hid (fun W => own_c ha W)
  have KOC := Lib.hid (fun W => own_c hca W)
  have KCA := Lib.hid (fun W => clean_c ha W)
  have KRA := Lib.hid (fun W => right_c ha W)
  have KPA := Lib.hid (fun W => put_c ha W)
  have KQC := Lib.hid (fun W => rclean_any ha.len W)
  have KQR := Lib.hid (fun W => rright_any ha.len W)
  have KQP := Lib.hid (fun W => rput_any ha.len ha.inb W)
  have EAA := Lib.hid (fun W => eqin27 hca.len hca.len W)
  rw [show (cleanL a == cleanL a) = true from beq_self_eq_true _] at EAA
  have hi24 : (Tryd.prog.info? 24).map (·.size) = some (cmdC a).length := by rw [cmdC_len ha.len]; kernel_rfl
  have hi27 : (Tryd.prog.info? 27).map (·.size) = some (numC a).length := by rw [numC_len, ha.len]; kernel_rfl
  have HI1 := Lib.hid hi24
  have HI2 := Lib.hid hi27
  have HL2 := Lib.hid (show (numC a).length = 12 by rw [numC_len, ha.len])
  have HO2 := Lib.hid (numC_one a)
  have HSS := Lib.hid (show ((strOfNums (putC a)).toList == (strOfNums (putC a)).toList) = true from beq_self_eq_true _)
  generalize hsa : strOfNums (putC a) = sa at *
  have HS_sa := Lib.hid hsa
  generalize rightL a = ri at *
  generalize putC a = pa at *
  generalize cmdC a = l1 at *
  generalize numC a = m1 at *
  generalize cmdC (cleanL a) = lc at *
  generalize numC (cleanL a) = mc at *
  clear hca hE hN hi24 hi27 hsa ha
  go_enter Tryd.func3, Tryd.ntmps3
  go_upto_region 1 with fail
  have hA1 := below_alloc (Below.refl _ w) (.cells l1.toArray 24)
  have hN1 := World.alloc_heap_new w (.cells l1.toArray 24)
  have hs1 : (w.alloc (.cells l1.toArray 24)).heap.size = w.heap.size + 1 := by simp
  generalize w.alloc (.cells l1.toArray 24) = U at *
  have HB := Lib.hid hA1
  have HM1 := Lib.hid hN1
  have HS1 := Lib.hid hs1
  clear hA1 hN1 hs1
  refine wp_region_lit ?_
  refine wpList_load_all rfl 24 _ rfl w.heap.size l1 _ (by go_simp) HM1.out Tryd.underlying24 rfl HI1.out ?_
  refine wpList_enter rfl (by go_simp) (KOA.out U) ?_
  rintro e w2 ⟨rfl, hb2⟩
  refine ⟨_, rfl, ?_⟩
  refine wpList_yield (w' := w2.alloc (.cells #[.int .i64 0, .int .i64 0, .int .i64 0, .int .i64 0, .int .i64 0, .int .i64 0, .int .i64 0, .int .i64 0, .int .i64 0, .int .i64 0, .int .i64 0, .int .i64 0] 27)) (v := .pointer (some ⟨w2.heap.size, 0, none⟩)) rfl (by go_simp) ?_
  refine wpList_store_all rfl 27 _ _ rfl w2.heap.size (cs := #[.int .i64 0, .int .i64 0, .int .i64 0, .int .i64 0, .int .i64 0, .int .i64 0, .int .i64 0, .int .i64 0, .int .i64 0, .int .i64 0, .int .i64 0, .int .i64 0]) (T := 27) m1 (by go_simp) (by go_simp) (World.alloc_heap_new _ _) (by rw [HL2.out]; rfl) HI2.out HO2.out ?_
  intro w3 hw3
  have hb3 := below_next hb2 (hw3.below (below_alloc (Below.refl _ w2) _) (Nat.le_refl _))
  have HB3 := Lib.hid (below_next HB.out hb3)
  have HM3 := Lib.hid ((hb3.block w.heap.size (by have := HS1.out; omega)).trans HM1.out)
  have HX3 := Lib.hid hw3.there
  clear hw3 hb2 hb3
  generalize w2.heap.size = p at *
  have HL1 := Lib.hid (fun (W : World) (h : Below w3.heap.size w3 W) => (h.block _ (Array.getElem?_eq_some_iff.1 HM3.out).1).trans HM3.out)
  have HLX := Lib.hid (fun (W : World) (h : Below w3.heap.size w3 W) => (h.block _ (Array.getElem?_eq_some_iff.1 HX3.out).1).trans HX3.out)
  have KO := Lib.hid (fun (W : World) (h : Below w3.heap.size w3 W) => cmd_one W (HE.out.below (below_next HB3.out h)) (HN.out.below (below_next HB3.out h)))
  go_upto_region 2 with fail
  refine Rl.wp_region_rel (fun a b => Below a.heap.size a b) w3 (fun a b c h h' => below_next h h') (fun a => Below.refl _ _) hmx (by kernel_rfl) (Below.refl _ _).drew ?_
  refine Rl.textR_run (.agg l1.toArray) (fun ρ => ?_) (fun ρ W hS hd => ?_) ?_
  · go_simp
  · exact Rl.comesToR_load 24 _ rfl w.heap.size (by go_simp) _ _ (HL1.out W hS) Tryd.underlying24 rfl HI1.out ⟨rfl, Below.refl _ _⟩
  (try go_simp)
  (refine Rl.textR_run ?_ (fun ρ => ?_) (fun ρ W hS hd => ?_) ?_; rotate_left; (focus go_simp); (focus (obtain ⟨hc, hf⟩ := bcell hS; go_simp; refine (KCA.out W).mono ?_; rintro e w1 ⟨rfl, hb⟩; refine ⟨_, rfl, ?_, hb⟩; rfl)); (try go_simp))
  (refine Rl.textR_run ?_ (fun ρ => ?_) (fun ρ W hS hd => ?_) ?_; rotate_left; (focus go_simp); (focus (obtain ⟨hc, hf⟩ := bcell hS; go_simp; refine (KOC.out W).mono ?_; rintro e w1 ⟨rfl, hb⟩; refine ⟨_, rfl, ?_, hb⟩; rfl)); (try go_simp))
  refine Rl.textR_run (.agg m1.toArray) (fun ρ => ?_) (fun ρ W hS hd => ?_) ?_
  · go_simp
  · exact Rl.comesToR_load 27 _ rfl p (by go_simp) _ _ (HLX.out W hS) Tryd.underlying27 rfl HI2.out ⟨rfl, Below.refl _ _⟩
  (try go_simp)
  (refine Rl.textR_run ?_ (fun ρ => ?_) (fun ρ W hS hd => ?_) ?_; rotate_left; (focus go_simp); (focus (obtain ⟨hc, hf⟩ := bcell hS; go_simp; refine (KQC.out W).mono ?_; rintro e w1 ⟨rfl, hb⟩; refine ⟨_, rfl, ?_, hb⟩; rfl)); (try go_simp))
  refine Rl.textR_run (.bool true) (fun ρ => ?_) (fun ρ W hS hd => ?_) ?_
  · go_simp
  · exact Rl.comesToR_eql 27 _ _ _ rfl _ _ (by go_simp) (by go_simp) (by kernel_rfl) (EAA.out W) ⟨rfl, Below.refl _ _⟩
  (try go_simp)
  (refine Rl.textR_run ?_ (fun ρ => ?_) (fun ρ W hS hd => ?_) ?_; rotate_left; (focus go_simp); (focus (obtain ⟨hc, hf⟩ := bcell hS; go_simp; first | exact ⟨rfl, Below.refl _ _⟩ | (refine ⟨?_, Below.refl _ _⟩; rfl))); (try go_simp))
  refine Rl.textR_run (.agg l1.toArray) (fun ρ => ?_) (fun ρ W hS hd => ?_) ?_
  · go_simp
  · exact Rl.comesToR_load 24 _ rfl w.heap.size (by go_simp) _ _ (HL1.out W hS) Tryd.underlying24 rfl HI1.out ⟨rfl, Below.refl _ _⟩
  (try go_simp)
  (refine Rl.textR_run ?_ (fun ρ => ?_) (fun ρ W hS hd => ?_) ?_; rotate_left; (focus go_simp); (focus (obtain ⟨hc, hf⟩ := bcell hS; go_simp; refine (KRA.out W).mono ?_; rintro e w1 ⟨rfl, hb⟩; refine ⟨_, rfl, ?_, hb⟩; rfl)); (try go_simp))
  refine Rl.textR_run (.agg m1.toArray) (fun ρ => ?_) (fun ρ W hS hd => ?_) ?_
  · go_simp
  · exact Rl.comesToR_load 27 _ rfl p (by go_simp) _ _ (HLX.out W hS) Tryd.underlying27 rfl HI2.out ⟨rfl, Below.refl _ _⟩
  (try go_simp)
  (refine Rl.textR_run ?_ (fun ρ => ?_) (fun ρ W hS hd => ?_) ?_; rotate_left; (focus go_simp); (focus (obtain ⟨hc, hf⟩ := bcell hS; go_simp; refine (KQR.out W).mono ?_; rintro e w1 ⟨rfl, hb⟩; refine ⟨_, rfl, ?_, hb⟩; rfl)); (try go_simp))
  iterate 3 (refine Rl.textR_run ?_ (fun ρ => ?_) (fun ρ W hS hd => ?_) ?_; rotate_left; (focus go_simp); (focus (obtain ⟨hc, hf⟩ := bcell hS; go_simp; first | exact ⟨rfl, Below.refl _ _⟩ | (refine ⟨?_, Below.refl _ _⟩; rfl))); (try go_simp))
  refine Rl.textR_run (.agg l1.toArray) (fun ρ => ?_) (fun ρ W hS hd => ?_) ?_
  · go_simp
  · exact Rl.comesToR_load 24 _ rfl w.heap.size (by go_simp) _ _ (HL1.out W hS) Tryd.underlying24 rfl HI1.out ⟨rfl, Below.refl _ _⟩
  (try go_simp)
  refine Rl.textR_rel 21 (fun v w => TxtAt w v (pa)) rfl (fun v w w' hg h => h.below hg) (fun ρ => ?_) (fun ρ W hS hd => ?_) ?_
  · go_simp
  · go_simp
    refine (KPA.out W).mono ?_
    rintro e w1 ⟨u, rfl, ho, hb⟩
    exact ⟨u, rfl, ho.at, hb⟩
  (try go_simp)
  refine Rl.textR_run (.string sa) (fun ρ => ?_) (fun ρ W hS hd => ?_) ?_
  · go_simp
  · have hcv := txt_conv (hd (21, fun v w => TxtAt w v (pa)) (by first | exact List.mem_cons_self | (simp; done)) (show (21 : Nat) ∈ _ by decide)) W (Below.refl _ _)
    rw [show strOfNums (pa) = sa from HS_sa.out] at hcv
    simp only at hcv
    go_simp
    first | exact ⟨rfl, Below.refl _ _⟩ | exact Below.refl _ _
  (try go_simp)
  refine Rl.textR_run (.agg m1.toArray) (fun ρ => ?_) (fun ρ W hS hd => ?_) ?_
  · go_simp
  · exact Rl.comesToR_load 27 _ rfl p (by go_simp) _ _ (HLX.out W hS) Tryd.underlying27 rfl HI2.out ⟨rfl, Below.refl _ _⟩
  (try go_simp)
  (refine Rl.textR_run ?_ (fun ρ => ?_) (fun ρ W hS hd => ?_) ?_; rotate_left; (focus go_simp); (focus (obtain ⟨hc, hf⟩ := bcell hS; go_simp; refine (KQP.out W).mono ?_; rintro e w1 ⟨rfl, hb⟩; refine ⟨_, rfl, ?_, hb⟩; rfl)); (try go_simp))
  (refine Rl.textR_run ?_ (fun ρ => ?_) (fun ρ W hS hd => ?_) ?_; rotate_left; (focus go_simp); (focus (have hfact := HSS.out; go_simp; first | exact ⟨rfl, Below.refl _ _⟩ | (refine ⟨?_, Below.refl _ _⟩; rfl))); (try go_simp))
  iterate 2 (refine Rl.textR_run ?_ (fun ρ => ?_) (fun ρ W hS hd => ?_) ?_; rotate_left; (focus go_simp); (focus (obtain ⟨hc, hf⟩ := bcell hS; go_simp; first | exact ⟨rfl, Below.refl _ _⟩ | (refine ⟨?_, Below.refl _ _⟩; rfl))); (try go_simp))
  (refine Rl.textR_run ?_ (fun ρ => ?_) (fun ρ W hS hd => ?_) ?_; rotate_left; (focus go_simp); (focus (obtain ⟨hc, hf⟩ := bcell hS; go_simp; refine (KO.out W hS).mono ?_; rintro e w1 ⟨rfl, hb⟩; refine ⟨_, rfl, ?_, hb⟩; rfl)); (try go_simp))
  iterate 2 (refine Rl.textR_run ?_ (fun ρ => ?_) (fun ρ W hS hd => ?_) ?_; rotate_left; (focus go_simp); (focus (obtain ⟨hc, hf⟩ := bcell hS; go_simp; first | exact ⟨rfl, Below.refl _ _⟩ | (refine ⟨?_, Below.refl _ _⟩; rfl))); (try go_simp))
  refine Rl.textR_nil ?_
  intro ρ w16 hg hk
  have HF := Lib.hid (below_next HB3.out hg)
  clear hg hk
  dsimp only
  generalize ρ 21 = z1
  clear ρ
  go_wp2_with fail
  go_ret
  exact ⟨rfl, HF.out⟩
theorem reads_longC (la : Option Addr) (ll lcap : Nat) (h : ¬ ll ≤ 500) (w : World) : Calls Tryd.prog 4 #[.slice la ll lcap] w fun e w' => e = .returned (.bool true) ∧ Below w.heap.size w w' := by
  have hd : decide ((ll : Int) > 500) = true := decide_eq_true (by omega)
  go_enter Tryd.func4, Tryd.ntmps4
  go_wp2
  go_ret
  exact ⟨rfl, Below.refl _ _⟩
set_option maxRecDepth 100000 in
set_option maxHeartbeats 1000000 in
theorem reads_walkC (la : Option Addr) (ll lcap : Nat) (bs : List Int) (w : World) (ht : TxtAt w (.slice la ll lcap) bs) (hl : ll ≤ 500) (hg : Cmd12 (gotC bs)) (hby : ∀ x ∈ bs, 0 ≤ x ∧ x ≤ 255) (hE : ErrAt w) (hN : CmdNamesAt w) : Calls Tryd.prog 4 #[.slice la ll lcap] w fun e w' => e = .returned (.bool true) ∧ Below w.heap.size w w' := by
  have hmx : Tryd.prog.follows .mixedOrders = true := by kernel_rfl
  have hd : decide ((ll : Int) > 500) = false := decide_eq_false (by omega)
  have hbl : bs.length = ll := ht.form.1.symm
  have HE := Lib.hid hE
  have HN := Lib.hid hN
  have HT := Lib.hid ht
  have KR := Lib.hid (read_c w ht (by omega) hE)
  have KQ := Lib.hid (fun W => rread_any bs hby (by omega) W)
  have KOG := Lib.hid (fun W => own_c hg W)
  have EGG := Lib.hid (fun W => eqin27 hg.len hg.len W)
  rw [show (gotC bs == gotC bs) = true from beq_self_eq_true _] at EGG
  have hi24 : (Tryd.prog.info? 24).map (·.size) = some (cmdC (gotC bs)).length := by rw [cmdC_len hg.len]; kernel_rfl
  have hi27 : (Tryd.prog.info? 27).map (·.size) = some (numC (gotC bs)).length := by rw [numC_len, hg.len]; kernel_rfl
  have HI1 := Lib.hid hi24
  have HI2 := Lib.hid hi27
  have HL1 := Lib.hid (cmdC_len hg.len)
  have HL2 := Lib.hid (show (numC (gotC bs)).length = 12 by rw [numC_len, hg.len])
  have HO1 := Lib.hid (cmdC_one (gotC bs))
  have HO2 := Lib.hid (numC_one (gotC bs))
  generalize codeC bs = co at *
  generalize cmdC (gotC bs) = l1 at *
  generalize numC (gotC bs) = m1 at *
  have HCV := Lib.hid (fun (W : World) (h : Below w.heap.size w W) => txt_conv (HT.out.below h) W (Below.refl _ _))
  generalize strOfNums bs = sb at *
  clear hE hN ht hi24 hi27 hg hby hbl
  go_enter Tryd.func4, Tryd.ntmps4
  go_upto_region 3 with fail
  refine wp_region_lit ?_
  refine wpList_yield (w' := w) (v := .slice la ll lcap) rfl (by go_simp) ?_
  refine wpList_enter rfl (by go_simp) KR.out ?_
  rintro e w2 ⟨rfl, hb2⟩
  refine ⟨_, rfl, ?_⟩
  refine wpList_yield (w' := w2) (v := .tuple #[.agg l1.toArray, .int .i64 co]) rfl (by go_simp) ?_
  refine wpList_yield (w' := w2) (v := .agg l1.toArray) rfl (by go_simp) ?_
  refine wpList_yield (w' := w2) (v := .int .i64 co) rfl (by go_simp) ?_
  refine wpList_yield (w' := w2.alloc (.cells #[.int .i64 0, .int .i64 0, .int .i64 0, .int .i64 0, .int .i64 0, .int .i64 0, .int .i64 0, .int .i64 0, .int .i64 0, .int .i64 0, .int .i64 0, .bool false] 24)) (v := .pointer (some ⟨w2.heap.size, 0, none⟩)) rfl (by go_simp) ?_
  refine wpList_store_all rfl 24 _ _ rfl w2.heap.size (cs := #[.int .i64 0, .int .i64 0, .int .i64 0, .int .i64 0, .int .i64 0, .int .i64 0, .int .i64 0, .int .i64 0, .int .i64 0, .int .i64 0, .int .i64 0, .bool false]) (T := 24) l1 (by go_simp) (by go_simp) (World.alloc_heap_new _ _) (by rw [HL1.out]; rfl) HI1.out HO1.out ?_
  intro w3 hw3
  have hb3 := below_next hb2 (hw3.below (below_alloc (Below.refl _ w2) _) (Nat.le_refl _))
  have HB3 := Lib.hid hb3
  have HM3 := Lib.hid hw3.there
  clear hw3 hb2 hb3 KR
  generalize w2.heap.size = p at *
  go_upto_region 4 with fail
  refine wp_region_lit ?_
  refine wpList_yield (w' := w3) (v := .slice la ll lcap) rfl (by go_simp) ?_
  refine wpList_yield (w' := w3) (v := .string sb) rfl (by have hcv := HCV.out w3 HB3.out; go_simp) ?_
  refine wpList_enter rfl (by go_simp) (KQ.out w3) ?_
  rintro e w4 ⟨rfl, hb4⟩
  refine ⟨_, rfl, ?_⟩
  refine wpList_yield (w' := w4) (v := .tuple #[.agg m1.toArray, .int .i64 co]) rfl (by go_simp) ?_
  refine wpList_yield (w' := w4) (v := .agg m1.toArray) rfl (by go_simp) ?_
  refine wpList_yield (w' := w4) (v := .int .i64 co) rfl (by go_simp) ?_
  refine wpList_yield (w' := w4.alloc (.cells #[.int .i64 0, .int .i64 0, .int .i64 0, .int .i64 0, .int .i64 0, .int .i64 0, .int .i64 0, .int .i64 0, .int .i64 0, .int .i64 0, .int .i64 0, .int .i64 0] 27)) (v := .pointer (some ⟨w4.heap.size, 0, none⟩)) rfl (by go_simp) ?_
  refine wpList_store_all rfl 27 _ _ rfl w4.heap.size (cs := #[.int .i64 0, .int .i64 0, .int .i64 0, .int .i64 0, .int .i64 0, .int .i64 0, .int .i64 0, .int .i64 0, .int .i64 0, .int .i64 0, .int .i64 0, .int .i64 0]) (T := 27) m1 (by go_simp) (by go_simp) (World.alloc_heap_new _ _) (by rw [HL2.out]; rfl) HI2.out HO2.out ?_
  intro w5 hw5
  have hb5 := below_next hb4 (hw5.below (below_alloc (Below.refl _ w4) _) (Nat.le_refl _))
  have HB5 := Lib.hid (below_next HB3.out hb5)
  have HM5 := Lib.hid ((hb5.block p (Array.getElem?_eq_some_iff.1 HM3.out).1).trans HM3.out)
  have HX5 := Lib.hid hw5.there
  clear hw5 hb4 hb5
  generalize w4.heap.size = q at *
  have HLP := Lib.hid (fun (W : World) (h : Below w5.heap.size w5 W) => (h.block _ (Array.getElem?_eq_some_iff.1 HM5.out).1).trans HM5.out)
  have HLX := Lib.hid (fun (W : World) (h : Below w5.heap.size w5 W) => (h.block _ (Array.getElem?_eq_some_iff.1 HX5.out).1).trans HX5.out)
  have KO := Lib.hid (fun (W : World) (h : Below w5.heap.size w5 W) => cmd_one W (HE.out.below (below_next HB5.out h)) (HN.out.below (below_next HB5.out h)))
  go_upto_region 5 with fail
  refine Rl.wp_region_rel (fun a b => Below a.heap.size a b) w5 (fun a b c h h' => below_next h h') (fun a => Below.refl _ _) hmx (by kernel_rfl) (Below.refl _ _).drew ?_
  iterate 4 (refine Rl.textR_run ?_ (fun ρ => ?_) (fun ρ W hS hd => ?_) ?_; rotate_left; (focus go_simp); (focus (obtain ⟨hc, hf⟩ := bcell hS; go_simp; first | exact ⟨rfl, Below.refl _ _⟩ | (refine ⟨?_, Below.refl _ _⟩; rfl))); (try go_simp))
  refine Rl.textR_run (.agg l1.toArray) (fun ρ => ?_) (fun ρ W hS hd => ?_) ?_
  · go_simp
  · exact Rl.comesToR_load 24 _ rfl p (by go_simp) _ _ (HLP.out W hS) Tryd.underlying24 rfl HI1.out ⟨rfl, Below.refl _ _⟩
  (try go_simp)
  (refine Rl.textR_run ?_ (fun ρ => ?_) (fun ρ W hS hd => ?_) ?_; rotate_left; (focus go_simp); (focus (obtain ⟨hc, hf⟩ := bcell hS; go_simp; refine (KOG.out W).mono ?_; rintro e w1 ⟨rfl, hb⟩; refine ⟨_, rfl, ?_, hb⟩; rfl)); (try go_simp))
  refine Rl.textR_run (.agg m1.toArray) (fun ρ => ?_) (fun ρ W hS hd => ?_) ?_
  · go_simp
  · exact Rl.comesToR_load 27 _ rfl q (by go_simp) _ _ (HLX.out W hS) Tryd.underlying27 rfl HI2.out ⟨rfl, Below.refl _ _⟩
  (try go_simp)
  refine Rl.textR_run (.bool true) (fun ρ => ?_) (fun ρ W hS hd => ?_) ?_
  · go_simp
  · exact Rl.comesToR_eql 27 _ _ _ rfl _ _ (by go_simp) (by go_simp) (by kernel_rfl) (EGG.out W) ⟨rfl, Below.refl _ _⟩
  (try go_simp)
  iterate 2 (refine Rl.textR_run ?_ (fun ρ => ?_) (fun ρ W hS hd => ?_) ?_; rotate_left; (focus go_simp); (focus (obtain ⟨hc, hf⟩ := bcell hS; go_simp; first | exact ⟨rfl, Below.refl _ _⟩ | (refine ⟨?_, Below.refl _ _⟩; rfl))); (try go_simp))
  (refine Rl.textR_run ?_ (fun ρ => ?_) (fun ρ W hS hd => ?_) ?_; rotate_left; (focus go_simp); (focus (obtain ⟨hc, hf⟩ := bcell hS; go_simp; refine (KO.out W hS).mono ?_; rintro e w1 ⟨rfl, hb⟩; refine ⟨_, rfl, ?_, hb⟩; rfl)); (try go_simp))
  iterate 2 (refine Rl.textR_run ?_ (fun ρ => ?_) (fun ρ W hS hd => ?_) ?_; rotate_left; (focus go_simp); (focus (obtain ⟨hc, hf⟩ := bcell hS; go_simp; first | exact ⟨rfl, Below.refl _ _⟩ | (refine ⟨?_, Below.refl _ _⟩; rfl))); (try go_simp))
  refine Rl.textR_nil ?_
  intro ρ w16 hg hk
  have HF := Lib.hid (below_next HB5.out hg)
  clear hg hk
  dsimp only
  clear ρ
  go_wp2_with fail
  go_ret
  exact ⟨rfl, HF.out⟩
theorem reads_anyC (la : Option Addr) (ll lcap : Nat) (bs : List Int) (w : World) (ht : TxtAt w (.slice la ll lcap) bs) (hE : ErrAt w) (hN : CmdNamesAt w) : Calls Tryd.prog 4 #[.slice la ll lcap] w fun e w' => e = .returned (.bool true) ∧ Below w.heap.size w w' := by
  by_cases hl : ll ≤ 500
  · have hby : ∀ x ∈ bs, 0 ≤ x ∧ x ≤ 255 := by
      intro x hx
      rcases ht with ⟨b, o, c, _, _, hr⟩ | ⟨rfl, _⟩
      · obtain ⟨k, hk, rfl⟩ := List.mem_iff_getElem.1 hx
        have h1 := hr.lo k hk
        have h2 := hr.hi k hk
        simp [List.getD, List.getElem?_eq_getElem hk] at h1 h2
        exact ⟨h1, h2⟩
      · cases hx
    refine reads_walkC la ll lcap bs w ht hl ?_ hby hE hN
    unfold gotC
    split
    · exact (readB_back hby (by assumption)).2.1
    · exact zeros_cmd
  · exact reads_longC la ll lcap hl w
end Go.Proofs.YtlejicmpefdhpaaDoor
