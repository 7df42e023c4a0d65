/- The law CmdAlters of layer 22, walked. Its conditions: errors.errorType and cmd.names read as the program's text lays them. -/
import Derived.Test.YtlejicmpefdhpaaDoorCmdO
namespace Go.Proofs.YtlejicmpefdhpaaDoor
set_option linter.unusedVariables false
open Go.ChangeShapes Go.WideShapes Go.ChangeAt Go.RowKit
attribute [local go_sem ↓] Go.wp_at_zero Go.wp_at_succ comesTo_value_eq comesTo_skip_eq comesTo_enter_eq Rl.comesToR_value_eq Rl.comesToR_skip_eq Rl.comesToR_enter_eq

theorem set0_cmd {a : List Int} (h : Cmd12 a) {k : Int} (hk : -9223372036854775808 ≤ k ∧ k ≤ 9223372036854775807) : Cmd12 (a.set 0 k) ∧ cmdC (a.set 0 k) = (cmdC a).set 0 (.int .i64 k) := by
  obtain ⟨x0, x1, x2, x3, x4, x5, x6, x7, x8, x9, x10, x11, rfl⟩ := twelve h.len
  refine ⟨⟨rfl, h.last, fun x hx => ?_⟩, rfl⟩
  rcases List.mem_cons.1 hx with rfl | hx
  · exact hk
  · exact h.inb x (List.mem_cons_of_mem _ hx)
theorem clean_no {xs : List Int} (h : kindB xs = false) : cleanL xs = List.replicate 12 0 := by unfold cleanL; rw [h, if_neg (by decide)]
theorem put_clean (xs : List Int) : putC (cleanL xs) = putC xs := by unfold putC; rw [clean_clean]
set_option maxRecDepth 100000 in
set_option maxHeartbeats 2000000 in
theorem alters_any {a b : List Int} (ha : Cmd12 a) (hb : Cmd12 b) (w : World) (hE : ErrAt w) (hN : CmdNamesAt w) : Calls Tryd.prog 8 #[.agg (cmdC a).toArray, .agg (cmdC b).toArray] w fun e w' => e = .returned (.bool true) ∧ Below w.heap.size w w' := by
  have hmx : Tryd.prog.follows .mixedOrders = true := by kernel_rfl
  have hca := cleanL_cmd ha
  have hcb := cleanL_cmd hb
  have hz := set0_cmd hca (getD_inb hb.inb 0)
  have hcz := cleanL_cmd hz.1
  have hi24 : ∀ {l : List Value}, l.length = 12 → (Tryd.prog.info? 24).map (·.size) = some l.length := fun h => by rw [h]; kernel_rfl
  have HE := Lib.hid hE
  have HN := Lib.hid hN
  have KCA := Lib.hid (fun W => clean_c ha W)
  have KCB := Lib.hid (fun W => clean_c hb W)
  have KCZ := Lib.hid (fun W => clean_c hz.1 W)
  have KCC := Lib.hid (fun W => clean_c hcz W)
  have KPA := Lib.hid (fun W => put_c ha W)
  have KPB := Lib.hid (fun W => put_c hb W)
  have KPC := Lib.hid (fun W => put_c hca W)
  have KRA := Lib.hid (fun W => right_c ha W)
  have KRC := Lib.hid (fun W => right_c hca W)
  rw [clean_clean] at KCC
  rw [right_clean] at KRC
  rw [put_clean] at KPC
  have EAB := Lib.hid (fun W => eqinC hca hcb W)
  have EZZ := Lib.hid (fun W => eqinC hcz hcz W)
  rw [show (cleanL ((cleanL a).set 0 (b.getD 0 0)) == cleanL ((cleanL a).set 0 (b.getD 0 0))) = true from beq_self_eq_true _] at EZZ
  have hsame : ((strOfNums (putC a)).toList == (strOfNums (putC b)).toList) = (cleanL a == cleanL b) := by
    by_cases h : cleanL a = cleanL b
    · have : putC a = putC b := by unfold putC; rw [h]
      rw [this, h]; simp
    · have h1 : ¬ (strOfNums (putC a)).toList = (strOfNums (putC b)).toList := fun e => h (putC_inj ha hb (strOf_inj (putC_mem a) (putC_mem b) (bytes_inj e)))
      rw [beq_eq_false_iff_ne.2 h1, beq_eq_false_iff_ne.2 h]
  have hkz : (cleanL ((cleanL a).set 0 (b.getD 0 0))).getD 0 0 = b.getD 0 0 ∨ ((cleanL ((cleanL a).set 0 (b.getD 0 0))).getD 0 0 == b.getD 0 0) = false ∧ cleanL ((cleanL a).set 0 (b.getD 0 0)) = List.replicate 12 0 := by
    have hs : ((cleanL a).set 0 (b.getD 0 0)).getD 0 0 = b.getD 0 0 := by
      obtain ⟨x0, x1, x2, x3, x4, x5, x6, x7, x8, x9, x10, x11, e⟩ := twelve (cleanL_len a)
      rw [e]; rfl
    by_cases h : (cleanL ((cleanL a).set 0 (b.getD 0 0))).getD 0 0 = b.getD 0 0
    · exact .inl h
    · refine .inr ⟨beq_eq_false_iff_ne.2 h, ?_⟩
      have h2 := kindB_clean ((cleanL a).set 0 (b.getD 0 0))
      cases hk : kindB ((cleanL a).set 0 (b.getD 0 0)) with
      | true => rw [hk, if_pos rfl, hs] at h2; exact absurd h2 h
      | false => exact clean_no hk
  have HSM := Lib.hid hsame
  have HKZ := Lib.hid hkz
  have HI1 := Lib.hid (hi24 (cmdC_len ha.len))
  have HI2 := Lib.hid (hi24 (cmdC_len hb.len))
  have HIC := Lib.hid (hi24 (cmdC_len hca.len))
  have HIZ := Lib.hid (hi24 (cmdC_len hz.1.len))
  have HIY := Lib.hid (hi24 (cmdC_len hcz.len))
  have HLC := Lib.hid (cmdC_len hca.len)
  have HLY := Lib.hid (cmdC_len hcz.len)
  have HOC := Lib.hid (cmdC_one (cleanL a))
  have HOY := Lib.hid (cmdC_one (cleanL ((cleanL a).set 0 (b.getD 0 0))))
  have HKB := Lib.hid (show (cmdC b).toArray[0]? = some (.int .i64 (b.getD 0 0)) by simpa using cmdC_kind hb.len)
  have HKY := Lib.hid (show (cmdC (cleanL ((cleanL a).set 0 (b.getD 0 0)))).toArray[0]? = some (.int .i64 ((cleanL ((cleanL a).set 0 (b.getD 0 0))).getD 0 0)) by simpa using cmdC_kind hcz.len)
  have HKC := Lib.hid (show (cmdC (cleanL a)).toArray[0]? = some (.int .i64 ((cleanL a).getD 0 0)) by simpa using cmdC_kind hca.len)
  have HSET := Lib.hid hz.2
  have HZ0 := Lib.hid (show cleanL ((cleanL a).set 0 (b.getD 0 0)) = List.replicate 12 0 → cmdC (cleanL ((cleanL a).set 0 (b.getD 0 0))) = cmdC (List.replicate 12 0) from fun h => by rw [h])
  generalize hsa : strOfNums (putC a) = sa at *
  generalize hsb : strOfNums (putC b) = sb at *
  have HS_sa := Lib.hid hsa
  have HS_sb := Lib.hid hsb
  generalize (cleanL a == cleanL b) = same at *
  generalize rightL a = ri at *
  generalize hp1 : putC a = pa at *
  generalize hp2 : putC b = pb at *
  generalize hl1 : cmdC a = l1 at *
  generalize hl2 : cmdC b = l2 at *
  generalize hl3 : cmdC (cleanL a) = lc at *
  generalize hl4 : cmdC (cleanL b) = ld at *
  generalize hl5 : cmdC (cleanL ((cleanL a).set 0 (b.getD 0 0))) = ly at *
  generalize hl6 : cmdC ((cleanL a).set 0 (b.getD 0 0)) = lz at *
  generalize (cleanL ((cleanL a).set 0 (b.getD 0 0))).getD 0 0 = kz at *
  generalize cleanL ((cleanL a).set 0 (b.getD 0 0)) = zs at *
  generalize b.getD 0 0 = kb at *
  generalize (cleanL a).getD 0 0 = ka at *
  clear hca hcb hz hcz hi24 hE hN hsame hkz hsa hsb hp1 hp2 hl1 hl2 hl3 hl4 hl5 hl6 ha hb
  go_enter Tryd.func8, Tryd.ntmps8
  go_upto_region 1 with fail
  have hA1 := below_alloc (Below.refl _ w) (.cells l1.toArray 24)
  have hN1 := World.alloc_heap_new w (.cells l1.toArray 24)
  have hs1 : (w.alloc (.cells l1.toArray 24)).heap.size = w.heap.size + 1 := by simp
  generalize w.alloc (.cells l1.toArray 24) = wa at *
  have hA2 := below_alloc (Below.refl _ wa) (.cells l2.toArray 24)
  have hN2 := World.alloc_heap_new wa (.cells l2.toArray 24)
  rw [hs1] at hN2
  have hs2 : (wa.alloc (.cells l2.toArray 24)).heap.size = w.heap.size + 2 := by simp [hs1]
  have HB := Lib.hid (below_next hA1 hA2)
  have hM1 := (hA2.block w.heap.size (by omega)).trans hN1
  try rw [hs1]
  generalize wa.alloc (.cells l2.toArray 24) = U at *
  have HS1 := Lib.hid hs1
  have HS2 := Lib.hid hs2
  have HM1 := Lib.hid hM1
  have HM2 := Lib.hid hN2
  clear hA1 hN1 hA2 hN2 hM1 hs1 hs2
  refine wp_region_lit ?_
  refine wpList_load_all rfl 24 _ rfl w.heap.size l1 _ (by go_simp) HM1.out Tryd.underlying24 rfl HI1.out ?_
  refine wpList_enter rfl (by go_simp) (KCA.out U) ?_
  rintro e w2 ⟨rfl, hb2⟩
  refine ⟨_, rfl, ?_⟩
  refine wpList_yield (w' := w2.alloc (.cells #[.int .i64 0, .int .i64 0, .int .i64 0, .int .i64 0, .int .i64 0, .int .i64 0, .int .i64 0, .int .i64 0, .int .i64 0, .int .i64 0, .int .i64 0, .bool false] 24)) (v := .pointer (some ⟨w2.heap.size, 0, none⟩)) rfl (by go_simp) ?_
  refine wpList_store_all rfl 24 _ _ rfl w2.heap.size (cs := #[.int .i64 0, .int .i64 0, .int .i64 0, .int .i64 0, .int .i64 0, .int .i64 0, .int .i64 0, .int .i64 0, .int .i64 0, .int .i64 0, .int .i64 0, .bool false]) (T := 24) lc (by go_simp) (by go_simp) (World.alloc_heap_new _ _) (by rw [HLC.out]; rfl) HIC.out HOC.out ?_
  intro w3 hw3
  have hb3 := hw3.below (below_alloc (Below.refl _ w2) _) (Nat.le_refl _)
  have hb23 := below_next hb2 hb3
  have HB3 := Lib.hid (below_next HB.out hb23)
  have HM13 := Lib.hid ((hb23.block _ (by have := HS2.out; omega)).trans HM1.out)
  have HM23 := Lib.hid ((hb23.block _ (by have := HS2.out; omega)).trans HM2.out)
  have HM33 := Lib.hid hw3.there
  have HP := Lib.hid (show w.heap.size + 2 ≤ w2.heap.size by have := hb2.size; have := HS2.out; omega)
  clear hw3 hb3 hb2 hb23
  generalize w2.heap.size = p at *
  have HL1 := Lib.hid (fun (W : World) (h : Below w3.heap.size w3 W) => (h.block _ (Array.getElem?_eq_some_iff.1 HM13.out).1).trans HM13.out)
  have HL2 := Lib.hid (fun (W : World) (h : Below w3.heap.size w3 W) => (h.block _ (Array.getElem?_eq_some_iff.1 HM23.out).1).trans HM23.out)
  have HL3 := Lib.hid (fun (W : World) (h : Below w3.heap.size w3 W) => (h.block _ (Array.getElem?_eq_some_iff.1 HM33.out).1).trans HM33.out)
  go_upto_region 2 with fail
  refine Rl.wp_region_rel (fun a b => Below a.heap.size a b) w3 (fun a b c h h' => below_next h h') (fun a => Below.refl _ _) hmx (by kernel_rfl) (Below.refl _ _).drew ?_
  refine Rl.textR_run (.agg l1.toArray) (fun ρ => ?_) (fun ρ W hS hd => ?_) ?_
  · go_simp
  · exact Rl.comesToR_load 24 _ rfl w.heap.size (by go_simp) _ _ (HL1.out W hS) Tryd.underlying24 rfl HI1.out ⟨rfl, Below.refl _ _⟩
  (try go_simp)
  refine Rl.textR_rel 12 (fun v w => TxtAt w v (pa)) rfl (fun v w w' hg h => h.below hg) (fun ρ => ?_) (fun ρ W hS hd => ?_) ?_
  · go_simp
  · go_simp
    refine (KPA.out W).mono ?_
    rintro e w1 ⟨u, rfl, ho, hb⟩
    exact ⟨u, rfl, ho.at, hb⟩
  (try go_simp)
  refine Rl.textR_run (.string sa) (fun ρ => ?_) (fun ρ W hS hd => ?_) ?_
  · go_simp
  · have hcv := txt_conv (hd (12, fun v w => TxtAt w v (pa)) (by first | exact List.mem_cons_self | (simp; done)) (show (12 : Nat) ∈ _ by decide)) W (Below.refl _ _)
    rw [show strOfNums (pa) = sa from HS_sa.out] at hcv
    simp only at hcv
    go_simp
    first | exact ⟨rfl, Below.refl _ _⟩ | exact Below.refl _ _
  (try go_simp)
  refine Rl.textR_run (.agg l2.toArray) (fun ρ => ?_) (fun ρ W hS hd => ?_) ?_
  · go_simp
  · exact Rl.comesToR_load 24 _ rfl (w.heap.size + 1) (by go_simp) _ _ (HL2.out W hS) Tryd.underlying24 rfl HI2.out ⟨rfl, Below.refl _ _⟩
  (try go_simp)
  refine Rl.textR_rel 15 (fun v w => TxtAt w v (pb)) rfl (fun v w w' hg h => h.below hg) (fun ρ => ?_) (fun ρ W hS hd => ?_) ?_
  · go_simp
  · go_simp
    refine (KPB.out W).mono ?_
    rintro e w1 ⟨u, rfl, ho, hb⟩
    exact ⟨u, rfl, ho.at, hb⟩
  (try go_simp)
  refine Rl.textR_run (.string sb) (fun ρ => ?_) (fun ρ W hS hd => ?_) ?_
  · go_simp
  · have hcv := txt_conv (hd (15, fun v w => TxtAt w v (pb)) (by first | exact List.mem_cons_self | (simp; done)) (show (15 : Nat) ∈ _ by decide)) W (Below.refl _ _)
    rw [show strOfNums (pb) = sb from HS_sb.out] at hcv
    simp only at hcv
    go_simp
    first | exact ⟨rfl, Below.refl _ _⟩ | exact Below.refl _ _
  (try go_simp)
  (refine Rl.textR_run ?_ (fun ρ => ?_) (fun ρ W hS hd => ?_) ?_; rotate_left; (focus go_simp); (focus (have hfact := HSM.out; go_simp; first | exact ⟨rfl, Below.refl _ _⟩ | (refine ⟨?_, Below.refl _ _⟩; rfl))); (try go_simp))
  (refine Rl.textR_run ?_ (fun ρ => ?_) (fun ρ W hS hd => ?_) ?_; rotate_left; (focus go_simp); (focus (obtain ⟨hc, hf⟩ := bcell hS; go_simp; first | exact ⟨rfl, Below.refl _ _⟩ | (refine ⟨?_, Below.refl _ _⟩; rfl))); (try go_simp))
  refine Rl.textR_nil ?_
  intro ρ w4 hg hk
  have HG := Lib.hid hg
  clear hg hk
  dsimp only
  generalize ρ 12 = z1
  generalize ρ 15 = z2
  clear ρ
  go_upto_region 3 with fail
  have HL1' := Lib.hid (fun (W : World) (h : Below w4.heap.size w4 W) => HL1.out W (below_next HG.out h))
  have HL2' := Lib.hid (fun (W : World) (h : Below w4.heap.size w4 W) => HL2.out W (below_next HG.out h))
  have HL3' := Lib.hid (fun (W : World) (h : Below w4.heap.size w4 W) => HL3.out W (below_next HG.out h))
  refine Rl.wp_region_rel (fun a b => Below a.heap.size a b) w4 (fun a b c h h' => below_next h h') (fun a => Below.refl _ _) hmx (by kernel_rfl) (Below.refl _ _).drew ?_
  refine Rl.textR_run (.agg lc.toArray) (fun ρ => ?_) (fun ρ W hS hd => ?_) ?_
  · go_simp
  · exact Rl.comesToR_load 24 _ rfl p (by go_simp) _ _ (HL3'.out W hS) Tryd.underlying24 rfl HIC.out ⟨rfl, Below.refl _ _⟩
  (try go_simp)
  refine Rl.textR_rel 19 (fun v w => TxtAt w v (pa)) rfl (fun v w w' hg h => h.below hg) (fun ρ => ?_) (fun ρ W hS hd => ?_) ?_
  · go_simp
  · go_simp
    refine (KPC.out W).mono ?_
    rintro e w1 ⟨u, rfl, ho, hb⟩
    exact ⟨u, rfl, ho.at, hb⟩
  (try go_simp)
  refine Rl.textR_run (.string sa) (fun ρ => ?_) (fun ρ W hS hd => ?_) ?_
  · go_simp
  · have hcv := txt_conv (hd (19, fun v w => TxtAt w v (pa)) (by first | exact List.mem_cons_self | (simp; done)) (show (19 : Nat) ∈ _ by decide)) W (Below.refl _ _)
    rw [show strOfNums (pa) = sa from HS_sa.out] at hcv
    simp only at hcv
    go_simp
    first | exact ⟨rfl, Below.refl _ _⟩ | exact Below.refl _ _
  (try go_simp)
  refine Rl.textR_run (.agg l1.toArray) (fun ρ => ?_) (fun ρ W hS hd => ?_) ?_
  · go_simp
  · exact Rl.comesToR_load 24 _ rfl w.heap.size (by go_simp) _ _ (HL1'.out W hS) Tryd.underlying24 rfl HI1.out ⟨rfl, Below.refl _ _⟩
  (try go_simp)
  refine Rl.textR_rel 22 (fun v w => TxtAt w v (pa)) rfl (fun v w w' hg h => h.below hg) (fun ρ => ?_) (fun ρ W hS hd => ?_) ?_
  · go_simp
  · go_simp
    refine (KPA.out W).mono ?_
    rintro e w1 ⟨u, rfl, ho, hb⟩
    exact ⟨u, rfl, ho.at, hb⟩
  (try go_simp)
  refine Rl.textR_run (.string sa) (fun ρ => ?_) (fun ρ W hS hd => ?_) ?_
  · go_simp
  · have hcv := txt_conv (hd (22, fun v w => TxtAt w v (pa)) (by first | exact List.mem_cons_self | (simp; done)) (show (22 : Nat) ∈ _ by decide)) W (Below.refl _ _)
    rw [show strOfNums (pa) = sa from HS_sa.out] at hcv
    simp only at hcv
    go_simp
    first | exact ⟨rfl, Below.refl _ _⟩ | exact Below.refl _ _
  (try go_simp)
  iterate 2 (refine Rl.textR_run ?_ (fun ρ => ?_) (fun ρ W hS hd => ?_) ?_; rotate_left; (focus go_simp); (focus (obtain ⟨hc, hf⟩ := bcell hS; go_simp; first | exact ⟨rfl, Below.refl _ _⟩ | (refine ⟨?_, Below.refl _ _⟩; rfl))); (try go_simp))
  refine Rl.textR_run (.agg lc.toArray) (fun ρ => ?_) (fun ρ W hS hd => ?_) ?_
  · go_simp
  · exact Rl.comesToR_load 24 _ rfl p (by go_simp) _ _ (HL3'.out W hS) Tryd.underlying24 rfl HIC.out ⟨rfl, Below.refl _ _⟩
  (try go_simp)
  (refine Rl.textR_run ?_ (fun ρ => ?_) (fun ρ W hS hd => ?_) ?_; rotate_left; (focus go_simp); (focus (obtain ⟨hc, hf⟩ := bcell hS; go_simp; refine (KRC.out W).mono ?_; rintro e w1 ⟨rfl, hb⟩; refine ⟨_, rfl, ?_, hb⟩; rfl)); (try go_simp))
  refine Rl.textR_run (.agg l1.toArray) (fun ρ => ?_) (fun ρ W hS hd => ?_) ?_
  · go_simp
  · exact Rl.comesToR_load 24 _ rfl w.heap.size (by go_simp) _ _ (HL1'.out W hS) Tryd.underlying24 rfl HI1.out ⟨rfl, Below.refl _ _⟩
  (try go_simp)
  (refine Rl.textR_run ?_ (fun ρ => ?_) (fun ρ W hS hd => ?_) ?_; rotate_left; (focus go_simp); (focus (obtain ⟨hc, hf⟩ := bcell hS; go_simp; refine (KRA.out W).mono ?_; rintro e w1 ⟨rfl, hb⟩; refine ⟨_, rfl, ?_, hb⟩; rfl)); (try go_simp))
  iterate 4 (refine Rl.textR_run ?_ (fun ρ => ?_) (fun ρ W hS hd => ?_) ?_; rotate_left; (focus go_simp); (focus (obtain ⟨hc, hf⟩ := bcell hS; go_simp; first | exact ⟨rfl, Below.refl _ _⟩ | (refine ⟨?_, Below.refl _ _⟩; rfl))); (try go_simp))
  refine Rl.textR_run (.agg lc.toArray) (fun ρ => ?_) (fun ρ W hS hd => ?_) ?_
  · go_simp
  · exact Rl.comesToR_load 24 _ rfl p (by go_simp) _ _ (HL3'.out W hS) Tryd.underlying24 rfl HIC.out ⟨rfl, Below.refl _ _⟩
  (try go_simp)
  refine Rl.textR_run (.agg l2.toArray) (fun ρ => ?_) (fun ρ W hS hd => ?_) ?_
  · go_simp
  · exact Rl.comesToR_load 24 _ rfl (w.heap.size + 1) (by go_simp) _ _ (HL2'.out W hS) Tryd.underlying24 rfl HI2.out ⟨rfl, Below.refl _ _⟩
  (try go_simp)
  (refine Rl.textR_run ?_ (fun ρ => ?_) (fun ρ W hS hd => ?_) ?_; rotate_left; (focus go_simp); (focus (obtain ⟨hc, hf⟩ := bcell hS; go_simp; refine (KCB.out W).mono ?_; rintro e w1 ⟨rfl, hb⟩; refine ⟨_, rfl, ?_, hb⟩; rfl)); (try go_simp))
  refine Rl.textR_run (.bool same) (fun ρ => ?_) (fun ρ W hS hd => ?_) ?_
  · go_simp
  · exact Rl.comesToR_eql 24 _ _ _ rfl _ _ (by go_simp) (by go_simp) (by kernel_rfl) (EAB.out W) ⟨rfl, Below.refl _ _⟩
  (try go_simp)
  iterate 2 (refine Rl.textR_run ?_ (fun ρ => ?_) (fun ρ W hS hd => ?_) ?_; rotate_left; (focus go_simp); (focus (obtain ⟨hc, hf⟩ := bcell hS; go_simp; first | exact ⟨rfl, Below.refl _ _⟩ | (refine ⟨?_, Below.refl _ _⟩; rfl))); (try go_simp))
  refine Rl.textR_nil ?_
  intro ρ w5 hg hk
  have HB5 := Lib.hid (below_next HB3.out (below_next HG.out hg))
  have HM35 := Lib.hid (HL3'.out w5 hg)
  have HM25 := Lib.hid (HL2'.out w5 hg)
  clear hg hk HL1 HL2 HL3 HL1' HL2' HL3'
  dsimp only
  generalize ρ 19 = z3
  generalize ρ 22 = z4
  clear ρ
  go_upto_region 5 with fail
  refine wp_region_lit ?_
  refine wpList_load_all rfl 24 _ rfl p lc _ (by go_simp) HM35.out Tryd.underlying24 rfl HIC.out ?_
  refine wpList_yield (w' := w5.alloc (.cells #[.int .i64 0, .int .i64 0, .int .i64 0, .int .i64 0, .int .i64 0, .int .i64 0, .int .i64 0, .int .i64 0, .int .i64 0, .int .i64 0, .int .i64 0, .bool false] 24)) (v := .pointer (some ⟨w5.heap.size, 0, none⟩)) rfl (by go_simp) ?_
  refine wpList_store_all rfl 24 _ _ rfl w5.heap.size (cs := #[.int .i64 0, .int .i64 0, .int .i64 0, .int .i64 0, .int .i64 0, .int .i64 0, .int .i64 0, .int .i64 0, .int .i64 0, .int .i64 0, .int .i64 0, .bool false]) (T := 24) lc (by go_simp) (by go_simp) (World.alloc_heap_new _ _) (by rw [HLC.out]; rfl) HIC.out HOC.out ?_
  intro w6 hw6
  have hb6 := hw6.below (below_alloc (Below.refl _ w5) _) (Nat.le_refl _)
  have HB6 := Lib.hid (below_next HB5.out hb6)
  have HM26 := Lib.hid ((hb6.block _ (Array.getElem?_eq_some_iff.1 HM25.out).1).trans HM25.out)
  have HM46 := Lib.hid hw6.there
  have hl5 : w.heap.size + 1 < w5.heap.size := (Array.getElem?_eq_some_iff.1 HM25.out).1
  have HL5 := Lib.hid hl5
  clear hw6 hb6 hl5
  generalize w5.heap.size = q at *
  have hW7 := (wrote_refl HM46.out).set 0 (.int .i64 kb)
  rw [show lc.toArray.setIfInBounds 0 (.int .i64 kb) = lz.toArray by rw [HSET.out]; simp] at hW7
  have HW7 := Lib.hid hW7
  have c2 := cell_of_block (o := 0) HM26.out HKB.out
  have c4 := cell_of_block (o := 0) HM46.out HKC.out
  have f4 := free_of_block 0 HM46.out
  clear hW7
  go_upto_region 7 with fail
  have HB7 := Lib.hid (HW7.out.below HB6.out (by have := HL5.out; omega))
  have HM27 := Lib.hid ((HW7.out.rest (w.heap.size + 1) (by have := HL5.out; omega)).trans HM26.out)
  have HM47 := Lib.hid HW7.out.there
  clear c2 c4 f4
  generalize w6.setCell ⟨q, 0, none⟩ (.int .i64 kb) = w7 at *
  refine wp_region_lit ?_
  refine wpList_load_all rfl 24 _ rfl q lz _ (by go_simp) HM47.out Tryd.underlying24 rfl HIZ.out ?_
  refine wpList_enter rfl (by go_simp) (KCZ.out w7) ?_
  rintro e w8 ⟨rfl, hb8⟩
  refine ⟨_, rfl, ?_⟩
  refine wpList_yield (w' := w8.alloc (.cells #[.int .i64 0, .int .i64 0, .int .i64 0, .int .i64 0, .int .i64 0, .int .i64 0, .int .i64 0, .int .i64 0, .int .i64 0, .int .i64 0, .int .i64 0, .bool false] 24)) (v := .pointer (some ⟨w8.heap.size, 0, none⟩)) rfl (by go_simp) ?_
  refine wpList_store_all rfl 24 _ _ rfl w8.heap.size (cs := #[.int .i64 0, .int .i64 0, .int .i64 0, .int .i64 0, .int .i64 0, .int .i64 0, .int .i64 0, .int .i64 0, .int .i64 0, .int .i64 0, .int .i64 0, .bool false]) (T := 24) ly (by go_simp) (by go_simp) (World.alloc_heap_new _ _) (by rw [HLY.out]; rfl) HIY.out HOY.out ?_
  intro w9 hw9
  have hb9 := below_next hb8 (hw9.below (below_alloc (Below.refl _ w8) _) (Nat.le_refl _))
  have HB9 := Lib.hid (below_next HB7.out hb9)
  have HM29 := Lib.hid ((hb9.block _ (Array.getElem?_eq_some_iff.1 HM27.out).1).trans HM27.out)
  have HM99 := Lib.hid hw9.there
  clear hw9 hb8 hb9
  generalize w8.heap.size = r at *
  have HL2 := Lib.hid (fun (W : World) (h : Below w9.heap.size w9 W) => (h.block _ (Array.getElem?_eq_some_iff.1 HM29.out).1).trans HM29.out)
  have HL9 := Lib.hid (fun (W : World) (h : Below w9.heap.size w9 W) => (h.block _ (Array.getElem?_eq_some_iff.1 HM99.out).1).trans HM99.out)
  have KO := Lib.hid (fun (W : World) (h : Below w9.heap.size w9 W) => cmd_one W (HE.out.below (below_next HB9.out h)) (HN.out.below (below_next HB9.out h)))
  have HX2 := Lib.hid (fun (W : World) (h : Below w9.heap.size w9 W) => cell_of_block (o := 0) (HL2.out W h) HKB.out)
  have HX9 := Lib.hid (fun (W : World) (h : Below w9.heap.size w9 W) => cell_of_block (o := 0) (HL9.out W h) HKY.out)
  go_upto_region 8 with fail
  rcases HKZ.out with hk | ⟨hk, hzz⟩
  · subst hk
    refine Rl.wp_region_rel (fun a b => Below a.heap.size a b) w9 (fun a b c h h' => below_next h h') (fun a => Below.refl _ _) hmx (by kernel_rfl) (Below.refl _ _).drew ?_
    (refine Rl.textR_run ?_ (fun ρ => ?_) (fun ρ W hS hd => ?_) ?_; rotate_left; (focus go_simp); (focus (obtain ⟨hc, hf⟩ := bcell hS; go_simp; first | exact ⟨rfl, Below.refl _ _⟩ | (refine ⟨?_, Below.refl _ _⟩; rfl))); (try go_simp))
    (refine Rl.textR_run ?_ (fun ρ => ?_) (fun ρ W hS hd => ?_) ?_; rotate_left; (focus go_simp); (focus (have hfact := HX9.out W hS; go_simp; first | exact ⟨rfl, Below.refl _ _⟩ | (refine ⟨?_, Below.refl _ _⟩; rfl))); (try go_simp))
    (refine Rl.textR_run ?_ (fun ρ => ?_) (fun ρ W hS hd => ?_) ?_; rotate_left; (focus go_simp); (focus (obtain ⟨hc, hf⟩ := bcell hS; go_simp; first | exact ⟨rfl, Below.refl _ _⟩ | (refine ⟨?_, Below.refl _ _⟩; rfl))); (try go_simp))
    (refine Rl.textR_run ?_ (fun ρ => ?_) (fun ρ W hS hd => ?_) ?_; rotate_left; (focus go_simp); (focus (have hfact := HX2.out W hS; go_simp; first | exact ⟨rfl, Below.refl _ _⟩ | (refine ⟨?_, Below.refl _ _⟩; rfl))); (try go_simp))
    iterate 2 (refine Rl.textR_run ?_ (fun ρ => ?_) (fun ρ W hS hd => ?_) ?_; rotate_left; (focus go_simp); (focus (obtain ⟨hc, hf⟩ := bcell hS; go_simp; first | exact ⟨rfl, Below.refl _ _⟩ | (refine ⟨?_, Below.refl _ _⟩; rfl))); (try go_simp))
    iterate 3 (refine Rl.textR_skip (fun ρ => ?_) ?_; (focus (first | rfl | (go_simp; done) | (go_simp; rfl))); (try go_simp))
    iterate 2 (refine Rl.textR_run ?_ (fun ρ => ?_) (fun ρ W hS hd => ?_) ?_; rotate_left; (focus go_simp); (focus (obtain ⟨hc, hf⟩ := bcell hS; go_simp; first | exact ⟨rfl, Below.refl _ _⟩ | (refine ⟨?_, Below.refl _ _⟩; rfl))); (try go_simp))
    refine Rl.textR_run (.agg ly.toArray) (fun ρ => ?_) (fun ρ W hS hd => ?_) ?_
    · go_simp
    · exact Rl.comesToR_load 24 _ rfl r (by go_simp) _ _ (HL9.out W hS) Tryd.underlying24 rfl HIY.out ⟨rfl, Below.refl _ _⟩
    (try go_simp)
    (refine Rl.textR_run ?_ (fun ρ => ?_) (fun ρ W hS hd => ?_) ?_; rotate_left; (focus go_simp); (focus (obtain ⟨hc, hf⟩ := bcell hS; go_simp; refine (KCC.out W).mono ?_; rintro e w1 ⟨rfl, hb⟩; refine ⟨_, rfl, ?_, hb⟩; rfl)); (try go_simp))
    refine Rl.textR_run (.agg ly.toArray) (fun ρ => ?_) (fun ρ W hS hd => ?_) ?_
    · go_simp
    · exact Rl.comesToR_load 24 _ rfl r (by go_simp) _ _ (HL9.out W hS) Tryd.underlying24 rfl HIY.out ⟨rfl, Below.refl _ _⟩
    (try go_simp)
    refine Rl.textR_run (.bool true) (fun ρ => ?_) (fun ρ W hS hd => ?_) ?_
    · go_simp
    · exact Rl.comesToR_eql 24 _ _ _ rfl _ _ (by go_simp) (by go_simp) (by kernel_rfl) (EZZ.out W) ⟨rfl, Below.refl _ _⟩
    (try go_simp)
    iterate 2 (refine Rl.textR_run ?_ (fun ρ => ?_) (fun ρ W hS hd => ?_) ?_; rotate_left; (focus go_simp); (focus (obtain ⟨hc, hf⟩ := bcell hS; go_simp; first | exact ⟨rfl, Below.refl _ _⟩ | (refine ⟨?_, Below.refl _ _⟩; rfl))); (try go_simp))
    (refine Rl.textR_run ?_ (fun ρ => ?_) (fun ρ W hS hd => ?_) ?_; rotate_left; (focus go_simp); (focus (obtain ⟨hc, hf⟩ := bcell hS; go_simp; refine (KO.out W hS).mono ?_; rintro e w1 ⟨rfl, hb⟩; refine ⟨_, rfl, ?_, hb⟩; rfl)); (try go_simp))
    iterate 2 (refine Rl.textR_run ?_ (fun ρ => ?_) (fun ρ W hS hd => ?_) ?_; rotate_left; (focus go_simp); (focus (obtain ⟨hc, hf⟩ := bcell hS; go_simp; first | exact ⟨rfl, Below.refl _ _⟩ | (refine ⟨?_, Below.refl _ _⟩; rfl))); (try go_simp))
    refine Rl.textR_nil ?_
    intro ρ w10 hg hk
    have HF := Lib.hid (below_next HB9.out hg)
    clear hg hk
    dsimp only
    clear ρ
    go_wp2_with fail
    go_ret
    exact ⟨rfl, HF.out⟩
  · have HLZ := Lib.hid (HZ0.out hzz)
    have hkn : ¬ kz = kb := by simpa using hk
    clear hzz
    refine Rl.wp_region_rel (fun a b => Below a.heap.size a b) w9 (fun a b c h h' => below_next h h') (fun a => Below.refl _ _) hmx (by kernel_rfl) (Below.refl _ _).drew ?_
    (refine Rl.textR_run ?_ (fun ρ => ?_) (fun ρ W hS hd => ?_) ?_; rotate_left; (focus go_simp); (focus (obtain ⟨hc, hf⟩ := bcell hS; go_simp; first | exact ⟨rfl, Below.refl _ _⟩ | (refine ⟨?_, Below.refl _ _⟩; rfl))); (try go_simp))
    (refine Rl.textR_run ?_ (fun ρ => ?_) (fun ρ W hS hd => ?_) ?_; rotate_left; (focus go_simp); (focus (have hfact := HX9.out W hS; go_simp; first | exact ⟨rfl, Below.refl _ _⟩ | (refine ⟨?_, Below.refl _ _⟩; rfl))); (try go_simp))
    (refine Rl.textR_run ?_ (fun ρ => ?_) (fun ρ W hS hd => ?_) ?_; rotate_left; (focus go_simp); (focus (obtain ⟨hc, hf⟩ := bcell hS; go_simp; first | exact ⟨rfl, Below.refl _ _⟩ | (refine ⟨?_, Below.refl _ _⟩; rfl))); (try go_simp))
    (refine Rl.textR_run ?_ (fun ρ => ?_) (fun ρ W hS hd => ?_) ?_; rotate_left; (focus go_simp); (focus (have hfact := HX2.out W hS; go_simp; first | exact ⟨rfl, Below.refl _ _⟩ | (refine ⟨?_, Below.refl _ _⟩; rfl))); (try go_simp))
    iterate 2 (refine Rl.textR_run ?_ (fun ρ => ?_) (fun ρ W hS hd => ?_) ?_; rotate_left; (focus go_simp); (focus (obtain ⟨hc, hf⟩ := bcell hS; go_simp; first | exact ⟨rfl, Below.refl _ _⟩ | (refine ⟨?_, Below.refl _ _⟩; rfl))); (try go_simp))
    refine Rl.textR_run (.agg ly.toArray) (fun ρ => ?_) (fun ρ W hS hd => ?_) ?_
    · go_simp
    · exact Rl.comesToR_load 24 _ rfl r (by go_simp) _ _ (HL9.out W hS) Tryd.underlying24 rfl HIY.out ⟨rfl, Below.refl _ _⟩
    (try go_simp)
    refine Rl.textR_run (.agg ly.toArray) (fun ρ => ?_) (fun ρ W hS hd => ?_) ?_
    · go_simp
    · exact Rl.comesToR_ok (by rw [HLZ.out]; go_simp; rfl) ⟨rfl, Below.refl _ _⟩
    (try go_simp)
    refine Rl.textR_run (.bool true) (fun ρ => ?_) (fun ρ W hS hd => ?_) ?_
    · go_simp
    · exact Rl.comesToR_eql 24 _ _ _ rfl _ _ (by go_simp) (by go_simp) (by kernel_rfl) (EZZ.out W) ⟨rfl, Below.refl _ _⟩
    (try go_simp)
    iterate 2 (refine Rl.textR_run ?_ (fun ρ => ?_) (fun ρ W hS hd => ?_) ?_; rotate_left; (focus go_simp); (focus (obtain ⟨hc, hf⟩ := bcell hS; go_simp; first | exact ⟨rfl, Below.refl _ _⟩ | (refine ⟨?_, Below.refl _ _⟩; rfl))); (try go_simp))
    refine Rl.textR_run (.agg ly.toArray) (fun ρ => ?_) (fun ρ W hS hd => ?_) ?_
    · go_simp
    · exact Rl.comesToR_load 24 _ rfl r (by go_simp) _ _ (HL9.out W hS) Tryd.underlying24 rfl HIY.out ⟨rfl, Below.refl _ _⟩
    (try go_simp)
    (refine Rl.textR_run ?_ (fun ρ => ?_) (fun ρ W hS hd => ?_) ?_; rotate_left; (focus go_simp); (focus (obtain ⟨hc, hf⟩ := bcell hS; go_simp; refine (KCC.out W).mono ?_; rintro e w1 ⟨rfl, hb⟩; refine ⟨_, rfl, ?_, hb⟩; rfl)); (try go_simp))
    refine Rl.textR_run (.agg ly.toArray) (fun ρ => ?_) (fun ρ W hS hd => ?_) ?_
    · go_simp
    · exact Rl.comesToR_load 24 _ rfl r (by go_simp) _ _ (HL9.out W hS) Tryd.underlying24 rfl HIY.out ⟨rfl, Below.refl _ _⟩
    (try go_simp)
    refine Rl.textR_run (.bool true) (fun ρ => ?_) (fun ρ W hS hd => ?_) ?_
    · go_simp
    · exact Rl.comesToR_eql 24 _ _ _ rfl _ _ (by go_simp) (by go_simp) (by kernel_rfl) (EZZ.out W) ⟨rfl, Below.refl _ _⟩
    (try go_simp)
    iterate 2 (refine Rl.textR_run ?_ (fun ρ => ?_) (fun ρ W hS hd => ?_) ?_; rotate_left; (focus go_simp); (focus (obtain ⟨hc, hf⟩ := bcell hS; go_simp; first | exact ⟨rfl, Below.refl _ _⟩ | (refine ⟨?_, Below.refl _ _⟩; rfl))); (try go_simp))
    (refine Rl.textR_run ?_ (fun ρ => ?_) (fun ρ W hS hd => ?_) ?_; rotate_left; (focus go_simp); (focus (obtain ⟨hc, hf⟩ := bcell hS; go_simp; refine (KO.out W hS).mono ?_; rintro e w1 ⟨rfl, hb⟩; refine ⟨_, rfl, ?_, hb⟩; rfl)); (try go_simp))
    iterate 2 (refine Rl.textR_run ?_ (fun ρ => ?_) (fun ρ W hS hd => ?_) ?_; rotate_left; (focus go_simp); (focus (obtain ⟨hc, hf⟩ := bcell hS; go_simp; first | exact ⟨rfl, Below.refl _ _⟩ | (refine ⟨?_, Below.refl _ _⟩; rfl))); (try go_simp))
    refine Rl.textR_nil ?_
    intro ρ w10 hg hk
    have HF := Lib.hid (below_next HB9.out hg)
    clear hg hk
    dsimp only
    clear ρ
    go_wp2_with fail
    go_ret
    exact ⟨rfl, HF.out⟩
end Go.Proofs.YtlejicmpefdhpaaDoor
