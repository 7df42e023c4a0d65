/- What the known play comes to (layer 15, one). No condition but that job's numbers. -/
import Derived.Test.YtgeldpfojmkdbaaJmp
import Derived.Deep.MidRow
namespace Go.Proofs.Ytgeldpfojmkdbaa
set_option linter.unusedVariables false
open Go.ChangeShapes Go.WideShapes Go.ChangeAt Go.RowKit
attribute [local go_sem ↓] Go.wp_at_zero Go.wp_at_succ comesTo_value_eq comesTo_skip_eq comesTo_enter_eq

theorem wrote_cells {w0 : World} {b : Nat} {T : TypeId} : ∀ (l : List Value) (o : Nat) (w' : World) (cs : List Value), WroteTo b T cs.toArray w0 w' → o + l.length = cs.length → WroteTo b T (cs.take o ++ l).toArray w0 (w'.setCells b o l)
  | [], o, w', cs, h, hl => by
    rw [List.append_nil, List.take_of_length_le (by simpa using Nat.le_of_eq hl.symm)]
    exact h
  | v :: l, o, w', cs, h, hl => by
    have h1 := h.set o v
    rw [List.setIfInBounds_toArray] at h1
    have h2 := wrote_cells l (o + 1) _ _ h1 (by simp at hl ⊢; omega)
    have ho : o < cs.length := by simp at hl; omega
    have e : (cs.set o v).take (o + 1) ++ l = cs.take o ++ v :: l := by
      rw [List.take_succ_eq_append_getElem (by simpa using ho), List.take_set_of_le (Nat.le_refl _), List.getElem_set_self, List.append_assoc]
      rfl
    rw [e] at h2
    exact h2
theorem wrote_17 {w : World} {b : Nat} {T : TypeId} {v0 v1 v2 v3 v4 v5 v6 v7 v8 v9 v10 v11 v12 v13 v14 v15 v16 u0 u1 u2 u3 u4 u5 u6 u7 u8 u9 u10 u11 u12 u13 u14 u15 u16 : Value} (h : w.heap[b]? = some (.cells #[v0, v1, v2, v3, v4, v5, v6, v7, v8, v9, v10, v11, v12, v13, v14, v15, v16] T (0, 0))) : WroteTo b T #[u0, u1, u2, u3, u4, u5, u6, u7, u8, u9, u10, u11, u12, u13, u14, u15, u16] w (w.setCells b 0 [u0, u1, u2, u3, u4, u5, u6, u7, u8, u9, u10, u11, u12, u13, u14, u15, u16]) :=
  wrote_cells [u0, u1, u2, u3, u4, u5, u6, u7, u8, u9, u10, u11, u12, u13, u14, u15, u16] 0 w [v0, v1, v2, v3, v4, v5, v6, v7, v8, v9, v10, v11, v12, v13, v14, v15, v16] (wrote_refl h) rfl
theorem exec_store_mid {P : Program} {op : Oper} {ρ : Operand → Value} {w : World} (ty : TypeId) (x y : Operand) (ho : op.op = .store ty x y) (b o : Nat) (cells : Array Value) (hx : ρ x = .pointer (some ⟨b, o, none⟩)) (hy : ρ y = .agg cells)
    (ht : w.there b o cells.size) (hi : (P.info? ty).map (·.size) = some cells.size) (h1 : cells.all (·.oneCell') = true) : (execOp ρ op).run P w = .ok .skip (w.setCells b o cells.toList) := by
  unfold execOp
  simp only [ho, hx, hy, Instr.storeAt, Instr.sureAddr, Sem.run_bind, Sem.run_pure, Result.andThen_ok, run_storeVar_mid w b o ty cells ht hi h1]
theorem wpList_val {P : Program} {ops : Array Oper} {rest : List Oper} {o : Oper} {a : Act} {w w' : World} {v : Value} {Q : Exit → Act → World → Prop} (hgd : o.guard = none) (h : (execOp a.eval o).run P w = .ok (.value v) w') (hr : wpList P ops Q rest (a.put o.dst v) w') : wpList P ops Q (o :: rest) a w :=
  wpList_plain hgd fun _ hK => by unfold Oper.wp; rw [h]; exact hK _ _ hr
theorem of04 (b : Nat) (W : World) (hb : W.heap[b]? = some (.cells #[.int .i64 0, .int .i64 4] 3 (0, 0))) : Calls Try.prog 31 #[.slice (some ⟨b, 0, none⟩) 2 2] W fun e w' => e = .returned (.int .u64 (nv 17#64)) ∧ Below W.heap.size W w' := of_block [0, 4] 17#64 (by decide) (by decide) b W hb
set_option maxRecDepth 100000 in
set_option maxHeartbeats 4000000 in
theorem job_one (w : World) : Calls Try.prog 14 #[] w fun e w' => e = .returned (.bool true) ∧ Below w.heap.size w w' := by
  go_enter Try.func14, Try.ntmps14
  go_upto_region 2 with fail
  generalize hW : w.alloc (.cells #[.int .i64 1, .int .i64 1, .int .i64 0, .int .i64 2, .int .i64 5, .int .i64 0, .int .i64 0, .bool false, .int .i64 0, .int .i64 0, .int .i64 3, .int .i64 0, .int .i64 0, .int .u64 0, .int .u64 0, .int .i64 0, .int .i64 0] 26) = U
  have hJ : J17 U w.heap.size (.int .i64 1) (.int .i64 1) (.int .i64 0) (.int .i64 2) (.int .i64 5) (.int .i64 0) (.int .i64 0) (.bool false) (.int .i64 0) (.int .i64 0) (.int .i64 3) (.int .i64 0) (.int .i64 0) (.int .u64 0) (.int .u64 0) (.int .i64 0) (.int .i64 0) := by rw [← hW]; exact J17.new (blk_new _ _ _)
  have HB := Lib.hid (show Below w.heap.size w U by rw [← hW]; exact (by repeat (first | exact Below.refl _ _ | assumption | refine below_drewN ?_ _ | refine Below.drew ?_ | refine below_alloc ?_ _ | refine Below.alloc ?_ (by first | omega | (simp; done) | (simp; omega)) _ | refine Below.setCell ?_ (Below.size (by assumption)) _ | refine Below.setCell ?_ (by first | omega | (simp; done) | (simp; omega)) _ | (refine Below.trans ?_ (Below.mono (by assumption) (by first | omega | (simp; done) | (simp; omega)))) | refine below_next ?_ (by assumption))))
  clear hW
  have l0 := hJ.lt
  have HJ := Lib.hid hJ
  obtain ⟨c0, c1, c2, c3, c4, c5, c6, c7, c8, c9, c10, c11, c12, c13, c14, c15, c16, f0, f1, f2, f3, f4, f5, f6, f7, f8, f9, f10, f11, f12, f13, f14, f15, f16⟩ := hJ
  refine Bld.wp_region_build U (by kernel_rfl) (by kernel_rfl) (Below.refl _ _) ?_
  (refine Bld.textB_det ?_ rfl rfl rfl ?_ (fun W hS => ?_) ?_; rotate_left; (focus go_simp); (focus (obtain ⟨hc, hf⟩ := bcell hS; go_simp; first | (refine ⟨?_, Below.refl _ _⟩; rfl) | rfl | exact Below.refl _ _)); (try go_simp))
  clear c0 c1 c2 c3 c4 c5 c6 c7 c8 c9 c10 c11 c12 c13 c14 c15 c16 f0 f1 f2 f3 f4 f5 f6 f7 f8 f9 f10 f11 f12 f13 f14 f15 f16
  (refine Bld.textB_al _ ((3), (#[.int .i64 0, .int .i64 4]), (some 2)) rfl rfl rfl rfl (fun W => ?_) ?_; (focus (first | rfl | (go_simp; done) | (go_simp; rfl))); (try go_simp))
  (refine Bld.textB_use ?_ (9) _ rfl rfl rfl rfl (fun b => ?_) (fun b W hS hB hb => ?_) ?_; rotate_left; (focus go_simp); (focus (go_simp; refine (of04 b W hb).mono ?_; rintro e w1 ⟨rfl, hbb⟩; refine ⟨?_, hbb⟩; rfl)); (try go_simp))
  (refine Bld.textB_det ?_ rfl rfl rfl ?_ (fun W hS => ?_) ?_; rotate_left; (focus go_simp); (focus (obtain ⟨hc, hf⟩ := bcell hS; go_simp; refine (begin_j _).mono ?_; rintro e w1 ⟨rfl, hb⟩; refine ⟨?_, hb⟩; rfl)); (try go_simp))
  (refine Bld.textB_det ?_ rfl rfl rfl ?_ (fun W hS => ?_) ?_; rotate_left; (focus go_simp); (focus (obtain ⟨hc, hf⟩ := bcell hS; go_simp; first | (refine ⟨?_, Below.refl _ _⟩; rfl) | rfl | exact Below.refl _ _)); (try go_simp))
  (refine Bld.textB_det ?_ rfl rfl rfl ?_ (fun W hS => ?_) ?_; rotate_left; (focus go_simp); (focus (obtain ⟨hc, hf⟩ := bcell hS; go_simp; first | (refine ⟨?_, Below.refl _ _⟩; rfl) | rfl | exact Below.refl _ _)); (try go_simp))
  (refine Bld.textB_det ?_ rfl rfl rfl ?_ (fun W hS => ?_) ?_; rotate_left; (focus go_simp); (focus (obtain ⟨hc, hf⟩ := bcell hS; go_simp; first | (refine ⟨?_, Below.refl _ _⟩; rfl) | rfl | exact Below.refl _ _)); (try go_simp))
  (refine Bld.textB_al _ ((26), (#[.int .i64 0, .int .i64 0, .int .i64 0, .int .i64 0, .int .i64 0, .int .i64 0, .int .i64 0, .bool false, .int .i64 0, .int .i64 0, .int .i64 0, .int .i64 0, .int .i64 0, .int .u64 0, .int .u64 0, .int .i64 0, .int .i64 0]), (none)) rfl rfl rfl rfl (fun W => ?_) ?_; (focus (first | rfl | (go_simp; done) | (go_simp; rfl))); (try go_simp))
  (refine Bld.textB_st _ _ (#[.int .i64 1, .int .i64 1, .int .i64 0, .int .i64 2, .int .i64 5, .int .i64 0, .int .i64 0, .bool false, .int .i64 1, .int .i64 0, .int .i64 3, .int .i64 0, .int .i64 1, .int .u64 0, .int .u64 (nv 17#64), .int .i64 3, .int .i64 0]) rfl rfl rfl rfl rfl (fun b W hb => ?_) ?_; (focus (refine ⟨_, ?_, wrote_17 hb⟩; exact exec_store_mid 26 _ _ rfl b 0 #[.int .i64 1, .int .i64 1, .int .i64 0, .int .i64 2, .int .i64 5, .int .i64 0, .int .i64 0, .bool false, .int .i64 1, .int .i64 0, .int .i64 3, .int .i64 0, .int .i64 1, .int .u64 0, .int .u64 (nv 17#64), .int .i64 3, .int .i64 0] (by first | (go_simp; done) | (go_simp; rfl)) (by first | (go_simp; done) | (go_simp; rfl)) (J17.there (J17.new hb)) (by kernel_rfl) (by first | kernel_rfl | (simp [Value.oneCell']; done)))); (try go_simp))
  (refine Bld.textB_det ?_ rfl rfl rfl ?_ (fun W hS => ?_) ?_; rotate_left; (focus go_simp); (focus (obtain ⟨hc, hf⟩ := bcell hS; go_simp; first | (refine ⟨?_, Below.refl _ _⟩; rfl) | rfl | exact Below.refl _ _)); (try go_simp))
  intro blk w1 hb1 hbx hbd
  have hk : J17 w1 (blk 2) (.int .i64 1) (.int .i64 1) (.int .i64 0) (.int .i64 2) (.int .i64 5) (.int .i64 0) (.int .i64 0) (.bool false) (.int .i64 1) (.int .i64 0) (.int .i64 3) (.int .i64 0) (.int .i64 1) (.int .u64 0) (.int .u64 (nv 17#64)) (.int .i64 3) (.int .i64 0) := J17.new (hbx _ List.mem_cons_self).2
  clear hbx hbd
  simp only [Bld.putZ, Bld.mkVal]
  generalize blk 2 = q2 at *
  generalize blk 9 = z9 at *
  clear blk l0
  have tJ := J17.below HJ.out hb1
  have HB1 := Lib.hid (below_next HB.out hb1)
  clear HJ hb1 HB
  have HJ := Lib.hid tJ
  have HK := Lib.hid hk
  clear tJ hk
  go_upto_region 3 with fail
  as_aux_lemma =>
  refine wp_region_lit ?_
  refine wpList_load_mid rfl 26 _ rfl q2 0 (by go_simp) [.int .i64 1, .int .i64 1, .int .i64 0, .int .i64 2, .int .i64 5, .int .i64 0, .int .i64 0, .bool false, .int .i64 1, .int .i64 0, .int .i64 3, .int .i64 0, .int .i64 1, .int .u64 0, .int .u64 (nv 17#64), .int .i64 3, .int .i64 0] _ (J17.range HK.out) Try.underlying26 rfl (by kernel_rfl) ?_
  go_wp2_with fail
  refine (stop_k _).mono ?_
  rintro e w2 ⟨rfl, hb2⟩
  have tHJ := J17.below HJ.out hb2
  have tHK := J17.below HK.out hb2
  have HB2 := Lib.hid (below_next HB1.out hb2)
  clear HJ HK hb2 HB1
  have HJ := Lib.hid tHJ
  clear tHJ
  have HK := Lib.hid tHK
  clear tHK
  rename_i hK
  refine hK _ _ ?_
  as_aux_lemma =>
  refine wpList_val (w' := w2) (v := .tuple #[.agg #[.int .i64 1, .int .i64 1, .int .i64 0, .int .i64 2, .int .i64 5, .int .i64 0, .int .i64 0, .bool false, .int .i64 2, .int .i64 0, .int .i64 3, .int .i64 0, .int .i64 1, .int .u64 0, .int .u64 (nv 17#64), .int .i64 3, .int .i64 7], .int .i64 0]) rfl (by first | (go_simp; done) | (go_simp; rfl)) ?_
  refine wpList_val (w' := w2) (v := .agg #[.int .i64 1, .int .i64 1, .int .i64 0, .int .i64 2, .int .i64 5, .int .i64 0, .int .i64 0, .bool false, .int .i64 2, .int .i64 0, .int .i64 3, .int .i64 0, .int .i64 1, .int .u64 0, .int .u64 (nv 17#64), .int .i64 3, .int .i64 7]) rfl (by first | (go_simp; done) | (go_simp; rfl)) ?_
  refine wpList_val (w' := w2) (v := .int .i64 0) rfl (by first | (go_simp; done) | (go_simp; rfl)) ?_
  refine wpList_val (w' := w2.alloc (.cells #[.int .i64 0, .int .i64 0, .int .i64 0, .int .i64 0, .int .i64 0, .int .i64 0, .int .i64 0, .bool false, .int .i64 0, .int .i64 0, .int .i64 0, .int .i64 0, .int .i64 0, .int .u64 0, .int .u64 0, .int .i64 0, .int .i64 0] 26)) (v := .pointer (some ⟨w2.heap.size, 0, none⟩)) rfl (by first | rfl | (go_simp; done) | (go_simp; rfl)) ?_
  have hn : (w2.alloc (.cells #[.int .i64 0, .int .i64 0, .int .i64 0, .int .i64 0, .int .i64 0, .int .i64 0, .int .i64 0, .bool false, .int .i64 0, .int .i64 0, .int .i64 0, .int .i64 0, .int .i64 0, .int .u64 0, .int .u64 0, .int .i64 0, .int .i64 0] 26)).heap[w2.heap.size]? = some (.cells #[.int .i64 0, .int .i64 0, .int .i64 0, .int .i64 0, .int .i64 0, .int .i64 0, .int .i64 0, .bool false, .int .i64 0, .int .i64 0, .int .i64 0, .int .i64 0, .int .i64 0, .int .u64 0, .int .u64 0, .int .i64 0, .int .i64 0] 26 (0, 0)) := blk_new _ _ _
  have hba : Below w2.heap.size w2 (w2.alloc (.cells #[.int .i64 0, .int .i64 0, .int .i64 0, .int .i64 0, .int .i64 0, .int .i64 0, .int .i64 0, .bool false, .int .i64 0, .int .i64 0, .int .i64 0, .int .i64 0, .int .i64 0, .int .u64 0, .int .u64 0, .int .i64 0, .int .i64 0] 26)) := below_alloc (Below.refl _ _) _
  generalize w2.alloc (.cells #[.int .i64 0, .int .i64 0, .int .i64 0, .int .i64 0, .int .i64 0, .int .i64 0, .int .i64 0, .bool false, .int .i64 0, .int .i64 0, .int .i64 0, .int .i64 0, .int .i64 0, .int .u64 0, .int .u64 0, .int .i64 0, .int .i64 0] 26) = w3 at *
  refine wpList_store_mid rfl 26 _ _ rfl w2.heap.size 0 #[.int .i64 1, .int .i64 1, .int .i64 0, .int .i64 2, .int .i64 5, .int .i64 0, .int .i64 0, .bool false, .int .i64 2, .int .i64 0, .int .i64 3, .int .i64 0, .int .i64 1, .int .u64 0, .int .u64 (nv 17#64), .int .i64 3, .int .i64 7] (by go_simp) (by go_simp) (J17.there (J17.new hn)) (by kernel_rfl) (by first | kernel_rfl | (simp [Value.oneCell']; done)) ?_
  have hd : J17 (w3.setCells w2.heap.size 0 [.int .i64 1, .int .i64 1, .int .i64 0, .int .i64 2, .int .i64 5, .int .i64 0, .int .i64 0, .bool false, .int .i64 2, .int .i64 0, .int .i64 3, .int .i64 0, .int .i64 1, .int .u64 0, .int .u64 (nv 17#64), .int .i64 3, .int .i64 7]) w2.heap.size (.int .i64 1) (.int .i64 1) (.int .i64 0) (.int .i64 2) (.int .i64 5) (.int .i64 0) (.int .i64 0) (.bool false) (.int .i64 2) (.int .i64 0) (.int .i64 3) (.int .i64 0) (.int .i64 1) (.int .u64 0) (.int .u64 (nv 17#64)) (.int .i64 3) (.int .i64 7) := J17.new (wrote_17 hn).there
  have hb3 := below_setCells (Nat.le_refl _) [.int .i64 1, .int .i64 1, .int .i64 0, .int .i64 2, .int .i64 5, .int .i64 0, .int .i64 0, .bool false, .int .i64 2, .int .i64 0, .int .i64 3, .int .i64 0, .int .i64 1, .int .u64 0, .int .u64 (nv 17#64), .int .i64 3, .int .i64 7] 0 _ hba
  change wpList _ _ _ _ _ (w3.setCells w2.heap.size 0 [.int .i64 1, .int .i64 1, .int .i64 0, .int .i64 2, .int .i64 5, .int .i64 0, .int .i64 0, .bool false, .int .i64 2, .int .i64 0, .int .i64 3, .int .i64 0, .int .i64 1, .int .u64 0, .int .u64 (nv 17#64), .int .i64 3, .int .i64 7])
  generalize w3.setCells w2.heap.size 0 [.int .i64 1, .int .i64 1, .int .i64 0, .int .i64 2, .int .i64 5, .int .i64 0, .int .i64 0, .bool false, .int .i64 2, .int .i64 0, .int .i64 3, .int .i64 0, .int .i64 1, .int .u64 0, .int .u64 (nv 17#64), .int .i64 3, .int .i64 7] = w4 at *
  clear hn hba
  have HD := Lib.hid hd
  clear hd
  generalize hq4 : w2.heap.size = q4 at *
  have hb3' : Below w2.heap.size w2 w4 := by rw [hq4]; exact hb3
  have tJ := J17.below HJ.out hb3'
  have tK := J17.below HK.out hb3'
  have HB4 := Lib.hid (below_next HB2.out hb3')
  clear HJ HK HB2 hb3 hb3' hq4
  have HJ := Lib.hid tJ
  have HK := Lib.hid tK
  clear tJ tK w3
  go_upto_region 4 with fail
  as_aux_lemma =>
  obtain ⟨c0, c1, c2, c3, c4, c5, c6, c7, c8, c9, c10, c11, c12, c13, c14, c15, c16, f0, f1, f2, f3, f4, f5, f6, f7, f8, f9, f10, f11, f12, f13, f14, f15, f16⟩ := HK.out
  go_wp2_with fail
  as_aux_lemma =>
  clear c0 c1 c2 c3 c4 c5 c6 c7 c8 c9 c10 c11 c12 c13 c14 c15 c16 f0 f1 f2 f3 f4 f5 f6 f7 f8 f9 f10 f11 f12 f13 f14 f15 f16
  refine (until_k _).mono ?_
  rintro e w5 ⟨rfl, hb5⟩
  have tHJ := J17.below HJ.out hb5
  have tHK := J17.below HK.out hb5
  have tHD := J17.below HD.out hb5
  have HB5 := Lib.hid (below_next HB4.out hb5)
  clear HJ HK HD hb5 HB4
  have HJ := Lib.hid tHJ
  clear tHJ
  have HK := Lib.hid tHK
  clear tHK
  have HD := Lib.hid tHD
  clear tHD
  rename_i hK
  refine hK _ _ ?_
  as_aux_lemma =>
  obtain ⟨c0, c1, c2, c3, c4, c5, c6, c7, c8, c9, c10, c11, c12, c13, c14, c15, c16, f0, f1, f2, f3, f4, f5, f6, f7, f8, f9, f10, f11, f12, f13, f14, f15, f16⟩ := HD.out
  go_wp2_with fail
  as_aux_lemma =>
  clear c0 c1 c2 c3 c4 c5 c6 c7 c8 c9 c10 c11 c12 c13 c14 c15 c16 f0 f1 f2 f3 f4 f5 f6 f7 f8 f9 f10 f11 f12 f13 f14 f15 f16
  refine (over_d _).mono ?_
  rintro e w6 ⟨rfl, hb6⟩
  have tHJ := J17.below HJ.out hb6
  have tHK := J17.below HK.out hb6
  have tHD := J17.below HD.out hb6
  have HB6 := Lib.hid (below_next HB5.out hb6)
  clear HJ HK HD hb6 HB5
  have HJ := Lib.hid tHJ
  clear tHJ
  have HK := Lib.hid tHK
  clear tHK
  have HD := Lib.hid tHD
  clear tHD
  rename_i hK
  refine hK _ _ ?_
  as_aux_lemma =>
  obtain ⟨c0, c1, c2, c3, c4, c5, c6, c7, c8, c9, c10, c11, c12, c13, c14, c15, c16, f0, f1, f2, f3, f4, f5, f6, f7, f8, f9, f10, f11, f12, f13, f14, f15, f16⟩ := HJ.out
  go_wp2_with fail
  as_aux_lemma =>
  clear c0 c1 c2 c3 c4 c5 c6 c7 c8 c9 c10 c11 c12 c13 c14 c15 c16 f0 f1 f2 f3 f4 f5 f6 f7 f8 f9 f10 f11 f12 f13 f14 f15 f16
  refine (right_j _).mono ?_
  rintro e w7 ⟨rfl, hb7⟩
  have tHJ := J17.below HJ.out hb7
  have tHK := J17.below HK.out hb7
  have tHD := J17.below HD.out hb7
  have HB7 := Lib.hid (below_next HB6.out hb7)
  clear HJ HK HD hb7 HB6
  have HJ := Lib.hid tHJ
  clear tHJ
  have HK := Lib.hid tHK
  clear tHK
  have HD := Lib.hid tHD
  clear tHD
  rename_i hK
  refine hK _ _ ?_
  go_wp2
  go_ret
  exact ⟨rfl, HB7.out⟩
end Go.Proofs.Ytgeldpfojmkdbaa
