/- A queue's Len, Less and Swap (layer 17). No condition but the places'. -/
import Derived.Test.YtfakejfpicjedaaTmA
namespace Go.Proofs.Ytfakejfpicjedaa
set_option linter.unusedVariables false
open Go.ChangeShapes Go.WideShapes Go.ChangeAt Go.RowKit Tm
attribute [local go_sem ↓] Go.wp_at_zero Go.wp_at_succ comesTo_value_eq comesTo_skip_eq comesTo_enter_eq

theorem qlen {w : World} {Q m : Nat} {v : Value} {A : List AL} {pm : Int → Option Nat} {c : Nat} (h : Tq w Q m v A pm c) :
    Calls Try.prog 25 #[.pointer (some ⟨Q, 0, none⟩)] w fun e w' => e = .returned (.int .i64 (A.length : Int)) ∧ w' = w := by
  obtain ⟨a, cp, rfl⟩ := h.row.form
  have q0 : w.cell? ⟨Q, 0, none⟩ = some (.slice a A.length cp) := cell_of_block (o := 0) h.blk rfl
  clear h
  go_enter Try.func25, Try.ntmps25
  go_wp2
  go_ret
  exact ⟨rfl, rfl⟩
set_option maxRecDepth 100000 in
theorem qless {w : World} {Q m : Nat} {v : Value} {A : List AL} {pm : Int → Option Nat} {c : Nat} (h : Tq w Q m v A pm c) {i j : Nat} (hi : i < A.length) (hj : j < A.length) :
    Calls Try.prog 48 #[.pointer (some ⟨Q, 0, none⟩), .int .i64 (i : Int), .int .i64 (j : Int)] w fun e w' => e = .returned (.bool (ltB (gA A i) (gA A j))) ∧ Below w.heap.size w w' := by
  obtain ⟨g, cap, cur, rfl, hg, hcp, hm, hs, ht⟩ := h.row.pos (by omega)
  have q0 : w.cell? ⟨Q, 0, none⟩ = some (.slice (some ⟨g, 0, none⟩) A.length cap) := cell_of_block (o := 0) h.blk rfl
  have lq : Q < w.heap.size := h.lt
  have lg : g < w.heap.size := (Array.getElem?_eq_some_iff.1 hg).1
  have x0 := cell_of_block hg (cur_get hi ht).1
  have x1 := cell_of_block hg (cur_get hi ht).2
  have y0 := cell_of_block hg (cur_get hj ht).1
  have y1 := cell_of_block hg (cur_get hj ht).2
  have ii : (i : Int) < (A.length : Int) := by omega
  have jj : (j : Int) < (A.length : Int) := by omega
  generalize A.length = n at *
  have HLT := Lib.hid (show ltB (gA A i) (gA A j) = decide ((gA A i).1 < (gA A j).1 ∨ (gA A i).1 = (gA A j).1 ∧ (gA A i).2 < (gA A j).2) from rfl)
  generalize ltB (gA A i) (gA A j) = r at *
  obtain ⟨a1, a2⟩ : ∃ a, a = gA A i := ⟨_, rfl⟩
  generalize gA A i = ai at *
  generalize gA A j = aj at *
  obtain ⟨i1, i2⟩ := ai
  obtain ⟨j1, j2⟩ := aj
  dsimp only at x0 x1 y0 y1 HLT
  clear h hg hcp hm hs ht hi hj a2
  go_enter Try.func48, Try.ntmps48
  go_upto_region 1 with fail
  refine wp_region_boxes w (by kernel_rfl) (by kernel_rfl) (Below.refl _ _) ?_
  (refine textB_det ?_ rfl rfl ?_ (fun W hS => ?_) ?_; rotate_left; (focus go_simp); (focus (obtain ⟨hc, hf⟩ := bcell hS; go_simp; first | (refine ⟨?_, Below.refl _ _⟩; rfl) | rfl | exact Below.refl _ _)); (try go_simp))
  (refine textB_det ?_ rfl rfl ?_ (fun W hS => ?_) ?_; rotate_left; (focus go_simp); (focus (obtain ⟨hc, hf⟩ := bcell hS; go_simp; first | (refine ⟨?_, Below.refl _ _⟩; rfl) | rfl | exact Below.refl _ _)); (try go_simp))
  (refine textB_det ?_ rfl rfl ?_ (fun W hS => ?_) ?_; rotate_left; (focus go_simp); (focus (obtain ⟨hc, hf⟩ := bcell hS; go_simp; first | (refine ⟨?_, Below.refl _ _⟩; rfl) | rfl | exact Below.refl _ _)); (try go_simp))
  (refine textB_det ?_ rfl rfl ?_ (fun W hS => ?_) ?_; rotate_left; (focus go_simp); (focus (obtain ⟨hc, hf⟩ := bcell hS; go_simp; first | (refine ⟨?_, Below.refl _ _⟩; rfl) | rfl | exact Below.refl _ _)); (try go_simp))
  (refine textB_det ?_ rfl rfl ?_ (fun W hS => ?_) ?_; rotate_left; (focus go_simp); (focus (obtain ⟨hc, hf⟩ := bcell hS; go_simp; first | (refine ⟨?_, Below.refl _ _⟩; rfl) | rfl | exact Below.refl _ _)); (try go_simp))
  (refine textB_det ?_ rfl rfl ?_ (fun W hS => ?_) ?_; rotate_left; (focus go_simp); (focus (obtain ⟨hc, hf⟩ := bcell hS; go_simp; first | (refine ⟨?_, Below.refl _ _⟩; rfl) | rfl | exact Below.refl _ _)); (try go_simp))
  (refine textB_det ?_ rfl rfl ?_ (fun W hS => ?_) ?_; rotate_left; (focus go_simp); (focus (obtain ⟨hc, hf⟩ := bcell hS; go_simp; first | (refine ⟨?_, Below.refl _ _⟩; rfl) | rfl | exact Below.refl _ _)); (try go_simp))
  (refine textB_det ?_ rfl rfl ?_ (fun W hS => ?_) ?_; rotate_left; (focus go_simp); (focus (obtain ⟨hc, hf⟩ := bcell hS; go_simp; first | (refine ⟨?_, Below.refl _ _⟩; rfl) | rfl | exact Below.refl _ _)); (try go_simp))
  (refine textB_det ?_ rfl rfl ?_ (fun W hS => ?_) ?_; rotate_left; (focus go_simp); (focus (obtain ⟨hc, hf⟩ := bcell hS; go_simp; first | (refine ⟨?_, Below.refl _ _⟩; rfl) | rfl | exact Below.refl _ _)); (try go_simp))
  (refine textB_det ?_ rfl rfl ?_ (fun W hS => ?_) ?_; rotate_left; (focus go_simp); (focus (obtain ⟨hc, hf⟩ := bcell hS; go_simp; first | (refine ⟨?_, Below.refl _ _⟩; rfl) | rfl | exact Below.refl _ _)); (try go_simp))
  (refine textB_det ?_ rfl rfl ?_ (fun W hS => ?_) ?_; rotate_left; (focus go_simp); (focus (obtain ⟨hc, hf⟩ := bcell hS; go_simp; first | (refine ⟨?_, Below.refl _ _⟩; rfl) | rfl | exact Below.refl _ _)); (try go_simp))
  (refine textB_det ?_ rfl rfl ?_ (fun W hS => ?_) ?_; rotate_left; (focus go_simp); (focus (obtain ⟨hc, hf⟩ := bcell hS; go_simp; first | (refine ⟨?_, Below.refl _ _⟩; rfl) | rfl | exact Below.refl _ _)); (try go_simp))
  (refine textB_det ?_ rfl rfl ?_ (fun W hS => ?_) ?_; rotate_left; (focus go_simp); (focus (obtain ⟨hc, hf⟩ := bcell hS; go_simp; first | (refine ⟨?_, Below.refl _ _⟩; rfl) | rfl | exact Below.refl _ _)); (try go_simp))
  (refine textB_det ?_ rfl rfl ?_ (fun W hS => ?_) ?_; rotate_left; (focus go_simp); (focus (obtain ⟨hc, hf⟩ := bcell hS; go_simp; first | (refine ⟨?_, Below.refl _ _⟩; rfl) | rfl | exact Below.refl _ _)); (try go_simp))
  (refine textB_al _ (42) (#[.int .i64 0, .int .i64 0]) rfl rfl rfl (fun ρ W => ?_) ?_; (focus (first | rfl | (go_simp; done) | (go_simp; rfl))); (try go_simp))
  (refine textB_al _ (42) (#[.int .i64 0, .int .i64 0]) rfl rfl rfl (fun ρ W => ?_) ?_; (focus (first | rfl | (go_simp; done) | (go_simp; rfl))); (try go_simp))
  (refine textB_st _ _ _ (#[.int .i64 i1, .int .i64 i2]) rfl rfl rfl rfl (fun b W hb => ?_) ?_; (focus (have c0 := cell_of_block (o := 0) hb rfl; have f0 := free_of_block 0 hb; have c1 := cell_of_block (o := 1) hb rfl; have f1 := free_of_block 1 hb; refine ⟨_, (by first | (go_simp; done) | (go_simp; rfl)), ((wrote_refl hb).set 0 (.int .i64 i1)).set 1 (.int .i64 i2)⟩)); (try go_simp))
  (refine textB_st _ _ _ (#[.int .i64 j1, .int .i64 j2]) rfl rfl rfl rfl (fun b W hb => ?_) ?_; (focus (have c0 := cell_of_block (o := 0) hb rfl; have f0 := free_of_block 0 hb; have c1 := cell_of_block (o := 1) hb rfl; have f1 := free_of_block 1 hb; refine ⟨_, (by first | (go_simp; done) | (go_simp; rfl)), ((wrote_refl hb).set 0 (.int .i64 j1)).set 1 (.int .i64 j2)⟩)); (try go_simp))
  intro blk w2 hb2 hbx hbd
  have hq := hbx _ List.mem_cons_self
  have hp := hbx _ (List.mem_cons_of_mem _ List.mem_cons_self)
  dsimp only at hq hp
  simp only [List.map_cons, List.map_nil, putAll]
  obtain ⟨hq1, hq2⟩ := hq
  obtain ⟨hp1, hp2⟩ := hp
  clear hbx hbd q0 x0 x1 y0 y1 lq lg ii jj
  generalize blk 8 = bq at *
  generalize blk 7 = bp at *
  clear blk
  have q0 := cell_of_block (o := 0) hq2 rfl
  have q1 := cell_of_block (o := 1) hq2 rfl
  have p0 := cell_of_block (o := 0) hp2 rfl
  have p1 := cell_of_block (o := 1) hp2 rfl
  have HX := Lib.hid hb2
  clear hb2 hq1 hq2 hp1 hp2
  go_simp
  by_cases he : i1 = j1
  · have d1 : (i1 != j1) = false := by simpa using he
    have HR := Lib.hid (show r = decide (i2 < j2) from by rw [HLT.out]; subst he; by_cases h : i2 < j2 <;> simp [h])
    clear he HLT
    go_wp2_with fail
    go_ret
    exact ⟨by rw [HR.out]; rfl, HX.out⟩
  · have d1 : (i1 != j1) = true := by simpa using he
    have HR := Lib.hid (show r = decide (i1 < j1) from by rw [HLT.out]; by_cases h : i1 < j1 <;> simp [h, he])
    clear he HLT
    go_wp2_with fail
    go_ret
    exact ⟨by rw [HR.out]; rfl, HX.out⟩
theorem exec_entryStore {P : Program} {op : Oper} {ρ : Operand → Value} {w w' : World} (t : TypeId) (m x v : Operand) (ho : op.op = .entryStore t m x v) {vm vx vv : Value} (hm : ρ m = vm) (hx : ρ x = vx) (hv : ρ v = vv)
    (h : (Instr.entryStore t vm vx vv).run P w = .ok () w') : (execOp ρ op).run P w = .ok .skip w' := by
  unfold execOp
  simp only [ho, hm, hx, hv, Sem.run_bind, h, Result.andThen_ok, Sem.run_pure]
theorem exec_mapEntry {P : Program} {op : Oper} {ρ : Operand → Value} {w w' : World} (t : TypeId) (m x : Operand) (ho : op.op = .mapEntry t m x) {vm vx r : Value} (hm : ρ m = vm) (hx : ρ x = vx)
    (h : (Instr.mapEntry t vm vx).run P w = .ok r w') : (execOp ρ op).run P w = .ok (.value r) w' := by
  unfold execOp
  simp only [ho, hm, hx, Sem.run_bind, h, Result.andThen_ok, Sem.run_pure]
theorem anyK_lastT {P : Program} {ops : Array Oper} {Q : Exit → Act → World → Prop} {md : Region.Mode} {S1 S2 : World → Prop} {js fuel : Nat} {listed : Array Bool} {a : Act} {w : World} {i : Nat} {oi : Oper} {v : Value} {w' : World} (hr : Region.ready md ops listed = [i]) (hi : ops[i]? = some oi) (hg : oi.guard = none) (hjs : (listed.setIfInBounds i true).getD js true = true)
    (h : (execOp a.eval oi).run P w = .ok (.value v) w') (hS : S1 w') (hR : Ap.wpAnyK P md ops Q S1 S2 js fuel (listed.setIfInBounds i true) (a.put oi.dst v) w') : Ap.wpAnyK P md ops Q S1 S2 js (fuel + 1) listed a w := by
  refine Ap.wpAnyK_all hr (by simp) fun k hk => ?_
  obtain rfl : k = i := by simpa using hk
  unfold wpOp
  simp only [hi, Region.wanted, hg, if_true]
  refine .inl ?_
  unfold Oper.wp
  rw [h]
  exact ⟨⟨hS, fun h => by rw [hjs] at h; cases h⟩, hR⟩
theorem swapA_set (A : List AL) (i j : Nat) : swapA A i j = (A.set i (gA A j)).set j (gA A i) := rfl
set_option maxRecDepth 100000 in
set_option maxHeartbeats 4000000 in
theorem qswap {w : World} {Q m : Nat} {v : Value} {A : List AL} {pm : Int → Option Nat} {c : Nat} (h : Tq w Q m v A pm c) (hC : Co A pm) (hc5 : c < 100000) {i j : Nat} (hi : i < A.length) (hj : j < A.length) :
    Calls Try.prog 51 #[.pointer (some ⟨Q, 0, none⟩), .int .i64 (i : Int), .int .i64 (j : Int)] w fun e w' => e = .returned (.tuple #[]) ∧ Tq w' Q m v (swapA A i j) (swapP A pm i j) c ∧ FrT Q m v w w' := by
  have hmx : Try.prog.follows .mixedOrders = true := by kernel_rfl
  obtain ⟨g, cap, cur, rfl, hg, hcp, hm, hs, ht⟩ := h.row.pos (by omega)
  have HT := Lib.hid h
  have HGQ := Lib.hid (h.rne (g := g) rfl)
  have HQM := Lib.hid h.ne
  have ii : (i : Int) < (A.length : Int) := by omega
  have jj : (j : Int) < (A.length : Int) := by omega
  have HCi := Lib.hid (cur_get hi ht)
  have HCj := Lib.hid (cur_get hj ht)
  have HGB := Lib.hid hg
  have HPi := Lib.hid (hC.pos i hi)
  have HPj := Lib.hid (hC.pos j hj)
  have HNi := Lib.hid (hC.at hi).1
  have HNj := Lib.hid (hC.at hj).1
  have HLN := Lib.hid hC.len
  have HIJ := Lib.hid (And.intro hi hj)
  have HINJ := Lib.hid (fun (e : (gA A i).2 = (gA A j).2) => hC.inj hi hj e)
  have HROW := Lib.hid (show ∀ w' : World, w'.heap[g]? = some (.cells ((((cur.setIfInBounds (i * 2) (.int .i64 (gA A j).1)).setIfInBounds (i * 2 + 1) (.int .i64 (gA A j).2)).setIfInBounds (j * 2) (.int .i64 (gA A i).1)).setIfInBounds (j * 2 + 1) (.int .i64 (gA A i).2)) 42 (0, 0)) → RowA w' (.slice (some ⟨g, 0, none⟩) A.length cap) (swapA A i j) from fun w' hw => by
    have t1 := cur_set i (gA A j) ht
    have hl : (A.set i (gA A j)).length = A.length := by simp
    rw [← hl] at t1
    have := RowA.set (w' := w') (w := w) (A := A.set i (gA A j)) (g := g) (cap := cap) (k := j) (x := gA A i) (by rw [hl]; exact hcp) hm (by simpa using hs) t1 hw
    rw [hl] at this
    exact this)
  have HNEW := Lib.hid (show ∀ k x, k < A.length → ((((cur.setIfInBounds (i * 2) (.int .i64 (gA A j).1)).setIfInBounds (i * 2 + 1) (.int .i64 (gA A j).2)).setIfInBounds (j * 2) (.int .i64 (gA A i).1)).setIfInBounds (j * 2 + 1) (.int .i64 (gA A i).2))[k * 2 + 1]? = some x → x = .int .i64 (gA (swapA A i j) k).2 from fun k x hk hx => by
    have t1 := cur_set i (gA A j) ht
    have hl : (A.set i (gA A j)).length = A.length := by simp
    rw [← hl] at t1
    have t2 := cur_set (A := A.set i (gA A j)) j (gA A i) t1
    have hl2 : (swapA A i j).length = A.length := swapA_len A i j
    have := (cur_get (A := swapA A i j) (k := k) (by rw [hl2]; exact hk) (by rw [hl2, ← hl]; exact t2)).2
    rw [hx] at this
    injection this)
  clear h hg hcp hm ht hC hi hj
  have HSZ := Lib.hid hs
  clear hs
  obtain ⟨n, hn⟩ : ∃ n, n = A.length := ⟨_, rfl⟩
  rw [← hn] at HT HLN HIJ HROW HNEW ii jj ⊢
  have HN := Lib.hid hn
  clear hn
  obtain ⟨ai, hai⟩ : ∃ a, a = gA A i := ⟨_, rfl⟩
  obtain ⟨aj, haj⟩ : ∃ a, a = gA A j := ⟨_, rfl⟩
  rw [← hai] at HCi HPi HNi HINJ HROW HNEW
  rw [← haj] at HCj HPj HNj HINJ HROW HNEW
  have HAI := Lib.hid hai
  have HAJ := Lib.hid haj
  clear hai haj
  obtain ⟨i1, i2⟩ := ai
  obtain ⟨j1, j2⟩ := aj
  dsimp only at HCi HCj HPi HPj HNi HNj HINJ HROW HNEW
  go_enter Try.func51, Try.ntmps51
  go_upto_region 0 with fail
  refine Ap.wp_region_K (S1 := fun X => X.cell? ⟨Q, 0, none⟩ = some (.slice (some ⟨g, 0, none⟩) n cap)) (S2 := fun X => X.cell? ⟨g, i * 2, none⟩ = some (.int .i64 i1) ∧ X.cell? ⟨g, i * 2 + 1, none⟩ = some (.int .i64 i2) ∧ X.cell? ⟨g, j * 2, none⟩ = some (.int .i64 j1) ∧ X.cell? ⟨g, j * 2 + 1, none⟩ = some (.int .i64 j2)) (js := 25) hmx ?_
  change Ap.wpAnyK _ _ _ _ _ _ _ 28 _ _ w.drew
  have HD := Lib.hid (show Below w.heap.size w w.drew from (Below.refl _ _).drew)
  have HT0 := Lib.hid (HT.out.below HD.out)
  have HG0 := Lib.hid ((HD.out.block g HGQ.out.2.2).trans HGB.out)
  have HF0 := Lib.hid (show FrT Q m (.slice (some ⟨g, 0, none⟩) n cap) w w.drew from FrT.of_below HD.out)
  clear HD HT HGB
  generalize w.drew = X0 at *
  have hS1 : X0.cell? ⟨Q, 0, none⟩ = some (.slice (some ⟨g, 0, none⟩) n cap) := cell_of_block (o := 0) HT0.out.blk rfl
  have hSS : (X0.cell? ⟨Q, 0, none⟩ = some (.slice (some ⟨g, 0, none⟩) n cap)) ∧ (X0.cell? ⟨g, i * 2, none⟩ = some (.int .i64 i1) ∧ X0.cell? ⟨g, i * 2 + 1, none⟩ = some (.int .i64 i2) ∧ X0.cell? ⟨g, j * 2, none⟩ = some (.int .i64 j1) ∧ X0.cell? ⟨g, j * 2 + 1, none⟩ = some (.int .i64 j2)) := ⟨hS1, cell_of_block HG0.out HCi.out.1, cell_of_block HG0.out HCi.out.2, cell_of_block HG0.out HCj.out.1, cell_of_block HG0.out HCj.out.2⟩
  clear hS1
  refine Ap.wpAnyK_take1 (i := 0) (v := .pointer (some ⟨Q, 0, none⟩)) rfl (by decide +kernel) (by decide +kernel) (by decide +kernel) (by decide +kernel) (fun _ _ _ h => h) (.inl ⟨by first | rfl | (go_simp; done), fun X hX => by first | (go_simp; done) | (go_simp; rfl)⟩) hSS ?_
  refine Ap.wpAnyK_take1 (i := 1) (v := .pointer (some ⟨Q, 0, none⟩)) rfl (by decide +kernel) (by decide +kernel) (by decide +kernel) (by decide +kernel) (fun _ _ _ h => h) (.inl ⟨by first | rfl | (go_simp; done), fun X hX => by first | (go_simp; done) | (go_simp; rfl)⟩) hSS ?_
  refine Ap.wpAnyK_take1 (i := 2) (v := .pointer (some ⟨Q, 0, none⟩)) rfl (by decide +kernel) (by decide +kernel) (by decide +kernel) (by decide +kernel) (fun _ _ _ h => h) (.inl ⟨by first | rfl | (go_simp; done), fun X hX => by first | (go_simp; done) | (go_simp; rfl)⟩) hSS ?_
  refine Ap.wpAnyK_take1 (i := 3) (v := .slice (some ⟨g, 0, none⟩) n cap) rfl (by decide +kernel) (by decide +kernel) (by decide +kernel) (by decide +kernel) (fun _ _ _ h => h) (.inl ⟨by first | rfl | (go_simp; done), fun X hX => by first | (go_simp; done) | (go_simp; rfl)⟩) hSS ?_
  refine Ap.wpAnyK_take1 (i := 4) (v := .int .i64 (i : Int)) rfl (by decide +kernel) (by decide +kernel) (by decide +kernel) (by decide +kernel) (fun _ _ _ h => h) (.inl ⟨by first | rfl | (go_simp; done), fun X hX => by first | (go_simp; done) | (go_simp; rfl)⟩) hSS ?_
  refine Ap.wpAnyK_take1 (i := 5) (v := .pointer (some ⟨Q, 0, none⟩)) rfl (by decide +kernel) (by decide +kernel) (by decide +kernel) (by decide +kernel) (fun _ _ _ h => h) (.inl ⟨by first | rfl | (go_simp; done), fun X hX => by first | (go_simp; done) | (go_simp; rfl)⟩) hSS ?_
  refine Ap.wpAnyK_take1 (i := 6) (v := .pointer (some ⟨Q, 0, none⟩)) rfl (by decide +kernel) (by decide +kernel) (by decide +kernel) (by decide +kernel) (fun _ _ _ h => h) (.inl ⟨by first | rfl | (go_simp; done), fun X hX => by first | (go_simp; done) | (go_simp; rfl)⟩) hSS ?_
  refine Ap.wpAnyK_take1 (i := 7) (v := .pointer (some ⟨Q, 0, none⟩)) rfl (by decide +kernel) (by decide +kernel) (by decide +kernel) (by decide +kernel) (fun _ _ _ h => h) (.inl ⟨by first | rfl | (go_simp; done), fun X hX => by first | (go_simp; done) | (go_simp; rfl)⟩) hSS ?_
  refine Ap.wpAnyK_take1 (i := 8) (v := .slice (some ⟨g, 0, none⟩) n cap) rfl (by decide +kernel) (by decide +kernel) (by decide +kernel) (by decide +kernel) (fun _ _ _ h => h) (.inl ⟨by first | rfl | (go_simp; done), fun X hX => by first | (go_simp; done) | (go_simp; rfl)⟩) hSS ?_
  refine Ap.wpAnyK_take1 (i := 9) (v := .int .i64 (j : Int)) rfl (by decide +kernel) (by decide +kernel) (by decide +kernel) (by decide +kernel) (fun _ _ _ h => h) (.inl ⟨by first | rfl | (go_simp; done), fun X hX => by first | (go_simp; done) | (go_simp; rfl)⟩) hSS ?_
  refine Ap.wpAnyK_take1 (i := 10) (v := .pointer (some ⟨Q, 0, none⟩)) rfl (by decide +kernel) (by decide +kernel) (by decide +kernel) (by decide +kernel) (fun _ _ _ h => h) (.inl ⟨by first | rfl | (go_simp; done), fun X hX => by first | (go_simp; done) | (go_simp; rfl)⟩) hSS ?_
  refine Ap.wpAnyK_take1 (i := 11) (v := .pointer (some ⟨Q, 0, none⟩)) rfl (by decide +kernel) (by decide +kernel) (by decide +kernel) (by decide +kernel) (fun _ _ _ h => h) (.inl ⟨by first | rfl | (go_simp; done), fun X hX => by first | (go_simp; done) | (go_simp; rfl)⟩) hSS ?_
  refine Ap.wpAnyK_take1 (i := 12) (v := .pointer (some ⟨Q, 0, none⟩)) rfl (by decide +kernel) (by decide +kernel) (by decide +kernel) (by decide +kernel) (fun _ _ _ h => h) (.inl ⟨by first | rfl | (go_simp; done), fun X hX => by first | (go_simp; done) | (go_simp; rfl)⟩) hSS ?_
  refine Ap.wpAnyK_take1 (i := 13) (v := .slice (some ⟨g, 0, none⟩) n cap) rfl (by decide +kernel) (by decide +kernel) (by decide +kernel) (by decide +kernel) (fun _ _ _ h => h) (.inl ⟨by first | rfl | (go_simp; done), fun X hX => by first | (go_simp; done) | (go_simp; rfl)⟩) hSS ?_
  refine Ap.wpAnyK_take1 (i := 14) (v := .int .i64 (j : Int)) rfl (by decide +kernel) (by decide +kernel) (by decide +kernel) (by decide +kernel) (fun _ _ _ h => h) (.inl ⟨by first | rfl | (go_simp; done), fun X hX => by first | (go_simp; done) | (go_simp; rfl)⟩) hSS ?_
  refine Ap.wpAnyK_take1 (i := 15) (v := .pointer (some ⟨g, j * 2, none⟩)) rfl (by decide +kernel) (by decide +kernel) (by decide +kernel) (by decide +kernel) (fun _ _ _ h => h) (.inl ⟨by first | rfl | (go_simp; done), fun X hX => by first | (go_simp; done) | (go_simp; rfl)⟩) hSS ?_
  refine Ap.wpAnyK_take2 (i := 16) (v := .agg #[.int .i64 j1, .int .i64 j2]) rfl (by decide +kernel) (by decide +kernel) (by decide +kernel) (by decide +kernel) rfl (by decide +kernel) (by decide +kernel) (fun _ _ _ h => h) (.inl ⟨by first | rfl | (go_simp; done), fun X hX => by obtain ⟨hX1, hX2, hX3, hX4, hX5⟩ := hX; first | (go_simp; done) | (go_simp; rfl)⟩) hSS ?_
  refine Ap.wpAnyK_take1 (i := 17) (v := .pointer (some ⟨Q, 0, none⟩)) rfl (by decide +kernel) (by decide +kernel) (by decide +kernel) (by decide +kernel) (fun _ _ _ h => h) (.inl ⟨by first | rfl | (go_simp; done), fun X hX => by first | (go_simp; done) | (go_simp; rfl)⟩) hSS ?_
  refine Ap.wpAnyK_take1 (i := 18) (v := .pointer (some ⟨Q, 0, none⟩)) rfl (by decide +kernel) (by decide +kernel) (by decide +kernel) (by decide +kernel) (fun _ _ _ h => h) (.inl ⟨by first | rfl | (go_simp; done), fun X hX => by first | (go_simp; done) | (go_simp; rfl)⟩) hSS ?_
  refine Ap.wpAnyK_take1 (i := 19) (v := .pointer (some ⟨Q, 0, none⟩)) rfl (by decide +kernel) (by decide +kernel) (by decide +kernel) (by decide +kernel) (fun _ _ _ h => h) (.inl ⟨by first | rfl | (go_simp; done), fun X hX => by first | (go_simp; done) | (go_simp; rfl)⟩) hSS ?_
  refine Ap.wpAnyK_take1 (i := 20) (v := .slice (some ⟨g, 0, none⟩) n cap) rfl (by decide +kernel) (by decide +kernel) (by decide +kernel) (by decide +kernel) (fun _ _ _ h => h) (.inl ⟨by first | rfl | (go_simp; done), fun X hX => by first | (go_simp; done) | (go_simp; rfl)⟩) hSS ?_
  refine Ap.wpAnyK_take1 (i := 21) (v := .int .i64 (i : Int)) rfl (by decide +kernel) (by decide +kernel) (by decide +kernel) (by decide +kernel) (fun _ _ _ h => h) (.inl ⟨by first | rfl | (go_simp; done), fun X hX => by first | (go_simp; done) | (go_simp; rfl)⟩) hSS ?_
  refine Ap.wpAnyK_take1 (i := 22) (v := .pointer (some ⟨g, i * 2, none⟩)) rfl (by decide +kernel) (by decide +kernel) (by decide +kernel) (by decide +kernel) (fun _ _ _ h => h) (.inl ⟨by first | rfl | (go_simp; done), fun X hX => by first | (go_simp; done) | (go_simp; rfl)⟩) hSS ?_
  refine Ap.wpAnyK_take2 (i := 23) (v := .agg #[.int .i64 i1, .int .i64 i2]) rfl (by decide +kernel) (by decide +kernel) (by decide +kernel) (by decide +kernel) rfl (by decide +kernel) (by decide +kernel) (fun _ _ _ h => h) (.inl ⟨by first | rfl | (go_simp; done), fun X hX => by obtain ⟨hX1, hX2, hX3, hX4, hX5⟩ := hX; first | (go_simp; done) | (go_simp; rfl)⟩) hSS ?_
  refine Ap.anyK_val1 (i := 24) (v := .pointer (some ⟨g, i * 2, none⟩)) (w' := X0) (by decide +kernel) rfl rfl (by first | (go_simp; done) | (go_simp; rfl)) hSS ?_
  have w1 := ((wrote_refl HG0.out).set (i * 2) (.int .i64 j1)).set (i * 2 + 1) (.int .i64 j2)
  have z0 : X0.cell? ⟨g, i * 2, none⟩ = some (.int .i64 i1) := hSS.2.1
  have z1 : X0.cell? ⟨g, i * 2 + 1, none⟩ = some (.int .i64 i2) := hSS.2.2.1
  have f0 := free_of_block (i * 2) HG0.out
  have f1 := free_of_block (i * 2 + 1) HG0.out
  have hQ1 := (w1.rest Q (by have := HGQ.out; omega)).trans HT0.out.blk
  have hS1 : ((X0.setCell ⟨g, i * 2, none⟩ (.int .i64 j1)).setCell ⟨g, i * 2 + 1, none⟩ (.int .i64 j2)).cell? ⟨Q, 0, none⟩ = some (.slice (some ⟨g, 0, none⟩) n cap) := cell_of_block (o := 0) hQ1 rfl
  refine Ap.anyK_store (i := 25) (w' := (X0.setCell ⟨g, i * 2, none⟩ (.int .i64 j1)).setCell ⟨g, i * 2 + 1, none⟩ (.int .i64 j2)) (by decide +kernel) rfl rfl (by decide +kernel) (by first | (go_simp; done) | (go_simp; rfl)) hS1 ?_
  have HW1 := Lib.hid w1
  clear z0 z1 f0 f1 hSS w1 hQ1
  generalize (X0.setCell ⟨g, i * 2, none⟩ (.int .i64 j1)).setCell ⟨g, i * 2 + 1, none⟩ (.int .i64 j2) = X1 at *
  refine anyK_lastT (i := 26) (v := .pointer (some ⟨g, j * 2, none⟩)) (w' := X1) (by decide +kernel) rfl rfl (by decide +kernel) (by first | (go_simp; done) | (go_simp; rfl)) hS1 ?_
  clear hS1
  obtain ⟨vj0, hvj0⟩ : ∃ x, ((cur.setIfInBounds (i * 2) (.int .i64 j1)).setIfInBounds (i * 2 + 1) (.int .i64 j2))[j * 2]? = some x := by
    have h1 := (Array.getElem?_eq_some_iff.1 HCj.out.1).1
    exact ⟨_, Array.getElem?_eq_getElem (by simpa using h1)⟩
  obtain ⟨vj1, hvj1⟩ : ∃ x, ((cur.setIfInBounds (i * 2) (.int .i64 j1)).setIfInBounds (i * 2 + 1) (.int .i64 j2))[j * 2 + 1]? = some x := by
    have h1 := (Array.getElem?_eq_some_iff.1 HCj.out.2).1
    exact ⟨_, Array.getElem?_eq_getElem (by simpa using h1)⟩
  have z0 := cell_of_block HW1.out.there hvj0
  have z1 := cell_of_block HW1.out.there hvj1
  have f0 := free_of_block (j * 2) HW1.out.there
  have f1 := free_of_block (j * 2 + 1) HW1.out.there
  clear hvj0 hvj1
  have w2 := (HW1.out.set (j * 2) (.int .i64 i1)).set (j * 2 + 1) (.int .i64 i2)
  have hQ2 := (w2.rest Q (by have := HGQ.out; omega)).trans HT0.out.blk
  have hS2 : ((X1.setCell ⟨g, j * 2, none⟩ (.int .i64 i1)).setCell ⟨g, j * 2 + 1, none⟩ (.int .i64 i2)).cell? ⟨Q, 0, none⟩ = some (.slice (some ⟨g, 0, none⟩) n cap) := cell_of_block (o := 0) hQ2 rfl
  refine Ap.anyK_store (i := 27) (w' := (X1.setCell ⟨g, j * 2, none⟩ (.int .i64 i1)).setCell ⟨g, j * 2 + 1, none⟩ (.int .i64 i2)) (by decide +kernel) rfl rfl (by decide +kernel) (by first | (go_simp; done) | (go_simp; rfl)) hS2 ?_
  have HW2 := Lib.hid w2
  clear z0 z1 f0 f1 w2 hQ2 hS2 HW1
  generalize (X1.setCell ⟨g, j * 2, none⟩ (.int .i64 i1)).setCell ⟨g, j * 2 + 1, none⟩ (.int .i64 i2) = X2 at *
  refine Ap.wpAnyK_done (by decide +kernel) ?_ _
  go_simp
  obtain ⟨B, hB⟩ : ∃ B, B = swapA A i j := ⟨_, rfl⟩
  have HT2 := Lib.hid (show Tq X2 Q m (.slice (some ⟨g, 0, none⟩) n cap) B pm c from ⟨(HW2.out.rest Q (by have := HGQ.out; omega)).trans HT0.out.blk, by rw [hB]; exact HROW.out X2 HW2.out.there, HT0.out.map.keep (HW2.out.rest m (by have := HGQ.out; omega))⟩)
  have HF2 := Lib.hid (show FrT Q m (.slice (some ⟨g, 0, none⟩) n cap) w X2 from HF0.out.trans ⟨HW2.out.os, HW2.out.tape, HW2.out.output, Nat.le_of_eq HW2.out.size.symm, fun k _ _ _ hk => HW2.out.rest k (fun e => hk (by rw [e]; rfl))⟩ (RowN.refl _ _))
  have HGA := Lib.hid HW2.out.there
  obtain ⟨b1, hb1⟩ : ∃ x, ((((cur.setIfInBounds (i * 2) (.int .i64 j1)).setIfInBounds (i * 2 + 1) (.int .i64 j2)).setIfInBounds (j * 2) (.int .i64 i1)).setIfInBounds (j * 2 + 1) (.int .i64 i2))[i * 2 + 1]? = some x := by
    have h1 := (Array.getElem?_eq_some_iff.1 HCi.out.2).1
    exact ⟨_, Array.getElem?_eq_getElem (by simpa using h1)⟩
  obtain ⟨b2, hb2⟩ : ∃ x, ((((cur.setIfInBounds (i * 2) (.int .i64 j1)).setIfInBounds (i * 2 + 1) (.int .i64 j2)).setIfInBounds (j * 2) (.int .i64 i1)).setIfInBounds (j * 2 + 1) (.int .i64 i2))[j * 2 + 1]? = some x := by
    have h1 := (Array.getElem?_eq_some_iff.1 HCj.out.2).1
    exact ⟨_, Array.getElem?_eq_getElem (by simpa using h1)⟩
  have e1 := HNEW.out i b1 HIJ.out.1 hb1
  have e2 := HNEW.out j b2 HIJ.out.2 hb2
  have g1 : gA (swapA A i j) i = (j1, j2) := by
    have hl := HN.out
    rw [gA_swap (by rw [← hl]; exact HIJ.out.1) (by rw [← hl]; exact HIJ.out.2), ← HAI.out, ← HAJ.out]
    by_cases e : i = j
    · rw [if_pos e]
      have := HAI.out
      rw [e, ← HAJ.out] at this
      exact this
    · rw [if_neg e, if_pos rfl]
  have g2 : gA (swapA A i j) j = (i1, i2) := by
    have hl := HN.out
    rw [gA_swap (by rw [← hl]; exact HIJ.out.1) (by rw [← hl]; exact HIJ.out.2), ← HAI.out, if_pos rfl]
  rw [g1] at e1
  rw [g2] at e2
  subst e1 e2
  dsimp only at hb1 hb2
  have HB1 := Lib.hid hb1
  have HB2 := Lib.hid hb2
  clear hb1 hb2 g1 g2 HW2 HROW HNEW HCi HCj HF0 HT0 HG0
  go_upto_region 1 with fail
  refine wp_region_held (S := fun X => X.cell? ⟨Q, 0, none⟩ = some (.slice (some ⟨g, 0, none⟩) n cap) ∧ X.cell? ⟨Q, 1, none⟩ = some (.map (some m)) ∧ X.cell? ⟨g, i * 2 + 1, none⟩ = some (.int .i64 j2) ∧ X.cell? ⟨g, j * 2 + 1, none⟩ = some (.int .i64 i2)) hmx ?_
  change wpAnyH _ _ _ _ _ 32 _ _ X2.drew
  have HD := Lib.hid (show Below X2.heap.size X2 X2.drew from (Below.refl _ _).drew)
  have HT3 := Lib.hid (HT2.out.below HD.out)
  have HG3 := Lib.hid ((HD.out.block g (Array.getElem?_eq_some_iff.1 HGA.out).1).trans HGA.out)
  have HF3 := Lib.hid (HF2.out.trans (FrT.of_below (Q := Q) (m := m) (v := .slice (some ⟨g, 0, none⟩) n cap) HD.out) (RowN.refl _ _))
  clear HD HT2 HGA HF2
  generalize X2.drew = X3 at *
  have hS : X3.cell? ⟨Q, 0, none⟩ = some (.slice (some ⟨g, 0, none⟩) n cap) ∧ X3.cell? ⟨Q, 1, none⟩ = some (.map (some m)) ∧ X3.cell? ⟨g, i * 2 + 1, none⟩ = some (.int .i64 j2) ∧ X3.cell? ⟨g, j * 2 + 1, none⟩ = some (.int .i64 i2) := ⟨cell_of_block (o := 0) HT3.out.blk rfl, cell_of_block (o := 1) HT3.out.blk rfl, cell_of_block HG3.out HB1.out, cell_of_block HG3.out HB2.out⟩
  (refine wpAnyH_take (i := 0) (v := .pointer (some ⟨Q, 0, none⟩)) rfl (by decide +kernel) (by decide +kernel) (by decide +kernel) (fun _ _ _ h => h) (.inl ⟨by first | rfl | (go_simp; done), fun X hX => by obtain ⟨hx0, hx1, hx2, hx3⟩ := hX; first | (go_simp; done) | (go_simp; rfl)⟩) hS ?_)
  (refine wpAnyH_take (i := 1) (v := .pointer (some ⟨Q, 0, none⟩)) rfl (by decide +kernel) (by decide +kernel) (by decide +kernel) (fun _ _ _ h => h) (.inl ⟨by first | rfl | (go_simp; done), fun X hX => by obtain ⟨hx0, hx1, hx2, hx3⟩ := hX; first | (go_simp; done) | (go_simp; rfl)⟩) hS ?_)
  (refine wpAnyH_take (i := 2) (v := .pointer (some ⟨Q, 1, none⟩)) rfl (by decide +kernel) (by decide +kernel) (by decide +kernel) (fun _ _ _ h => h) (.inl ⟨by first | rfl | (go_simp; done), fun X hX => by obtain ⟨hx0, hx1, hx2, hx3⟩ := hX; first | (go_simp; done) | (go_simp; rfl)⟩) hS ?_)
  (refine wpAnyH_take (i := 3) (v := .map (some m)) rfl (by decide +kernel) (by decide +kernel) (by decide +kernel) (fun _ _ _ h => h) (.inl ⟨by first | rfl | (go_simp; done), fun X hX => by obtain ⟨hx0, hx1, hx2, hx3⟩ := hX; first | (go_simp; done) | (go_simp; rfl)⟩) hS ?_)
  (refine wpAnyH_take (i := 4) (v := .pointer (some ⟨Q, 0, none⟩)) rfl (by decide +kernel) (by decide +kernel) (by decide +kernel) (fun _ _ _ h => h) (.inl ⟨by first | rfl | (go_simp; done), fun X hX => by obtain ⟨hx0, hx1, hx2, hx3⟩ := hX; first | (go_simp; done) | (go_simp; rfl)⟩) hS ?_)
  (refine wpAnyH_take (i := 5) (v := .pointer (some ⟨Q, 0, none⟩)) rfl (by decide +kernel) (by decide +kernel) (by decide +kernel) (fun _ _ _ h => h) (.inl ⟨by first | rfl | (go_simp; done), fun X hX => by obtain ⟨hx0, hx1, hx2, hx3⟩ := hX; first | (go_simp; done) | (go_simp; rfl)⟩) hS ?_)
  (refine wpAnyH_take (i := 6) (v := .pointer (some ⟨Q, 0, none⟩)) rfl (by decide +kernel) (by decide +kernel) (by decide +kernel) (fun _ _ _ h => h) (.inl ⟨by first | rfl | (go_simp; done), fun X hX => by obtain ⟨hx0, hx1, hx2, hx3⟩ := hX; first | (go_simp; done) | (go_simp; rfl)⟩) hS ?_)
  (refine wpAnyH_take (i := 7) (v := .slice (some ⟨g, 0, none⟩) n cap) rfl (by decide +kernel) (by decide +kernel) (by decide +kernel) (fun _ _ _ h => h) (.inl ⟨by first | rfl | (go_simp; done), fun X hX => by obtain ⟨hx0, hx1, hx2, hx3⟩ := hX; first | (go_simp; done) | (go_simp; rfl)⟩) hS ?_)
  (refine wpAnyH_take (i := 8) (v := .int .i64 (i : Int)) rfl (by decide +kernel) (by decide +kernel) (by decide +kernel) (fun _ _ _ h => h) (.inl ⟨by first | rfl | (go_simp; done), fun X hX => by obtain ⟨hx0, hx1, hx2, hx3⟩ := hX; first | (go_simp; done) | (go_simp; rfl)⟩) hS ?_)
  (refine wpAnyH_take (i := 9) (v := .pointer (some ⟨g, i * 2, none⟩)) rfl (by decide +kernel) (by decide +kernel) (by decide +kernel) (fun _ _ _ h => h) (.inl ⟨by first | rfl | (go_simp; done), fun X hX => by obtain ⟨hx0, hx1, hx2, hx3⟩ := hX; first | (go_simp; done) | (go_simp; rfl)⟩) hS ?_)
  (refine wpAnyH_take (i := 10) (v := .pointer (some ⟨g, i * 2 + 1, none⟩)) rfl (by decide +kernel) (by decide +kernel) (by decide +kernel) (fun _ _ _ h => h) (.inl ⟨by first | rfl | (go_simp; done), fun X hX => by obtain ⟨hx0, hx1, hx2, hx3⟩ := hX; first | (go_simp; done) | (go_simp; rfl)⟩) hS ?_)
  (refine wpAnyH_take (i := 11) (v := .int .i64 j2) rfl (by decide +kernel) (by decide +kernel) (by decide +kernel) (fun _ _ _ h => h) (.inl ⟨by first | rfl | (go_simp; done), fun X hX => by obtain ⟨hx0, hx1, hx2, hx3⟩ := hX; first | (go_simp; done) | (go_simp; rfl)⟩) hS ?_)
  (refine wpAnyH_take (i := 12) (v := .pointer (some ⟨Q, 0, none⟩)) rfl (by decide +kernel) (by decide +kernel) (by decide +kernel) (fun _ _ _ h => h) (.inl ⟨by first | rfl | (go_simp; done), fun X hX => by obtain ⟨hx0, hx1, hx2, hx3⟩ := hX; first | (go_simp; done) | (go_simp; rfl)⟩) hS ?_)
  (refine wpAnyH_take (i := 13) (v := .pointer (some ⟨Q, 0, none⟩)) rfl (by decide +kernel) (by decide +kernel) (by decide +kernel) (fun _ _ _ h => h) (.inl ⟨by first | rfl | (go_simp; done), fun X hX => by obtain ⟨hx0, hx1, hx2, hx3⟩ := hX; first | (go_simp; done) | (go_simp; rfl)⟩) hS ?_)
  (refine wpAnyH_take (i := 14) (v := .pointer (some ⟨Q, 1, none⟩)) rfl (by decide +kernel) (by decide +kernel) (by decide +kernel) (fun _ _ _ h => h) (.inl ⟨by first | rfl | (go_simp; done), fun X hX => by obtain ⟨hx0, hx1, hx2, hx3⟩ := hX; first | (go_simp; done) | (go_simp; rfl)⟩) hS ?_)
  (refine wpAnyH_take (i := 15) (v := .map (some m)) rfl (by decide +kernel) (by decide +kernel) (by decide +kernel) (fun _ _ _ h => h) (.inl ⟨by first | rfl | (go_simp; done), fun X hX => by obtain ⟨hx0, hx1, hx2, hx3⟩ := hX; first | (go_simp; done) | (go_simp; rfl)⟩) hS ?_)
  (refine wpAnyH_take (i := 16) (v := .pointer (some ⟨Q, 0, none⟩)) rfl (by decide +kernel) (by decide +kernel) (by decide +kernel) (fun _ _ _ h => h) (.inl ⟨by first | rfl | (go_simp; done), fun X hX => by obtain ⟨hx0, hx1, hx2, hx3⟩ := hX; first | (go_simp; done) | (go_simp; rfl)⟩) hS ?_)
  (refine wpAnyH_take (i := 17) (v := .pointer (some ⟨Q, 0, none⟩)) rfl (by decide +kernel) (by decide +kernel) (by decide +kernel) (fun _ _ _ h => h) (.inl ⟨by first | rfl | (go_simp; done), fun X hX => by obtain ⟨hx0, hx1, hx2, hx3⟩ := hX; first | (go_simp; done) | (go_simp; rfl)⟩) hS ?_)
  (refine wpAnyH_take (i := 18) (v := .pointer (some ⟨Q, 0, none⟩)) rfl (by decide +kernel) (by decide +kernel) (by decide +kernel) (fun _ _ _ h => h) (.inl ⟨by first | rfl | (go_simp; done), fun X hX => by obtain ⟨hx0, hx1, hx2, hx3⟩ := hX; first | (go_simp; done) | (go_simp; rfl)⟩) hS ?_)
  (refine wpAnyH_take (i := 19) (v := .slice (some ⟨g, 0, none⟩) n cap) rfl (by decide +kernel) (by decide +kernel) (by decide +kernel) (fun _ _ _ h => h) (.inl ⟨by first | rfl | (go_simp; done), fun X hX => by obtain ⟨hx0, hx1, hx2, hx3⟩ := hX; first | (go_simp; done) | (go_simp; rfl)⟩) hS ?_)
  (refine wpAnyH_take (i := 20) (v := .int .i64 (j : Int)) rfl (by decide +kernel) (by decide +kernel) (by decide +kernel) (fun _ _ _ h => h) (.inl ⟨by first | rfl | (go_simp; done), fun X hX => by obtain ⟨hx0, hx1, hx2, hx3⟩ := hX; first | (go_simp; done) | (go_simp; rfl)⟩) hS ?_)
  (refine wpAnyH_take (i := 21) (v := .pointer (some ⟨g, j * 2, none⟩)) rfl (by decide +kernel) (by decide +kernel) (by decide +kernel) (fun _ _ _ h => h) (.inl ⟨by first | rfl | (go_simp; done), fun X hX => by obtain ⟨hx0, hx1, hx2, hx3⟩ := hX; first | (go_simp; done) | (go_simp; rfl)⟩) hS ?_)
  (refine wpAnyH_take (i := 22) (v := .pointer (some ⟨g, j * 2 + 1, none⟩)) rfl (by decide +kernel) (by decide +kernel) (by decide +kernel) (fun _ _ _ h => h) (.inl ⟨by first | rfl | (go_simp; done), fun X hX => by obtain ⟨hx0, hx1, hx2, hx3⟩ := hX; first | (go_simp; done) | (go_simp; rfl)⟩) hS ?_)
  (refine wpAnyH_take (i := 23) (v := .int .i64 i2) rfl (by decide +kernel) (by decide +kernel) (by decide +kernel) (fun _ _ _ h => h) (.inl ⟨by first | rfl | (go_simp; done), fun X hX => by obtain ⟨hx0, hx1, hx2, hx3⟩ := hX; first | (go_simp; done) | (go_simp; rfl)⟩) hS ?_)
  (refine wpAnyH_take (i := 24) (v := .int .i64 (i : Int)) rfl (by decide +kernel) (by decide +kernel) (by decide +kernel) (fun _ _ _ h => h) (.inl ⟨by first | rfl | (go_simp; done), fun X hX => by obtain ⟨hx0, hx1, hx2, hx3⟩ := hX; first | (go_simp; done) | (go_simp; rfl)⟩) hS ?_)
  (refine wpAnyH_take (i := 25) (v := .int .i64 (j : Int)) rfl (by decide +kernel) (by decide +kernel) (by decide +kernel) (fun _ _ _ h => h) (.inl ⟨by first | rfl | (go_simp; done), fun X hX => by obtain ⟨hx0, hx1, hx2, hx3⟩ := hX; first | (go_simp; done) | (go_simp; rfl)⟩) hS ?_)
  obtain ⟨s1, k1, k2⟩ := HT3.out.map.entry HNj.out HPj.out
  refine anyH_one (i := 26) (by decide +kernel) ?_
  refine opH_val (i := 26) (v := .tuple #[.int .i64 (j : Int), .int .i64 (s1 : Int)]) (w' := X3) rfl (by first | rfl | (go_simp; done)) (exec_mapEntry 58 _ _ rfl (by go_simp) (by go_simp) k2) ?_
  refine ⟨hS, ?_⟩
  (refine wpAnyH_take (i := 27) (v := .int .i64 (s1 : Int)) rfl (by decide +kernel) (by decide +kernel) (by decide +kernel) (fun _ _ _ h => h) (.inl ⟨by first | rfl | (go_simp; done), fun X hX => by obtain ⟨hx0, hx1, hx2, hx3⟩ := hX; first | (go_simp; done) | (go_simp; rfl)⟩) hS ?_)
  have hi5 : i < 100000 := by have := HIJ.out; have := HLN.out; omega
  have hj5 : j < 100000 := by have := HIJ.out; have := HLN.out; omega
  obtain ⟨X4, k3, k4, k5, k6⟩ := HT3.out.map.put hc5 HNj.out HPj.out k1 hi5
  have hfr4 := k5.grown
  have hS4 : X4.cell? ⟨Q, 0, none⟩ = some (.slice (some ⟨g, 0, none⟩) n cap) ∧ X4.cell? ⟨Q, 1, none⟩ = some (.map (some m)) ∧ X4.cell? ⟨g, i * 2 + 1, none⟩ = some (.int .i64 j2) ∧ X4.cell? ⟨g, j * 2 + 1, none⟩ = some (.int .i64 i2) := by
    have hq := (hfr4.block Q HT3.out.lt (by intro e; injection e with e; exact HQM.out e)).trans HT3.out.blk
    have hg := (hfr4.block g (Array.getElem?_eq_some_iff.1 HG3.out).1 (by intro e; injection e with e; exact HGQ.out.2.1 e)).trans HG3.out
    exact ⟨cell_of_block (o := 0) hq rfl, cell_of_block (o := 1) hq rfl, cell_of_block hg HB1.out, cell_of_block hg HB2.out⟩
  refine anyH_store (i := 28) (w' := X4) (by decide +kernel) rfl rfl (exec_entryStore 58 _ _ _ rfl (by go_simp) (by go_simp) (by go_simp) k3) hS4 ?_
  have HG4 := Lib.hid hfr4
  have HM4 := Lib.hid k4
  have HT4 := Lib.hid (show Tq X4 Q m (.slice (some ⟨g, 0, none⟩) n cap) B (updP pm j2 i) c from ⟨(hfr4.block Q HT3.out.lt (by intro e; injection e with e; exact HQM.out e)).trans HT3.out.blk, Ap.own_keep HT3.out.row (fun b hb => hfr4.block b (HT3.out.rne hb).2.2 (by intro e; injection e with e; exact (HT3.out.rne hb).2.1 e)), k4⟩)
  have HF4 := Lib.hid (show FrT Q m (.slice (some ⟨g, 0, none⟩) n cap) w X4 from HF3.out.trans ⟨hfr4.os, hfr4.tape, hfr4.output, hfr4.size, fun b hb _ hbm _ => hfr4.block b hb (by intro e; injection e with e; exact hbm e)⟩ (RowN.refl _ _))
  have hGB4 := (hfr4.block g (Array.getElem?_eq_some_iff.1 HG3.out).1 (by intro e; injection e with e; exact HGQ.out.2.1 e)).trans HG3.out
  clear k1 k2 k3 k4 k5 k6 hfr4 hS
  have hp2 : ∃ q, updP pm j2 i i2 = some q := by
    unfold updP
    by_cases e : i2 = j2
    · exact ⟨i, by rw [if_pos e]⟩
    · exact ⟨i, by rw [if_neg e]; exact HPi.out⟩
  obtain ⟨q, hp2⟩ := hp2
  obtain ⟨s2, k1, k2⟩ := HT4.out.map.entry HNi.out hp2
  refine anyH_one (i := 29) (by decide +kernel) ?_
  refine opH_val (i := 29) (v := .tuple #[.int .i64 (q : Int), .int .i64 (s2 : Int)]) (w' := X4) rfl (by first | rfl | (go_simp; done)) (exec_mapEntry 58 _ _ rfl (by go_simp) (by go_simp) k2) ?_
  refine ⟨hS4, ?_⟩
  refine wpAnyH_take (i := 30) (v := .int .i64 (s2 : Int)) rfl (by decide +kernel) (by decide +kernel) (by decide +kernel) (fun _ _ _ h => h) (.inl ⟨by first | rfl | (go_simp; done), fun X hX => by first | (go_simp; done) | (go_simp; rfl)⟩) hS4 ?_
  obtain ⟨X5, k3, k4, k5, k6⟩ := HT4.out.map.put hc5 HNi.out hp2 k1 hj5
  have hfr5 := k5.grown
  have hS5 : X5.cell? ⟨Q, 0, none⟩ = some (.slice (some ⟨g, 0, none⟩) n cap) ∧ X5.cell? ⟨Q, 1, none⟩ = some (.map (some m)) ∧ X5.cell? ⟨g, i * 2 + 1, none⟩ = some (.int .i64 j2) ∧ X5.cell? ⟨g, j * 2 + 1, none⟩ = some (.int .i64 i2) := by
    have hq := (hfr5.block Q HT4.out.lt (by intro e; injection e with e; exact HQM.out e)).trans HT4.out.blk
    have hg := (hfr5.block g (Array.getElem?_eq_some_iff.1 hGB4).1 (by intro e; injection e with e; exact HGQ.out.2.1 e)).trans hGB4
    exact ⟨cell_of_block (o := 0) hq rfl, cell_of_block (o := 1) hq rfl, cell_of_block hg HB1.out, cell_of_block hg HB2.out⟩
  refine anyH_store (i := 31) (w' := X5) (by decide +kernel) rfl rfl (exec_entryStore 58 _ _ _ rfl (by go_simp) (by go_simp) (by go_simp) k3) hS5 ?_
  have HT5 := Lib.hid (show Tq X5 Q m (.slice (some ⟨g, 0, none⟩) n cap) (swapA A i j) (swapP A pm i j) c from by
    rw [← hB]
    unfold swapP
    rw [← HAI.out, ← HAJ.out]
    exact ⟨(hfr5.block Q HT4.out.lt (by intro e; injection e with e; exact HQM.out e)).trans HT4.out.blk, Ap.own_keep HT4.out.row (fun b hb => hfr5.block b (HT4.out.rne hb).2.2 (by intro e; injection e with e; exact (HT4.out.rne hb).2.1 e)), k4⟩)
  have HF5 := Lib.hid (show FrT Q m (.slice (some ⟨g, 0, none⟩) n cap) w X5 from HF4.out.trans ⟨hfr5.os, hfr5.tape, hfr5.output, hfr5.size, fun b hb _ hbm _ => hfr5.block b hb (by intro e; injection e with e; exact hbm e)⟩ (RowN.refl _ _))
  clear k1 k2 k3 k4 k5 k6 hfr5 hS4 hS5 hGB4 hp2 HT4 HF4 HT3 HF3 hB
  refine wpAnyH_done (by decide +kernel) ?_ _
  go_simp
  go_wp2_with fail
  go_end0
  exact ⟨rfl, HT5.out, HF5.out⟩
end Go.Proofs.Ytfakejfpicjedaa
