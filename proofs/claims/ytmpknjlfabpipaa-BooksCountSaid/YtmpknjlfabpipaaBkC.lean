/- A line of books changed, whatever becomes of it (layer 14). No condition. -/
import Derived.Test.YtmpknjlfabpipaaBkB
import Derived.Shelf.Abstract
namespace Go.Proofs.Ytmpknjlfabpipaa
set_option linter.unusedVariables false
open Go.ChangeShapes Go.WideShapes Go.ChangeAt Go.RowKit Bk
attribute [local go_sem ↓] Go.wp_at_zero Go.wp_at_succ comesTo_value_eq comesTo_skip_eq comesTo_enter_eq Rl.comesToR_value_eq Rl.comesToR_skip_eq Rl.comesToR_enter_eq

theorem exec_load_allH {P : Program} {op : Oper} {ρ : Operand → Value} {w : World} (ty : TypeId) (x : Operand) (ho : op.op = .load ty x) (b : Nat) {T : TypeId} (l : List Value) (d : TypeDesc) (hx : ρ x = .pointer (some ⟨b, 0, none⟩))
    (hb : w.heap[b]? = some (.cells l.toArray T (0, 0))) (hu : P.underlying ty = some d) (hd : d.isRow = true) (hi : (P.info? ty).map (·.size) = some l.length) : (execOp ρ op).run P w = .ok (.value (.agg l.toArray)) w := by
  unfold execOp
  simp only [ho, hx, Sem.run_bind, run_loadAt_mid w b 0 ty l d (range_of_block hb) hu hd hi, Result.andThen_ok, Sem.run_pure]
theorem exec_mapUpdate {P : Program} {op : Oper} {ρ : Operand → Value} {w w' : World} (t : TypeId) (m x v : Operand) (ho : op.op = .mapUpdate t m x v) {vm vx vv : Value} (hm : ρ m = vm) (hx : ρ x = vx) (hv : ρ v = vv)
    (h : (Instr.mapUpdate t vm vx vv).run P w = .ok () w') : (execOp ρ op).run P w = .ok .skip w' := by
  unfold execOp
  simp only [ho, hm, hx, hv, Sem.run_bind, h, Result.andThen_ok, Sem.run_pure]
set_option maxRecDepth 100000 in
set_option maxHeartbeats 8000000 in
theorem change_bk {w : World} {b m : Nat} {h : Int} {L : List LV} (H : BkAt w b m h L) {u : Int} (h0 : 1 ≤ u) (h1 : u ≤ 16) (fb : FuncId) (bd : Value) (hE : Go.Proofs.Enters Try.prog fb) (y z : LV) (hy : y = (lineB L u).set 0 u) (hz : z.length = 9) (hzu : usr z = u)
    (hC : ∀ X : World, Calls Try.prog fb #[bd, .agg (vL y).toArray] X fun e w' => e = .returned (.agg (vL z).toArray) ∧ Below X.heap.size X w') :
    Calls Try.prog 17 #[.pointer (some ⟨b, 0, none⟩), .int .i64 u, .func (.func fb) #[bd] #[]] w fun e w' => e = .returned (.tuple #[]) ∧ BkAt w' b m h (putB L z) ∧ w.grownBy w' (some m) := by
  have hmx : Try.prog.follows .mixedOrders = true := by kernel_rfl
  unfold Go.Proofs.Enters at hE
  have HC := Lib.hid hC
  have HH := Lib.hid H
  have HL := Lib.hid (H.good.line u)
  have hlk := H.look (u := u) (by omega) (by omega)
  have c1 : w.cell? ⟨b, 1, none⟩ = some (.map (some m)) := cell_of_block (o := 1) H.blk rfl
  have HZ := Lib.hid (And.intro hz hzu)
  have HU := Lib.hid (And.intro h0 h1)
  obtain ⟨x, hx⟩ : ∃ x, x = lineB L u := ⟨_, rfl⟩
  rw [← hx] at hy HL hlk
  have HY := Lib.hid hy
  obtain ⟨l, hl⟩ : ∃ l, l = vL x := ⟨_, rfl⟩
  have HI := Lib.hid (show (Try.prog.info? 33).map (·.size) = some l.length from by rw [hl]; exact lineInfo HL.out)
  have HLL := Lib.hid (show l.length = 9 from by rw [hl, vL_len]; exact HL.out)
  have HO := Lib.hid (show l.all (·.oneCell') = true from by rw [hl]; exact vL_one _)
  have HG := Lib.hid (show l.toArray[0]? = some (.int .i64 (x.getD 0 0)) from by rw [hl]; exact vL_get HL.out (by decide))
  have HS := Lib.hid (show l.toArray.setIfInBounds 0 (.int .i64 u) = (vL y).toArray from by rw [hl, vL_set, HY.out])
  have HYL := Lib.hid (show y.length = 9 from by rw [HY.out, List.length_set]; exact HL.out)
  rw [← hl] at hlk
  clear hx hy hl hC H hz hzu h0 h1
  have hb0 := below_alloc (Below.refl _ w) (.cells #[.int .i64 0, .int .i64 0, .int .i64 0, .int .i64 0, .int .i64 0, .int .i64 0, .int .i64 0, .int .i64 0, .int .i64 0] 33)
  have HR := Lib.hid (World.alloc_heap_new w (.cells #[.int .i64 0, .int .i64 0, .int .i64 0, .int .i64 0, .int .i64 0, .int .i64 0, .int .i64 0, .int .i64 0, .int .i64 0] 33))
  have HB := Lib.hid hb0
  clear hb0
  go_enter Try.func17, Try.ntmps17
  go_upto_region 0 with fail
  refine wp_region_lit ?_
  refine wpList_yield (w' := w) (v := .pointer (some ⟨b, 0, none⟩)) rfl (by go_simp) ?_
  refine wpList_yield (w' := w) (v := .pointer (some ⟨b, 0, none⟩)) rfl (by go_simp) ?_
  refine wpList_yield (w' := w) (v := .pointer (some ⟨b, 1, none⟩)) rfl (by go_simp) ?_
  refine wpList_yield (w' := w) (v := .map (some m)) rfl (by go_simp) ?_
  refine wpList_yield (w' := w) (v := .int .i64 u) rfl (by go_simp) ?_
  refine wpList_yield (w' := w) (v := .agg l.toArray) rfl (by go_simp) ?_
  clear hlk c1
  refine wpList_yield (w' := w.alloc (.cells #[.int .i64 0, .int .i64 0, .int .i64 0, .int .i64 0, .int .i64 0, .int .i64 0, .int .i64 0, .int .i64 0, .int .i64 0] 33)) (v := .pointer (some ⟨w.heap.size, 0, none⟩)) rfl (by first | (go_simp; done) | (go_simp; rfl)) ?_
  generalize w.alloc (.cells #[.int .i64 0, .int .i64 0, .int .i64 0, .int .i64 0, .int .i64 0, .int .i64 0, .int .i64 0, .int .i64 0, .int .i64 0] 33) = W1 at *
  obtain ⟨q, hq⟩ : ∃ q, q = w.heap.size := ⟨_, rfl⟩
  rw [← hq] at HR ⊢
  have HQ := Lib.hid hq
  clear hq
  refine wpList_store_all rfl 33 _ _ rfl q (T := 33) l (by go_simp) (by go_simp) HR.out (by rw [HLL.out]; rfl) HI.out HO.out ?_
  intro w2 hw2
  have HB2 := Lib.hid (hw2.below HB.out (by have := HQ.out; omega))
  have HR2 := Lib.hid hw2.there
  clear hw2
  rename_i hK
  refine hK _ _ ?_
  go_simp
  have z0 := cell_of_block (o := 0) HR2.out HG.out
  have f0 := free_of_block 0 HR2.out
  have hw := (wrote_refl HR2.out).set 0 (.int .i64 u)
  rw [HS.out] at hw
  have HB3 := Lib.hid (hw.below HB2.out (by have := HQ.out; omega))
  have HR3 := Lib.hid hw.there
  go_upto_region 2 with fail
  clear z0 f0 hw
  generalize w2.setCell ⟨q, 0, none⟩ (.int .i64 u) = W3 at *
  obtain ⟨ly, hly⟩ : ∃ ly, ly = vL y := ⟨_, rfl⟩
  have HIY := Lib.hid (show (Try.prog.info? 33).map (·.size) = some ly.length from by rw [hly]; exact lineInfo HYL.out)
  rw [← hly] at HC HR3
  clear hly
  have HH3 := Lib.hid (HH.out.below HB3.out)
  refine wp_region_held (S := fun X => X.cell? ⟨b, 1, none⟩ = some (.map (some m)) ∧ X.heap[q]? = some (.cells ly.toArray 33 (0, 0))) hmx ?_
  change wpAnyH _ _ _ _ _ 9 _ _ W3.drew
  have HD := Lib.hid (show Below W3.heap.size W3 W3.drew from (Below.refl _ _).drew)
  generalize W3.drew = wd at *
  have HHd := Lib.hid (HH3.out.below HD.out)
  have hS : wd.cell? ⟨b, 1, none⟩ = some (.map (some m)) ∧ wd.heap[q]? = some (.cells ly.toArray 33 (0, 0)) := ⟨cell_of_block (o := 1) HHd.out.blk rfl, (HD.out.block q (Array.getElem?_eq_some_iff.1 HR3.out).1).trans HR3.out⟩
  (refine wpAnyH_take (i := 0) (v := .pointer (some ⟨b, 0, none⟩)) rfl (by decide +kernel) (by decide +kernel) (by decide +kernel) (fun _ _ _ h => h) (.inl ⟨by first | rfl | (go_simp; done), fun X hX => by obtain ⟨hx0, hx1⟩ := hX; first | (go_simp; done) | (go_simp; rfl)⟩) hS ?_)
  (refine wpAnyH_take (i := 1) (v := .pointer (some ⟨b, 0, none⟩)) rfl (by decide +kernel) (by decide +kernel) (by decide +kernel) (fun _ _ _ h => h) (.inl ⟨by first | rfl | (go_simp; done), fun X hX => by obtain ⟨hx0, hx1⟩ := hX; first | (go_simp; done) | (go_simp; rfl)⟩) hS ?_)
  (refine wpAnyH_take (i := 2) (v := .pointer (some ⟨b, 1, none⟩)) rfl (by decide +kernel) (by decide +kernel) (by decide +kernel) (fun _ _ _ h => h) (.inl ⟨by first | rfl | (go_simp; done), fun X hX => by obtain ⟨hx0, hx1⟩ := hX; first | (go_simp; done) | (go_simp; rfl)⟩) hS ?_)
  (refine wpAnyH_take (i := 3) (v := .map (some m)) rfl (by decide +kernel) (by decide +kernel) (by decide +kernel) (fun _ _ _ h => h) (.inl ⟨by first | rfl | (go_simp; done), fun X hX => by obtain ⟨hx0, hx1⟩ := hX; first | (go_simp; done) | (go_simp; rfl)⟩) hS ?_)
  (refine wpAnyH_take (i := 4) (v := .int .i64 u) rfl (by decide +kernel) (by decide +kernel) (by decide +kernel) (fun _ _ _ h => h) (.inl ⟨by first | rfl | (go_simp; done), fun X hX => by obtain ⟨hx0, hx1⟩ := hX; first | (go_simp; done) | (go_simp; rfl)⟩) hS ?_)
  (refine wpAnyH_take (i := 5) (v := .func (.func fb) #[bd] #[]) rfl (by decide +kernel) (by decide +kernel) (by decide +kernel) (fun _ _ _ h => h) (.inl ⟨by first | rfl | (go_simp; done), fun X hX => by obtain ⟨hx0, hx1⟩ := hX; first | (go_simp; done) | (go_simp; rfl)⟩) hS ?_)
  refine wpAnyH_take (i := 6) (v := .agg ly.toArray) rfl (by decide +kernel) (by decide +kernel) (by decide +kernel) (fun _ _ _ h => h) (.inl ⟨by first | rfl | (go_simp; done), fun X hX => by
    obtain ⟨hx0, hx1⟩ := hX
    exact exec_load_allH 33 _ rfl q ly _ (by go_simp) hx1 Try.underlying33 rfl HIY.out⟩) hS ?_
  refine anyH_call (i := 7) (by decide +kernel) rfl (by first | rfl | (go_simp; done)) (by go_simp) (HC.out wd) ?_
  rintro e w4 ⟨rfl, hb4⟩
  have HH4 := Lib.hid (HHd.out.below hb4)
  have HB4 := Lib.hid (below_next (below_next HB3.out HD.out) hb4)
  have HQ4 := Lib.hid ((hb4.block q (Array.getElem?_eq_some_iff.1 hS.2).1).trans hS.2)
  refine ⟨_, rfl, ⟨(hb4.cell (World.block_lt_of_cell? wd _ hS.1)).trans hS.1, (hb4.block q (Array.getElem?_eq_some_iff.1 hS.2).1).trans hS.2⟩, ?_⟩
  clear hS hb4 HD HHd
  obtain ⟨w5, e5, h5, g5⟩ := HH4.out.upd HZ.out.1 (by have := HZ.out.2; have := HU.out; omega) (by have := HZ.out.2; have := HU.out; omega)
  rw [HZ.out.2] at e5
  have HH5 := Lib.hid h5
  have HF5 := Lib.hid (show w.grownBy w5 (some m) from ⟨g5.os.trans HB4.out.os, g5.tape.trans HB4.out.tape, g5.output.trans HB4.out.output, Nat.le_trans HB4.out.size g5.size, fun k hk hne => (g5.block k (Nat.lt_of_lt_of_le hk HB4.out.size) hne).trans (HB4.out.block k hk)⟩)
  have HQ5 := Lib.hid (show w5.cell? ⟨b, 1, none⟩ = some (.map (some m)) ∧ w5.heap[q]? = some (.cells ly.toArray 33 (0, 0)) from ⟨cell_of_block (o := 1) h5.blk rfl, (g5.block q (Array.getElem?_eq_some_iff.1 HQ4.out).1 (by
    have h6 := HH.out.lt.2
    have h7 := HQ.out
    intro h8
    injection h8 with h8
    omega)).trans HQ4.out⟩)
  refine anyH_store (i := 8) (w' := w5) (by decide +kernel) rfl rfl (exec_mapUpdate 26 _ _ _ rfl (by go_simp) (by go_simp) (by go_simp) e5) HQ5.out ?_
  refine wpAnyH_done (by decide +kernel) ?_ _
  clear e5 h5 g5
  go_simp
  go_wp2_with fail
  go_end0
  exact ⟨rfl, HH5.out, HF5.out⟩
end Go.Proofs.Ytmpknjlfabpipaa
