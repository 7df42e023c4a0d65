/- Laws that belong together: A line of books changed, whatever becomes of it (layer 14). No condition.; What an entry makes of a line (layer 14). Conditions: the line's numbers are within their bounds.; Note and Charge of books (layer 14), by books that were made and by nobody's. Condition: the lines' numbers are within their bounds. -/
import Derived.Test.YthflogeaielhlaaGreatDoorMBkB
import Derived.Shelf.Abstract
import Derived.Test.YthflogeaielhlaaGreatDoorMac
import Derived.Test.YthflogeaielhlaaGreatDoorMaa
namespace Go.Proofs.YthflogeaielhlaaGreatDoor
set_option linter.unusedVariables false
open Go.ChangeShapes Go.WideShapes Go.ChangeAt Go.RowKit Bk
attribute [local go_sem ↓] Go.wp_at_zero Go.wp_at_succ comesTo_value_eq comesTo_skip_eq comesTo_enter_eq Rl.comesToR_value_eq Rl.comesToR_skip_eq Rl.comesToR_enter_eq

theorem exec_load_allH {P : Program} {op : Oper} {ρ : Operand → Value} {w : World} (ty : TypeId) (x : Operand) (ho : op.op = .load ty x) (b : Nat) {T : TypeId} (l : List Value) (d : TypeDesc) (hx : ρ x = .pointer (some ⟨b, 0, none⟩))
    (hb : w.heap[b]? = some (.cells l.toArray T (0, 0))) (hu : P.underlying ty = some d) (hd : d.isRow = true) (hi : (P.info? ty).map (·.size) = some l.length) : (execOp ρ op).run P w = .ok (.value (.agg l.toArray)) w := by
  unfold execOp
  simp only [ho, hx, Sem.run_bind, run_loadAt_mid w b 0 ty l d (range_of_block hb) hu hd hi, Result.andThen_ok, Sem.run_pure]
theorem exec_mapUpdate {P : Program} {op : Oper} {ρ : Operand → Value} {w w' : World} (t : TypeId) (m x v : Operand) (ho : op.op = .mapUpdate t m x v) {vm vx vv : Value} (hm : ρ m = vm) (hx : ρ x = vx) (hv : ρ v = vv)
    (h : (Instr.mapUpdate t vm vx vv).run P w = .ok () w') : (execOp ρ op).run P w = .ok .skip w' := by
  unfold execOp
  simp only [ho, hm, hx, hv, Sem.run_bind, h, Result.andThen_ok, Sem.run_pure]
set_option maxRecDepth 100000 in
set_option maxHeartbeats 8000000 in
theorem change_bk {w : World} {b m : Nat} {h : Int} {L : List LV} (H : BkAt w b m h L) {u : Int} (h0 : 1 ≤ u) (h1 : u ≤ 16) (fb : FuncId) (bd : Value) (hE : Go.Proofs.Enters Tryz.prog fb) (y z : LV) (hy : y = (lineB L u).set 0 u) (hz : z.length = 9) (hzu : usr z = u)
    (hC : ∀ X : World, Calls Tryz.prog fb #[bd, .agg (vL y).toArray] X fun e w' => e = .returned (.agg (vL z).toArray) ∧ Below X.heap.size X w') :
    Calls Tryz.prog 41 #[.pointer (some ⟨b, 0, none⟩), .int .i64 u, .func (.func fb) #[bd] #[]] w fun e w' => e = .returned (.tuple #[]) ∧ BkAt w' b m h (putB L z) ∧ w.grownBy w' (some m) := by
  have hmx : Tryz.prog.follows .mixedOrders = true := by kernel_rfl
  unfold Go.Proofs.Enters at hE
  have HC := Lib.hid hC
  have HH := Lib.hid H
  have HL := Lib.hid (H.good.line u)
  have hlk := H.look (u := u) (by omega) (by omega)
  have c1 : w.cell? ⟨b, 1, none⟩ = some (.map (some m)) := cell_of_block (o := 1) H.blk rfl
  have HZ := Lib.hid (And.intro hz hzu)
  have HU := Lib.hid (And.intro h0 h1)
  obtain ⟨x, hx⟩ : ∃ x, x = lineB L u := ⟨_, rfl⟩
  rw [← hx] at hy HL hlk
  have HY := Lib.hid hy
  obtain ⟨l, hl⟩ : ∃ l, l = vL x := ⟨_, rfl⟩
  have HI := Lib.hid (show (Tryz.prog.info? 46).map (·.size) = some l.length from by rw [hl]; exact lineInfo HL.out)
  have HLL := Lib.hid (show l.length = 9 from by rw [hl, vL_len]; exact HL.out)
  have HO := Lib.hid (show l.all (·.oneCell') = true from by rw [hl]; exact vL_one _)
  have HG := Lib.hid (show l.toArray[0]? = some (.int .i64 (x.getD 0 0)) from by rw [hl]; exact vL_get HL.out (by decide))
  have HS := Lib.hid (show l.toArray.setIfInBounds 0 (.int .i64 u) = (vL y).toArray from by rw [hl, vL_set, HY.out])
  have HYL := Lib.hid (show y.length = 9 from by rw [HY.out, List.length_set]; exact HL.out)
  rw [← hl] at hlk
  clear hx hy hl hC H hz hzu h0 h1
  have hb0 := below_alloc (Below.refl _ w) (.cells #[.int .i64 0, .int .i64 0, .int .i64 0, .int .i64 0, .int .i64 0, .int .i64 0, .int .i64 0, .int .i64 0, .int .i64 0] 46)
  have HR := Lib.hid (World.alloc_heap_new w (.cells #[.int .i64 0, .int .i64 0, .int .i64 0, .int .i64 0, .int .i64 0, .int .i64 0, .int .i64 0, .int .i64 0, .int .i64 0] 46))
  have HB := Lib.hid hb0
  clear hb0
  go_enter Tryz.func41, Tryz.ntmps41
  go_upto_region 0 with fail
  refine wp_region_lit ?_
  refine wpList_yield (w' := w) (v := .pointer (some ⟨b, 0, none⟩)) rfl (by go_simp) ?_
  refine wpList_yield (w' := w) (v := .pointer (some ⟨b, 0, none⟩)) rfl (by go_simp) ?_
  refine wpList_yield (w' := w) (v := .pointer (some ⟨b, 1, none⟩)) rfl (by go_simp) ?_
  refine wpList_yield (w' := w) (v := .map (some m)) rfl (by go_simp) ?_
  refine wpList_yield (w' := w) (v := .int .i64 u) rfl (by go_simp) ?_
  refine wpList_yield (w' := w) (v := .agg l.toArray) rfl (by go_simp) ?_
  clear hlk c1
  refine wpList_yield (w' := w.alloc (.cells #[.int .i64 0, .int .i64 0, .int .i64 0, .int .i64 0, .int .i64 0, .int .i64 0, .int .i64 0, .int .i64 0, .int .i64 0] 46)) (v := .pointer (some ⟨w.heap.size, 0, none⟩)) rfl (by first | (go_simp; done) | (go_simp; rfl)) ?_
  generalize w.alloc (.cells #[.int .i64 0, .int .i64 0, .int .i64 0, .int .i64 0, .int .i64 0, .int .i64 0, .int .i64 0, .int .i64 0, .int .i64 0] 46) = W1 at *
  obtain ⟨q, hq⟩ : ∃ q, q = w.heap.size := ⟨_, rfl⟩
  rw [← hq] at HR ⊢
  have HQ := Lib.hid hq
  clear hq
  refine wpList_store_all rfl 46 _ _ rfl q (T := 46) l (by go_simp) (by go_simp) HR.out (by rw [HLL.out]; rfl) HI.out HO.out ?_
  intro w2 hw2
  have HB2 := Lib.hid (hw2.below HB.out (by have := HQ.out; omega))
  have HR2 := Lib.hid hw2.there
  clear hw2
  rename_i hK
  refine hK _ _ ?_
  go_simp
  have z0 := cell_of_block (o := 0) HR2.out HG.out
  have f0 := free_of_block 0 HR2.out
  have hw := (wrote_refl HR2.out).set 0 (.int .i64 u)
  rw [HS.out] at hw
  have HB3 := Lib.hid (hw.below HB2.out (by have := HQ.out; omega))
  have HR3 := Lib.hid hw.there
  go_upto_region 2 with fail
  clear z0 f0 hw
  generalize w2.setCell ⟨q, 0, none⟩ (.int .i64 u) = W3 at *
  obtain ⟨ly, hly⟩ : ∃ ly, ly = vL y := ⟨_, rfl⟩
  have HIY := Lib.hid (show (Tryz.prog.info? 46).map (·.size) = some ly.length from by rw [hly]; exact lineInfo HYL.out)
  rw [← hly] at HC HR3
  clear hly
  have HH3 := Lib.hid (HH.out.below HB3.out)
  refine wp_region_held (S := fun X => X.cell? ⟨b, 1, none⟩ = some (.map (some m)) ∧ X.heap[q]? = some (.cells ly.toArray 46 (0, 0))) hmx ?_
  change wpAnyH _ _ _ _ _ 9 _ _ W3.drew
  have HD := Lib.hid (show Below W3.heap.size W3 W3.drew from (Below.refl _ _).drew)
  generalize W3.drew = wd at *
  have HHd := Lib.hid (HH3.out.below HD.out)
  have hS : wd.cell? ⟨b, 1, none⟩ = some (.map (some m)) ∧ wd.heap[q]? = some (.cells ly.toArray 46 (0, 0)) := ⟨cell_of_block (o := 1) HHd.out.blk rfl, (HD.out.block q (Array.getElem?_eq_some_iff.1 HR3.out).1).trans HR3.out⟩
  (refine wpAnyH_take (i := 0) (v := .pointer (some ⟨b, 0, none⟩)) rfl (by decide +kernel) (by decide +kernel) (by decide +kernel) (fun _ _ _ h => h) (.inl ⟨by first | rfl | (go_simp; done), fun X hX => by obtain ⟨hx0, hx1⟩ := hX; first | (go_simp; done) | (go_simp; rfl)⟩) hS ?_)
  (refine wpAnyH_take (i := 1) (v := .pointer (some ⟨b, 0, none⟩)) rfl (by decide +kernel) (by decide +kernel) (by decide +kernel) (fun _ _ _ h => h) (.inl ⟨by first | rfl | (go_simp; done), fun X hX => by obtain ⟨hx0, hx1⟩ := hX; first | (go_simp; done) | (go_simp; rfl)⟩) hS ?_)
  (refine wpAnyH_take (i := 2) (v := .pointer (some ⟨b, 1, none⟩)) rfl (by decide +kernel) (by decide +kernel) (by decide +kernel) (fun _ _ _ h => h) (.inl ⟨by first | rfl | (go_simp; done), fun X hX => by obtain ⟨hx0, hx1⟩ := hX; first | (go_simp; done) | (go_simp; rfl)⟩) hS ?_)
  (refine wpAnyH_take (i := 3) (v := .map (some m)) rfl (by decide +kernel) (by decide +kernel) (by decide +kernel) (fun _ _ _ h => h) (.inl ⟨by first | rfl | (go_simp; done), fun X hX => by obtain ⟨hx0, hx1⟩ := hX; first | (go_simp; done) | (go_simp; rfl)⟩) hS ?_)
  (refine wpAnyH_take (i := 4) (v := .int .i64 u) rfl (by decide +kernel) (by decide +kernel) (by decide +kernel) (fun _ _ _ h => h) (.inl ⟨by first | rfl | (go_simp; done), fun X hX => by obtain ⟨hx0, hx1⟩ := hX; first | (go_simp; done) | (go_simp; rfl)⟩) hS ?_)
  (refine wpAnyH_take (i := 5) (v := .func (.func fb) #[bd] #[]) rfl (by decide +kernel) (by decide +kernel) (by decide +kernel) (fun _ _ _ h => h) (.inl ⟨by first | rfl | (go_simp; done), fun X hX => by obtain ⟨hx0, hx1⟩ := hX; first | (go_simp; done) | (go_simp; rfl)⟩) hS ?_)
  refine wpAnyH_take (i := 6) (v := .agg ly.toArray) rfl (by decide +kernel) (by decide +kernel) (by decide +kernel) (fun _ _ _ h => h) (.inl ⟨by first | rfl | (go_simp; done), fun X hX => by
    obtain ⟨hx0, hx1⟩ := hX
    exact exec_load_allH 46 _ rfl q ly _ (by go_simp) hx1 Tryz.underlying46 rfl HIY.out⟩) hS ?_
  refine anyH_call (i := 7) (by decide +kernel) rfl (by first | rfl | (go_simp; done)) (by go_simp) (HC.out wd) ?_
  rintro e w4 ⟨rfl, hb4⟩
  have HH4 := Lib.hid (HHd.out.below hb4)
  have HB4 := Lib.hid (below_next (below_next HB3.out HD.out) hb4)
  have HQ4 := Lib.hid ((hb4.block q (Array.getElem?_eq_some_iff.1 hS.2).1).trans hS.2)
  refine ⟨_, rfl, ⟨(hb4.cell (World.block_lt_of_cell? wd _ hS.1)).trans hS.1, (hb4.block q (Array.getElem?_eq_some_iff.1 hS.2).1).trans hS.2⟩, ?_⟩
  clear hS hb4 HD HHd
  obtain ⟨w5, e5, h5, g5⟩ := HH4.out.upd HZ.out.1 (by have := HZ.out.2; have := HU.out; omega) (by have := HZ.out.2; have := HU.out; omega)
  rw [HZ.out.2] at e5
  have HH5 := Lib.hid h5
  have HF5 := Lib.hid (show w.grownBy w5 (some m) from ⟨g5.os.trans HB4.out.os, g5.tape.trans HB4.out.tape, g5.output.trans HB4.out.output, Nat.le_trans HB4.out.size g5.size, fun k hk hne => (g5.block k (Nat.lt_of_lt_of_le hk HB4.out.size) hne).trans (HB4.out.block k hk)⟩)
  have HQ5 := Lib.hid (show w5.cell? ⟨b, 1, none⟩ = some (.map (some m)) ∧ w5.heap[q]? = some (.cells ly.toArray 46 (0, 0)) from ⟨cell_of_block (o := 1) h5.blk rfl, (g5.block q (Array.getElem?_eq_some_iff.1 HQ4.out).1 (by
    have h6 := HH.out.lt.2
    have h7 := HQ.out
    intro h8
    injection h8 with h8
    omega)).trans HQ4.out⟩)
  refine anyH_store (i := 8) (w' := w5) (by decide +kernel) rfl rfl (exec_mapUpdate 48 _ _ _ rfl (by go_simp) (by go_simp) (by go_simp) e5) HQ5.out ?_
  refine wpAnyH_done (by decide +kernel) ?_ _
  clear e5 h5 g5
  go_simp
  go_wp2_with fail
  go_end0
  exact ⟨rfl, HH5.out, HF5.out⟩
end Go.Proofs.YthflogeaielhlaaGreatDoor
namespace Go.Proofs.YthflogeaielhlaaGreatDoor
set_option linter.unusedVariables false
open Go.ChangeShapes Go.WideShapes Go.ChangeAt Go.RowKit Bk
attribute [local go_sem ↓] Go.wp_at_zero Go.wp_at_succ comesTo_value_eq comesTo_skip_eq comesTo_enter_eq Rl.comesToR_value_eq Rl.comesToR_skip_eq Rl.comesToR_enter_eq

/-- numbers within their bounds -/
structure Num (l : LV) : Prop where
  c : ∀ i, 1 ≤ i → i ≤ 5 → 0 ≤ l.getD i 0 ∧ l.getD i 0 ≤ 1073741824
  t : 0 ≤ l.getD 6 0 ∧ l.getD 6 0 ≤ 1125899906842624
  s : 0 ≤ l.getD 7 0 ∧ l.getD 7 0 ≤ 1125899906842624
  n : 0 ≤ l.getD 8 0 ∧ l.getD 8 0 ≤ 1099511627776
def noteL (k : Nat) (l : LV) : LV := l.set (1 + k) (min (l.getD (1 + k) 0 + 1) 1073741824)
def chargeL (now half used : Int) (l : LV) : LV :=
  ((l.set 6 (min (l.getD 6 0 + used) 1125899906842624)).set 7 (chargeI (l.getD 7 0) (l.getD 8 0) now half used).1).set 8 (chargeI (l.getD 7 0) (l.getD 8 0) now half used).2
theorem getD_set (l : LV) (k : Nat) (x : Int) (i : Nat) : (l.set k x).getD i 0 = if k = i ∧ i < l.length then x else l.getD i 0 := by
  simp only [List.getD, List.getElem?_set]
  by_cases h : k = i
  · subst h
    by_cases h2 : k < l.length
    · simp [h2]
    · simp [h2]
  · simp [h]
def entC (k now half used : Int) : Array Value := #[.int .i64 k, .int .i64 now, .int .i64 half, .int .i64 used]
theorem storeInfo : (Tryz.prog.info? 46).map (·.size) = some 9 := by kernel_rfl
def bmin (x y : Int) : Int := if y < x then y else x
theorem bmin_eq (x y : Int) : bmin x y = min x y := by unfold bmin; split <;> omega
theorem run_bmin {P : Program} (w : World) (ts : Array TypeId) (t : TypeId) (k k' : IntKind) (x y : Int) : (Builtin.min_ ts t #[.int k x, .int k' y]).run P w = .ok (.int k (bmin x y)) w := run_min_int2 w ts t k k' x y
attribute [local go_sem high] run_bmin
set_option maxRecDepth 100000 in
set_option maxHeartbeats 8000000 in
theorem charge_e (k n h us : Int) (hus : 0 ≤ us ∧ us ≤ 1125899906842624) (y : LV) (hy : y.length = 9) (hN : Num y) (w : World) :
    Calls Tryz.prog 42 #[.agg #[.int .i64 k, .int .i64 n, .int .i64 h, .int .i64 us], .agg (vL y).toArray] w fun e w' => e = .returned (.agg (vL (chargeL n h us y)).toArray) ∧ Below w.heap.size w w' := by
  have hmx : Tryz.prog.follows .mixedOrders = true := by kernel_rfl
  have htb := hN.t
  obtain ⟨lz, hlz⟩ : ∃ l, l = vL (chargeL n h us y) := ⟨_, rfl⟩
  have hzl : (chargeL n h us y).length = 9 := by unfold chargeL; rw [List.length_set, List.length_set, List.length_set]; exact hy
  have HIZ := Lib.hid (show (Tryz.prog.info? 46).map (·.size) = some lz.length from by rw [hlz]; exact lineInfo hzl)
  have HLZ := Lib.hid (show lz.length = 9 from by rw [hlz, vL_len]; exact hzl)
  have HOZ := Lib.hid (show lz.all (·.oneCell') = true from by rw [hlz]; exact vL_one _)
  obtain ⟨M, hM⟩ : ∃ M, M = min (y.getD 6 0 + us) 1125899906842624 := ⟨_, rfl⟩
  obtain ⟨C, hC⟩ : ∃ C, C = chargeI (y.getD 7 0) (y.getD 8 0) n h us := ⟨_, rfl⟩
  have HLM := Lib.hid (show (vL (((y.set 6 M).set 7 C.1).set 8 C.2)).toArray = lz.toArray from by rw [hlz, hM, hC]; rfl)
  have HYL := Lib.hid hy
  rw [← hlz]
  clear hlz hzl hN
  have hb1 := below_alloc (Below.refl _ w) (.cells #[.int .i64 k, .int .i64 n, .int .i64 h, .int .i64 us] 92)
  have n1 := World.alloc_heap_new w (.cells #[.int .i64 k, .int .i64 n, .int .i64 h, .int .i64 us] 92)
  obtain ⟨ly, hly⟩ : ∃ l, l = vL y := ⟨_, rfl⟩
  have HI := Lib.hid (show (Tryz.prog.info? 46).map (·.size) = some ly.length from by rw [hly]; exact lineInfo hy)
  have HLL := Lib.hid (show ly.length = 9 from by rw [hly, vL_len]; exact hy)
  have HO := Lib.hid (show ly.all (·.oneCell') = true from by rw [hly]; exact vL_one _)
  have HGG := Lib.hid (fun (i : Nat) (hi : i < 9) => (show ly.toArray[i]? = some (.int .i64 (y.getD i 0)) from by rw [hly]; exact vL_get hy hi))
  have HST := Lib.hid (fun (i : Nat) (x : Int) => (show ly.toArray.setIfInBounds i (.int .i64 x) = (vL (y.set i x)).toArray from by rw [hly, vL_set]))
  rw [← hly]
  clear hly
  go_enter Tryz.func42, Tryz.ntmps42
  go_upto_region 0 with fail
  refine wp_region_lit ?_
  refine wpList_yield (w' := w.alloc (.cells #[.int .i64 k, .int .i64 n, .int .i64 h, .int .i64 us] 92)) (v := .pointer (some ⟨w.heap.size, 0, none⟩)) rfl (by first | (go_simp; done) | (go_simp; rfl)) ?_
  generalize w.alloc (.cells #[.int .i64 k, .int .i64 n, .int .i64 h, .int .i64 us] 92) = w1 at *
  obtain ⟨e, he⟩ : ∃ e, e = w.heap.size := ⟨_, rfl⟩
  rw [← he] at n1 ⊢
  have HE := Lib.hid he
  have hb2 := below_alloc (Below.refl _ w1) (.cells ly.toArray 46)
  have n2 := World.alloc_heap_new w1 (.cells ly.toArray 46)
  have n1' := (hb2.block e (Array.getElem?_eq_some_iff.1 n1).1).trans n1
  have hb12 := below_next hb1 hb2
  have h1s := hb1.size
  have hes : e < w1.heap.size := (Array.getElem?_eq_some_iff.1 n1).1
  clear hb1 hb2 n1 he
  refine wpList_yield (w' := w1.alloc (.cells ly.toArray 46)) (v := .pointer (some ⟨w1.heap.size, 0, none⟩)) rfl (by first | (go_simp; done) | (go_simp; rfl)) ?_
  generalize w1.alloc (.cells ly.toArray 46) = w2 at *
  obtain ⟨q, hq⟩ : ∃ q, q = w1.heap.size := ⟨_, rfl⟩
  rw [← hq] at n2 hes h1s ⊢
  clear hq
  have hb3 := below_alloc (Below.refl _ w2) (.cells #[.int .i64 0, .int .i64 0, .int .i64 0, .int .i64 0, .int .i64 0, .int .i64 0, .int .i64 0, .int .i64 0, .int .i64 0] 46)
  have n3 := World.alloc_heap_new w2 (.cells #[.int .i64 0, .int .i64 0, .int .i64 0, .int .i64 0, .int .i64 0, .int .i64 0, .int .i64 0, .int .i64 0, .int .i64 0] 46)
  have hqs : q < w2.heap.size := (Array.getElem?_eq_some_iff.1 n2).1
  have N1 := Lib.hid ((hb3.block e (by omega)).trans n1')
  have N2 := Lib.hid ((hb3.block q hqs).trans n2)
  have HB := Lib.hid (below_next hb12 hb3)
  refine wpList_yield (w' := w2.alloc (.cells #[.int .i64 0, .int .i64 0, .int .i64 0, .int .i64 0, .int .i64 0, .int .i64 0, .int .i64 0, .int .i64 0, .int .i64 0] 46)) (v := .pointer (some ⟨w2.heap.size, 0, none⟩)) rfl (by first | (go_simp; done) | (go_simp; rfl)) ?_
  generalize w2.alloc (.cells #[.int .i64 0, .int .i64 0, .int .i64 0, .int .i64 0, .int .i64 0, .int .i64 0, .int .i64 0, .int .i64 0, .int .i64 0] 46) = w3 at *
  obtain ⟨r, hr⟩ : ∃ r, r = w2.heap.size := ⟨_, rfl⟩
  rw [← hr] at n3 hqs ⊢
  have N3 := Lib.hid n3
  have HW := Lib.hid (show w.heap.size ≤ q ∧ w.heap.size ≤ r ∧ e < q ∧ q < r from ⟨h1s, by omega, hes, hqs⟩)
  clear n1' n2 n3 hb12 hb3 hr h1s hes hqs
  rename_i hK
  refine hK _ _ ?_
  go_simp
  have HG6 := HGG.out 6 (by decide)
  have HYS := Lib.hid (show (y.set 6 M).length = 9 by rw [List.length_set]; exact HYL.out)
  have q7 : (vL (y.set 6 M)).toArray[7]? = some (.int .i64 (y.getD 7 0)) := by rw [vL_get HYS.out (by decide), getD_set, if_neg (by omega)]
  have q8 : (vL (y.set 6 M)).toArray[8]? = some (.int .i64 (y.getD 8 0)) := by rw [vL_get HYS.out (by decide), getD_set, if_neg (by omega)]
  have HST6 := HST.out 6 M
  obtain ⟨ys, hys⟩ : ∃ ys, ys = y.set 6 M := ⟨_, rfl⟩
  rw [← hys] at q7 q8 HLM HST6 HYS
  have HQ78 := Lib.hid (And.intro q7 q8)
  generalize y.getD 6 0 = t6 at *
  generalize y.getD 7 0 = t7 at *
  generalize y.getD 8 0 = t8 at *
  have hwr : IntKind.i64.wrap (t6 + us) = t6 + us := by rw [IntKind.wrap_i64]; omega
  have HM := Lib.hid (show bmin (t6 + us) 1125899906842624 = M from by rw [hM, bmin_eq])
  have KC := Lib.hid (fun (X : World) => (show Calls Tryz.prog 53 #[.agg #[.int .i64 t7, .int .i64 t8], .int .i64 n, .int .i64 h, .int .i64 us] X fun e w' => e = .returned (.agg #[.int .i64 C.1, .int .i64 C.2]) ∧ Below X.heap.size X w' from by rw [hC]; exact charge_any t7 t8 n h us X))
  clear hM hC hys
  have z6 := cell_of_block (o := 6) N2.out HG6
  have f6 := free_of_block 6 N2.out
  have e3 : w3.cell? ⟨e, 3, none⟩ = some (.int .i64 us) := cell_of_block (o := 3) N1.out rfl
  have hw := (wrote_refl N2.out).set 6 (.int .i64 M)
  rw [HST6] at hw
  have N24 := Lib.hid hw.there
  have N14 := Lib.hid ((hw.rest e (by have := HW.out; omega)).trans N1.out)
  have N34 := Lib.hid ((hw.rest r (by have := HW.out; omega)).trans N3.out)
  have HB4 := Lib.hid (hw.below HB.out HW.out.1)
  clear q7 q8 HST6 HG6 HGG HST htb
  go_upto_region 2 with fail
  rw [HM.out]
  clear z6 f6 e3 hw hwr
  generalize w3.setCell ⟨q, 6, none⟩ (.int .i64 M) = w4 at *
  have c7 : w4.cell? ⟨q, 7, none⟩ = some (.int .i64 t7) := cell_of_block (o := 7) N24.out HQ78.out.1
  have c8 : w4.cell? ⟨q, 8, none⟩ = some (.int .i64 t8) := cell_of_block (o := 8) N24.out HQ78.out.2
  have e1 : w4.cell? ⟨e, 1, none⟩ = some (.int .i64 n) := cell_of_block (o := 1) N14.out rfl
  have e2 : w4.cell? ⟨e, 2, none⟩ = some (.int .i64 h) := cell_of_block (o := 2) N14.out rfl
  have e3 : w4.cell? ⟨e, 3, none⟩ = some (.int .i64 us) := cell_of_block (o := 3) N14.out rfl
  go_wp2_with fail
  refine (KC.out w4).mono ?_
  rintro ex w5 ⟨rfl, hb5⟩
  have N25 := Lib.hid ((hb5.block q (Array.getElem?_eq_some_iff.1 N24.out).1).trans N24.out)
  have N35 := Lib.hid ((hb5.block r (Array.getElem?_eq_some_iff.1 N34.out).1).trans N34.out)
  have HB5 := Lib.hid (below_next HB4.out hb5)
  clear hb5 c7 c8 e1 e2 e3 N24 N34 N14
  have c7 : w5.cell? ⟨q, 7, none⟩ = some (.int .i64 t7) := cell_of_block (o := 7) N25.out HQ78.out.1
  have c8 : w5.cell? ⟨q, 8, none⟩ = some (.int .i64 t8) := cell_of_block (o := 8) N25.out HQ78.out.2
  have f7 := free_of_block 7 N25.out
  have f8 := free_of_block 8 N25.out
  have hw := ((wrote_refl N25.out).set 7 (.int .i64 C.1)).set 8 (.int .i64 C.2)
  rw [vL_set, vL_set, HLM.out] at hw
  have NQ := Lib.hid hw.there
  have NR := Lib.hid ((hw.rest r (by have := HW.out; omega)).trans N35.out)
  have HBZ := Lib.hid (hw.below HB5.out HW.out.1)
  clear hw
  go_upto_region 3 with fail
  clear c7 c8 f7 f8
  generalize (w5.setCell ⟨q, 7, none⟩ (.int .i64 C.1)).setCell ⟨q, 8, none⟩ (.int .i64 C.2) = w8 at *
  refine wp_region_lit ?_
  refine wpList_load_all rfl 46 _ rfl q lz _ (by go_simp) NQ.out Tryz.underlying46 rfl HIZ.out ?_
  refine wpList_store_all rfl 46 _ _ rfl r (T := 46) lz (by go_simp) (by go_simp) NR.out (by rw [HLZ.out]; rfl) HIZ.out HOZ.out ?_
  intro w9 hw9
  have NR9 := Lib.hid hw9.there
  have HB9 := Lib.hid (hw9.below HBZ.out (by have := HW.out; omega))
  clear hw9
  rename_i hK
  refine hK _ _ ?_
  go_simp
  go_wp2_with fail
  refine bodyPost_ret (results_all lz _ Tryz.results42 (by go_simp) NR9.out Tryz.underlying46 rfl HIZ.out) rfl ?_
  exact ⟨rfl, HB9.out⟩
end Go.Proofs.YthflogeaielhlaaGreatDoor
namespace Go.Proofs.YthflogeaielhlaaGreatDoor
set_option linter.unusedVariables false
open Go.ChangeShapes Go.WideShapes Go.ChangeAt Go.RowKit Bk
attribute [local go_sem ↓] Go.wp_at_zero Go.wp_at_succ

theorem Num.zero : Num zL := by
  refine ⟨fun i h0 h1 => ?_, by decide, by decide, by decide⟩
  rcases (by omega : i = 1 ∨ i = 2 ∨ i = 3 ∨ i = 4 ∨ i = 5) with rfl | rfl | rfl | rfl | rfl <;> decide
theorem Num.set0 {l : LV} (h : Num l) (u : Int) : Num (l.set 0 u) :=
  ⟨fun i h0 h1 => by rw [getD_set, if_neg (by omega)]; exact h.c i h0 h1, by rw [getD_set, if_neg (by omega)]; exact h.t, by rw [getD_set, if_neg (by omega)]; exact h.s, by rw [getD_set, if_neg (by omega)]; exact h.n⟩
theorem Num.note {l : LV} (h : Num l) {k : Nat} (hk : k ≤ 4) : Num (noteL k l) := by
  unfold noteL
  have hc := h.c (1 + k) (by omega) (by omega)
  refine ⟨fun i h0 h1 => ?_, by rw [getD_set, if_neg (by omega)]; exact h.t, by rw [getD_set, if_neg (by omega)]; exact h.s, by rw [getD_set, if_neg (by omega)]; exact h.n⟩
  rw [getD_set]
  split
  · omega
  · exact h.c i h0 h1
theorem Num.charge {l : LV} (h : Num l) {n hf us : Int} (hu : 0 ≤ us ∧ us ≤ 1125899906842624) : Num (chargeL n hf us l) := by
  unfold chargeL
  have hb := charge_bd (l.getD 7 0) (l.getD 8 0) n hf us
  have ht := h.t
  refine ⟨fun i h0 h1 => ?_, ?_, ?_, ?_⟩
  · rw [getD_set, if_neg (by omega), getD_set, if_neg (by omega), getD_set, if_neg (by omega)]; exact h.c i h0 h1
  · rw [getD_set, if_neg (by omega), getD_set, if_neg (by omega), getD_set]; split <;> omega
  · rw [getD_set, if_neg (by omega), getD_set]; split
    · exact hb.1
    · rw [getD_set, if_neg (by omega)]; exact h.s
  · rw [getD_set]; split
    · exact hb.2.1
    · rw [getD_set, if_neg (by omega), getD_set, if_neg (by omega)]; exact h.n
/-- all lines' numbers are within their bounds -/
def BN (L : List LV) : Prop := ∀ l ∈ L, Num l
theorem BN.line {L : List LV} (h : BN L) (u : Int) : Num (lineB L u) := by
  unfold lineB
  cases hg : getB L u with
  | none => exact Num.zero
  | some l => exact h l (getB_usr hg).2
theorem BN.put {L : List LV} (h : BN L) {x : LV} (hx : Num x) : BN (putB L x) := fun l hl => by
  rcases putB_mem hl with rfl | hl
  · exact hx
  · exact h l hl
theorem usr_set0 {l : LV} (h : l.length = 9) (u : Int) : usr (l.set 0 u) = u := by unfold usr; rw [getD_set, if_pos ⟨rfl, by omega⟩]
theorem usr_note {l : LV} (k : Nat) : usr (noteL k l) = usr l := by unfold usr noteL; rw [getD_set, if_neg (by omega)]
theorem usr_charge {l : LV} (n hf us : Int) : usr (chargeL n hf us l) = usr l := by unfold usr chargeL; rw [getD_set, if_neg (by omega), getD_set, if_neg (by omega), getD_set, if_neg (by omega)]
theorem len_note {l : LV} (h : l.length = 9) (k : Nat) : (noteL k l).length = 9 := by unfold noteL; rw [List.length_set]; exact h
theorem len_charge {l : LV} (h : l.length = 9) (n hf us : Int) : (chargeL n hf us l).length = 9 := by unfold chargeL; rw [List.length_set, List.length_set, List.length_set]; exact h
/-- the books behind a note -/
def notedB (L : List LV) (u : Int) (k : Nat) : List LV := putB L (noteL k ((lineB L u).set 0 u))
def usedI (many nodes : Int) : Int := if timesI many nodes = 1099511627776 then 1125899906842624 else timesI many nodes
def chargedB (L : List LV) (h u now nodes many : Int) : List LV := putB L (chargeL now h (usedI many nodes) ((lineB L u).set 0 u))
theorem enterG : Go.Proofs.Enters Tryz.prog 42 := enters_of Tryz.func42 (by kernel_rfl) rfl
theorem charge_no {w : World} {v : Value} (h : NoBk w v) (u n c y : Int) : Calls Tryz.prog 24 #[v, .int .i64 u, .int .i64 n, .int .i64 c, .int .i64 y] w fun e w' => e = .returned (.int .i64 1) ∧ w' = w := by
  have KT := Lib.hid (there_no h)
  obtain ⟨p, rfl⟩ : ∃ p, v = .pointer p := by rcases h with rfl | ⟨g, rfl, _⟩ <;> exact ⟨_, rfl⟩
  clear h
  go_enter Tryz.func24, Tryz.ntmps24
  go_wp2_with fail
  refine KT.out.mono ?_
  rintro e w1 ⟨rfl, hw⟩
  obtain rfl := hw
  go_wp2_with fail
  go_ret
  exact ⟨rfl, rfl⟩
theorem charge_bad {w : World} {b m : Nat} {h : Int} {L : List LV} (H : BkAt w b m h L) {u k : Int} (n y : Int) (hn : ¬ ((1 ≤ u ∧ u ≤ 16) ∧ 0 ≤ k ∧ k ≤ 64)) :
    Calls Tryz.prog 24 #[.pointer (some ⟨b, 0, none⟩), .int .i64 u, .int .i64 n, .int .i64 k, .int .i64 y] w fun e w' => e = .returned (.int .i64 2) ∧ w' = w := by
  have KT := Lib.hid (there_bk H)
  clear H
  by_cases hu : 1 ≤ u ∧ u ≤ 16
  · have KU := Lib.hid (isUser_yes hu.1 hu.2)
    by_cases hk : k < 0
    · have d1 : decide (k < 0) = true := decide_eq_true hk
      clear hu hn
      go_enter Tryz.func24, Tryz.ntmps24
      go_wp2_with fail
      refine KT.out.mono ?_
      rintro e w1 ⟨rfl, hw⟩
      obtain rfl := hw
      go_wp2_with fail
      refine (KU.out _).mono ?_
      rintro e w2 ⟨rfl, hw⟩
      obtain rfl := hw
      go_wp2_with fail
      go_ret
      exact ⟨rfl, rfl⟩
    · have d1 : decide (k < 0) = false := decide_eq_false hk
      have d2 : decide (k > 64) = true := decide_eq_true (by omega)
      have d3 : decide (64 < k) = true := decide_eq_true (by omega)
      clear hu hn hk
      go_enter Tryz.func24, Tryz.ntmps24
      go_wp2_with fail
      refine KT.out.mono ?_
      rintro e w1 ⟨rfl, hw⟩
      obtain rfl := hw
      go_wp2_with fail
      refine (KU.out _).mono ?_
      rintro e w2 ⟨rfl, hw⟩
      obtain rfl := hw
      go_wp2_with fail
      go_ret
      exact ⟨rfl, rfl⟩
  · have KU := Lib.hid (isUser_no hu)
    clear hu hn
    go_enter Tryz.func24, Tryz.ntmps24
    go_wp2_with fail
    refine KT.out.mono ?_
    rintro e w1 ⟨rfl, hw⟩
    obtain rfl := hw
    go_wp2_with fail
    refine (KU.out _).mono ?_
    rintro e w2 ⟨rfl, hw⟩
    obtain rfl := hw
    go_wp2_with fail
    go_ret
    exact ⟨rfl, rfl⟩
theorem usedI_bd (a n : Int) : 0 ≤ usedI a n ∧ usedI a n ≤ 1125899906842624 := by
  unfold usedI
  have := timesI_bd a n
  split <;> omega
set_option maxHeartbeats 2000000 in
theorem charge_ok {w : World} {b m : Nat} {h : Int} {L : List LV} (H : BkAt w b m h L) (hN : BN L) {u : Int} (h0 : 1 ≤ u) (h1 : u ≤ 16) {c : Int} (c0 : 0 ≤ c) (c1 : c ≤ 64) (n y : Int) :
    Calls Tryz.prog 24 #[.pointer (some ⟨b, 0, none⟩), .int .i64 u, .int .i64 n, .int .i64 c, .int .i64 y] w fun e w' => e = .returned (.int .i64 0) ∧ BkAt w' b m h (chargedB L h u n c y) ∧ w.grownBy w' (some m) := by
  have hl := H.good.line u
  have KT := Lib.hid (there_bk H)
  have KU := Lib.hid (isUser_yes h0 h1)
  obtain ⟨us, hus⟩ : ∃ us, us = usedI y c := ⟨_, rfl⟩
  have KC := Lib.hid (change_bk H h0 h1 42 (.agg #[.int .i64 0, .int .i64 n, .int .i64 h, .int .i64 us]) enterG ((lineB L u).set 0 u) (chargeL n h us ((lineB L u).set 0 u)) rfl (len_charge (by rw [List.length_set]; exact hl) n h us) (by rw [usr_charge, usr_set0 hl])
    (fun X => charge_e 0 n h us (by rw [hus]; exact usedI_bd y c) _ (by rw [List.length_set]; exact hl) ((hN.line u).set0 u) X))
  have HE := Lib.hid (show putB L (chargeL n h us ((lineB L u).set 0 u)) = chargedB L h u n c y from by rw [hus]; rfl)
  rw [HE.out] at KC
  have KM := Lib.hid (btimes_any y c (by omega))
  have hb := timesI_bd y c
  have hcl : w.cell? ⟨b, 0, none⟩ = some (.int .i64 h) := cell_of_block (o := 0) H.blk rfl
  have d1 : decide (c < 0) = false := decide_eq_false (by omega)
  have d2 : decide (c > 64) = false := decide_eq_false (by omega)
  have d3 : decide (64 < c) = false := decide_eq_false (by omega)
  unfold usedI at hus
  generalize timesI y c = T at *
  by_cases hT : T = 1099511627776
  · rw [if_pos hT] at hus
    subst hT
    subst hus
    clear H hN hl h0 h1 c0 c1 hb HE
    go_enter Tryz.func24, Tryz.ntmps24
    go_wp2_with fail
    refine KT.out.mono ?_
    rintro e w1 ⟨rfl, hw⟩
    obtain rfl := hw
    go_wp2_with fail
    refine (KU.out _).mono ?_
    rintro e w2 ⟨rfl, hw⟩
    obtain rfl := hw
    go_wp2_with fail
    refine (KM.out _).mono ?_
    rintro e w2 ⟨rfl, hw⟩
    obtain rfl := hw
    go_wp2_with fail
    refine KC.out.mono ?_
    rintro e w3 ⟨rfl, h3, g3⟩
    have H3 := Lib.hid (And.intro h3 g3)
    clear h3 g3
    go_wp2_with fail
    go_ret
    exact ⟨rfl, H3.out⟩
  · rw [if_neg hT] at hus
    have hq : (T == 1099511627776) = false := by simpa using hT
    subst hus
    clear H hN hl h0 h1 c0 c1 hb HE hT
    go_enter Tryz.func24, Tryz.ntmps24
    go_wp2_with fail
    refine KT.out.mono ?_
    rintro e w1 ⟨rfl, hw⟩
    obtain rfl := hw
    go_wp2_with fail
    refine (KU.out _).mono ?_
    rintro e w2 ⟨rfl, hw⟩
    obtain rfl := hw
    go_wp2_with fail
    refine (KM.out _).mono ?_
    rintro e w2 ⟨rfl, hw⟩
    obtain rfl := hw
    go_wp2_with fail
    refine KC.out.mono ?_
    rintro e w3 ⟨rfl, h3, g3⟩
    have H3 := Lib.hid (And.intro h3 g3)
    clear h3 g3
    go_wp2_with fail
    go_ret
    exact ⟨rfl, H3.out⟩
end Go.Proofs.YthflogeaielhlaaGreatDoor
