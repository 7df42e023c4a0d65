/- What an entry makes of a line (layer 14). Conditions: the line's numbers are within their bounds. -/
import Derived.Test.YtmpknjlfabpipaaBkC
namespace Go.Proofs.Ytmpknjlfabpipaa
set_option linter.unusedVariables false
open Go.ChangeShapes Go.WideShapes Go.ChangeAt Go.RowKit Bk
attribute [local go_sem ↓] Go.wp_at_zero Go.wp_at_succ comesTo_value_eq comesTo_skip_eq comesTo_enter_eq Rl.comesToR_value_eq Rl.comesToR_skip_eq Rl.comesToR_enter_eq

/-- numbers within their bounds -/
structure Num (l : LV) : Prop where
  c : ∀ i, 1 ≤ i → i ≤ 5 → 0 ≤ l.getD i 0 ∧ l.getD i 0 ≤ 1073741824
  t : 0 ≤ l.getD 6 0 ∧ l.getD 6 0 ≤ 1125899906842624
  s : 0 ≤ l.getD 7 0 ∧ l.getD 7 0 ≤ 1125899906842624
  n : 0 ≤ l.getD 8 0 ∧ l.getD 8 0 ≤ 1099511627776
def noteL (k : Nat) (l : LV) : LV := l.set (1 + k) (min (l.getD (1 + k) 0 + 1) 1073741824)
def chargeL (now half used : Int) (l : LV) : LV :=
  ((l.set 6 (min (l.getD 6 0 + used) 1125899906842624)).set 7 (chargeI (l.getD 7 0) (l.getD 8 0) now half used).1).set 8 (chargeI (l.getD 7 0) (l.getD 8 0) now half used).2
theorem getD_set (l : LV) (k : Nat) (x : Int) (i : Nat) : (l.set k x).getD i 0 = if k = i ∧ i < l.length then x else l.getD i 0 := by
  simp only [List.getD, List.getElem?_set]
  by_cases h : k = i
  · subst h
    by_cases h2 : k < l.length
    · simp [h2]
    · simp [h2]
  · simp [h]
def entC (k now half used : Int) : Array Value := #[.int .i64 k, .int .i64 now, .int .i64 half, .int .i64 used]
theorem storeInfo : (Try.prog.info? 33).map (·.size) = some 9 := by kernel_rfl
set_option maxRecDepth 100000 in
set_option maxHeartbeats 8000000 in
theorem note_e (k : Nat) (hk : k ≤ 4) (n h us : Int) (y : LV) (hy : y.length = 9) (hN : Num y) (w : World) :
    Calls Try.prog 18 #[.agg #[.int .i64 k, .int .i64 n, .int .i64 h, .int .i64 us], .agg (vL y).toArray] w fun e w' => e = .returned (.agg (vL (noteL k y)).toArray) ∧ Below w.heap.size w w' := by
  have hmx : Try.prog.follows .mixedOrders = true := by kernel_rfl
  have hcb := hN.c (1 + k) (by omega) (by omega)
  obtain ⟨lz, hlz⟩ : ∃ l, l = vL (noteL k y) := ⟨_, rfl⟩
  have hzl : (noteL k y).length = 9 := by unfold noteL; rw [List.length_set]; exact hy
  have HIZ := Lib.hid (show (Try.prog.info? 33).map (·.size) = some lz.length from by rw [hlz]; exact lineInfo hzl)
  have HLZ := Lib.hid (show lz.length = 9 from by rw [hlz, vL_len]; exact hzl)
  have HOZ := Lib.hid (show lz.all (·.oneCell') = true from by rw [hlz]; exact vL_one _)
  obtain ⟨M, hM⟩ : ∃ M, M = min (y.getD (1 + k) 0 + 1) 1073741824 := ⟨_, rfl⟩
  have HLM := Lib.hid (show (vL (y.set (1 + k) M)).toArray = lz.toArray from by rw [hlz, hM]; rfl)
  rw [← hlz]
  clear hlz hzl hN
  have hb1 := below_alloc (Below.refl _ w) (.cells #[.int .i64 k, .int .i64 n, .int .i64 h, .int .i64 us] 56)
  have n1 := World.alloc_heap_new w (.cells #[.int .i64 k, .int .i64 n, .int .i64 h, .int .i64 us] 56)
  obtain ⟨ly, hly⟩ : ∃ l, l = vL y := ⟨_, rfl⟩
  have HI := Lib.hid (show (Try.prog.info? 33).map (·.size) = some ly.length from by rw [hly]; exact lineInfo hy)
  have HLL := Lib.hid (show ly.length = 9 from by rw [hly, vL_len]; exact hy)
  have HO := Lib.hid (show ly.all (·.oneCell') = true from by rw [hly]; exact vL_one _)
  have HGG := Lib.hid (fun (i : Nat) (hi : i < 9) => (show ly.toArray[i]? = some (.int .i64 (y.getD i 0)) from by rw [hly]; exact vL_get hy hi))
  have HST := Lib.hid (fun (i : Nat) (x : Int) => (show ly.toArray.setIfInBounds i (.int .i64 x) = (vL (y.set i x)).toArray from by rw [hly, vL_set]))
  rw [← hly]
  clear hly
  go_enter Try.func18, Try.ntmps18
  go_upto_region 0 with fail
  refine wp_region_lit ?_
  refine wpList_yield (w' := w.alloc (.cells #[.int .i64 k, .int .i64 n, .int .i64 h, .int .i64 us] 56)) (v := .pointer (some ⟨w.heap.size, 0, none⟩)) rfl (by first | (go_simp; done) | (go_simp; rfl)) ?_
  generalize w.alloc (.cells #[.int .i64 k, .int .i64 n, .int .i64 h, .int .i64 us] 56) = w1 at *
  obtain ⟨e, he⟩ : ∃ e, e = w.heap.size := ⟨_, rfl⟩
  rw [← he] at n1 ⊢
  have HE := Lib.hid he
  have hb2 := below_alloc (Below.refl _ w1) (.cells ly.toArray 33)
  have n2 := World.alloc_heap_new w1 (.cells ly.toArray 33)
  have n1' := (hb2.block e (Array.getElem?_eq_some_iff.1 n1).1).trans n1
  have hb12 := below_next hb1 hb2
  have h1s := hb1.size
  have hes : e < w1.heap.size := (Array.getElem?_eq_some_iff.1 n1).1
  clear hb1 hb2 n1 he
  refine wpList_yield (w' := w1.alloc (.cells ly.toArray 33)) (v := .pointer (some ⟨w1.heap.size, 0, none⟩)) rfl (by first | (go_simp; done) | (go_simp; rfl)) ?_
  generalize w1.alloc (.cells ly.toArray 33) = w2 at *
  obtain ⟨q, hq⟩ : ∃ q, q = w1.heap.size := ⟨_, rfl⟩
  rw [← hq] at n2 hes h1s ⊢
  clear hq
  have hb3 := below_alloc (Below.refl _ w2) (.cells #[.int .i64 0, .int .i64 0, .int .i64 0, .int .i64 0, .int .i64 0, .int .i64 0, .int .i64 0, .int .i64 0, .int .i64 0] 33)
  have n3 := World.alloc_heap_new w2 (.cells #[.int .i64 0, .int .i64 0, .int .i64 0, .int .i64 0, .int .i64 0, .int .i64 0, .int .i64 0, .int .i64 0, .int .i64 0] 33)
  have hqs : q < w2.heap.size := (Array.getElem?_eq_some_iff.1 n2).1
  have N1 := Lib.hid ((hb3.block e (by omega)).trans n1')
  have N2 := Lib.hid ((hb3.block q hqs).trans n2)
  have HB := Lib.hid (below_next hb12 hb3)
  refine wpList_yield (w' := w2.alloc (.cells #[.int .i64 0, .int .i64 0, .int .i64 0, .int .i64 0, .int .i64 0, .int .i64 0, .int .i64 0, .int .i64 0, .int .i64 0] 33)) (v := .pointer (some ⟨w2.heap.size, 0, none⟩)) rfl (by first | (go_simp; done) | (go_simp; rfl)) ?_
  generalize w2.alloc (.cells #[.int .i64 0, .int .i64 0, .int .i64 0, .int .i64 0, .int .i64 0, .int .i64 0, .int .i64 0, .int .i64 0, .int .i64 0] 33) = w3 at *
  obtain ⟨r, hr⟩ : ∃ r, r = w2.heap.size := ⟨_, rfl⟩
  rw [← hr] at n3 hqs ⊢
  have N3 := Lib.hid n3
  have HW := Lib.hid (show w.heap.size ≤ q ∧ w.heap.size ≤ r ∧ e < q ∧ q < r from ⟨h1s, by omega, hes, hqs⟩)
  clear n1' n2 n3 hb12 hb3 hr h1s hes hqs
  rename_i hK
  refine hK _ _ ?_
  go_simp
  obtain ⟨c, hc⟩ : ∃ c, c = y.getD (1 + k) 0 := ⟨_, rfl⟩
  have HGK := HGG.out (1 + k) (by omega)
  rw [← hc] at HGK hcb hM
  have HSK := HST.out (1 + k) M
  have hwr : IntKind.i64.wrap (c + 1) = c + 1 := by rw [IntKind.wrap_i64]; omega
  have hki : (k : Int) < 5 := by omega
  have hk0 : (0 : Int) ≤ (k : Int) := by omega
  have hkn : ((k : Int)).toNat = k := by omega
  have HM := Lib.hid hM
  clear hc hM HGG HST
  go_upto_region 1 with fail
  refine Ap.wp_region_K (S1 := fun X => X.cell? ⟨e, 0, none⟩ = some (.int .i64 k)) (S2 := fun X => X.cell? ⟨q, 1 + k, none⟩ = some (.int .i64 c)) (js := 11) hmx ?_
  change Ap.wpAnyK _ _ _ _ _ _ _ 12 _ _ w3.drew
  have nd2 : w3.drew.heap[q]? = some (.cells ly.toArray 33 (0, 0)) := N2.out
  have HBD := Lib.hid (show Below w.heap.size w w3.drew from HB.out.drew)
  have nd3 : w3.drew.heap[r]? = some (.cells #[.int .i64 0, .int .i64 0, .int .i64 0, .int .i64 0, .int .i64 0, .int .i64 0, .int .i64 0, .int .i64 0, .int .i64 0] 33 (0, 0)) := N3.out
  have hS : w3.drew.cell? ⟨e, 0, none⟩ = some (.int .i64 k) ∧ w3.drew.cell? ⟨q, 1 + k, none⟩ = some (.int .i64 c) := ⟨cell_of_block (o := 0) N1.out rfl, cell_of_block (o := 1 + k) nd2 HGK⟩
  generalize w3.drew = wd at *
  refine Ap.wpAnyK_take1 (i := 0) (v := .pointer (some ⟨e, 0, none⟩)) rfl (by decide) (by decide +kernel) (by decide +kernel) (by decide +kernel) (fun _ _ _ h => h) (.inl ⟨by first | rfl | (go_simp; done), fun X hX => by clear hX; first | (go_simp; done) | (go_simp; rfl)⟩) hS ?_
  refine Ap.wpAnyK_take1 (i := 1) (v := .int .i64 k) rfl (by decide) (by decide +kernel) (by decide +kernel) (by decide +kernel) (fun _ _ _ h => h) (.inl ⟨by first | rfl | (go_simp; done), fun X hX => by have hx0 := hX; first | (go_simp; done) | (go_simp; rfl)⟩) hS ?_
  refine Ap.wpAnyK_take1 (i := 2) (v := .pointer (some ⟨e, 0, none⟩)) rfl (by decide) (by decide +kernel) (by decide +kernel) (by decide +kernel) (fun _ _ _ h => h) (.inl ⟨by first | rfl | (go_simp; done), fun X hX => by clear hX; first | (go_simp; done) | (go_simp; rfl)⟩) hS ?_
  refine Ap.wpAnyK_take1 (i := 3) (v := .int .i64 k) rfl (by decide) (by decide +kernel) (by decide +kernel) (by decide +kernel) (fun _ _ _ h => h) (.inl ⟨by first | rfl | (go_simp; done), fun X hX => by have hx0 := hX; first | (go_simp; done) | (go_simp; rfl)⟩) hS ?_
  refine Ap.wpAnyK_take1 (i := 4) (v := .pointer (some ⟨q, 1, none⟩)) rfl (by decide) (by decide +kernel) (by decide +kernel) (by decide +kernel) (fun _ _ _ h => h) (.inl ⟨by first | rfl | (go_simp; done), fun X hX => by clear hX; first | (go_simp; done) | (go_simp; rfl)⟩) hS ?_
  refine Ap.wpAnyK_take1 (i := 5) (v := .pointer (some ⟨q, 1 + k, none⟩)) rfl (by decide) (by decide +kernel) (by decide +kernel) (by decide +kernel) (fun _ _ _ h => h) (.inl ⟨by first | rfl | (go_simp; done), fun X hX => by clear hX; first | (go_simp; done) | (go_simp; rfl)⟩) hS ?_
  refine Ap.wpAnyK_take2 (i := 6) (v := .int .i64 c) rfl (by decide) (by decide +kernel) (by decide +kernel) (by decide +kernel) rfl (by decide +kernel) (by decide +kernel) (fun _ _ _ h => h) (.inl ⟨by first | rfl | (go_simp; done), fun X hX => by have hx1 := hX.2; clear hX; first | (go_simp; done) | (go_simp; rfl)⟩) hS ?_
  refine Ap.wpAnyK_take1 (i := 7) (v := .int .i64 (c + 1)) rfl (by decide) (by decide +kernel) (by decide +kernel) (by decide +kernel) (fun _ _ _ h => h) (.inl ⟨by first | rfl | (go_simp; done), fun X hX => by clear hX; first | (go_simp; done) | (go_simp; rfl)⟩) hS ?_
  refine Ap.wpAnyK_take1 (i := 8) (v := .int .i64 M) rfl (by decide) (by decide +kernel) (by decide +kernel) (by decide +kernel) (fun _ _ _ h => h) (.inl ⟨by first | rfl | (go_simp; done), fun X hX => by clear hX; rw [HM.out]; first | (go_simp; done) | (go_simp; omega)⟩) hS ?_
  refine Ap.wpAnyK_take1 (i := 9) (v := .pointer (some ⟨q, 1, none⟩)) rfl (by decide) (by decide +kernel) (by decide +kernel) (by decide +kernel) (fun _ _ _ h => h) (.inl ⟨by first | rfl | (go_simp; done), fun X hX => by clear hX; first | (go_simp; done) | (go_simp; rfl)⟩) hS ?_
  refine Ap.wpAnyK_take1 (i := 10) (v := .pointer (some ⟨q, 1 + k, none⟩)) rfl (by decide) (by decide +kernel) (by decide +kernel) (by decide +kernel) (fun _ _ _ h => h) (.inl ⟨by first | rfl | (go_simp; done), fun X hX => by clear hX; first | (go_simp; done) | (go_simp; rfl)⟩) hS ?_
  have f1 := free_of_block (1 + k) nd2
  have z1 := hS.2
  have hw := (wrote_refl nd2).set (1 + k) (.int .i64 M)
  rw [HSK, HLM.out] at hw
  have hS2 : (wd.setCell ⟨q, 1 + k, none⟩ (.int .i64 M)).cell? ⟨e, 0, none⟩ = some (.int .i64 k) := (World.cell?_setCell_other _ _ _ _ (by intro e'; simp only [Addr.mk.injEq] at e'; have := HW.out; omega)).trans hS.1
  have NQ := Lib.hid hw.there
  have NR := Lib.hid ((hw.rest r (by have := HW.out; omega)).trans nd3)
  have HBZ := Lib.hid (hw.below HBD.out HW.out.1)
  clear hw
  refine Ap.anyK_store (i := 11) (w' := wd.setCell ⟨q, 1 + k, none⟩ (.int .i64 M)) (by decide +kernel) rfl rfl (by decide +kernel) (by first | (go_simp; done) | (go_simp; rfl)) hS2 ?_
  clear z1 f1 hS hS2 nd2 nd3 HSK HGK
  generalize wd.setCell ⟨q, 1 + k, none⟩ (.int .i64 M) = w8 at *
  refine Ap.wpAnyK_done (by decide +kernel) ?_ _
  go_simp
  go_upto_region 2 with fail
  refine wp_region_lit ?_
  refine wpList_load_all rfl 33 _ rfl q lz _ (by go_simp) NQ.out Try.underlying33 rfl HIZ.out ?_
  refine wpList_store_all rfl 33 _ _ rfl r (T := 33) lz (by go_simp) (by go_simp) NR.out (by rw [HLZ.out]; rfl) HIZ.out HOZ.out ?_
  intro w9 hw9
  have NR9 := Lib.hid hw9.there
  have HB9 := Lib.hid (hw9.below HBZ.out (by have := HW.out; omega))
  clear hw9
  rename_i hK
  refine hK _ _ ?_
  go_simp
  go_wp2_with fail
  refine bodyPost_ret (results_all lz _ Try.results18 (by go_simp) NR9.out Try.underlying33 rfl HIZ.out) rfl ?_
  exact ⟨rfl, HB9.out⟩
def bmin (x y : Int) : Int := if y < x then y else x
theorem bmin_eq (x y : Int) : bmin x y = min x y := by unfold bmin; split <;> omega
theorem run_bmin {P : Program} (w : World) (ts : Array TypeId) (t : TypeId) (k k' : IntKind) (x y : Int) : (Builtin.min_ ts t #[.int k x, .int k' y]).run P w = .ok (.int k (bmin x y)) w := run_min_int2 w ts t k k' x y
attribute [local go_sem high] run_bmin
set_option maxRecDepth 100000 in
set_option maxHeartbeats 8000000 in
theorem charge_e (k n h us : Int) (hus : 0 ≤ us ∧ us ≤ 1125899906842624) (y : LV) (hy : y.length = 9) (hN : Num y) (w : World) :
    Calls Try.prog 20 #[.agg #[.int .i64 k, .int .i64 n, .int .i64 h, .int .i64 us], .agg (vL y).toArray] w fun e w' => e = .returned (.agg (vL (chargeL n h us y)).toArray) ∧ Below w.heap.size w w' := by
  have hmx : Try.prog.follows .mixedOrders = true := by kernel_rfl
  have htb := hN.t
  obtain ⟨lz, hlz⟩ : ∃ l, l = vL (chargeL n h us y) := ⟨_, rfl⟩
  have hzl : (chargeL n h us y).length = 9 := by unfold chargeL; rw [List.length_set, List.length_set, List.length_set]; exact hy
  have HIZ := Lib.hid (show (Try.prog.info? 33).map (·.size) = some lz.length from by rw [hlz]; exact lineInfo hzl)
  have HLZ := Lib.hid (show lz.length = 9 from by rw [hlz, vL_len]; exact hzl)
  have HOZ := Lib.hid (show lz.all (·.oneCell') = true from by rw [hlz]; exact vL_one _)
  obtain ⟨M, hM⟩ : ∃ M, M = min (y.getD 6 0 + us) 1125899906842624 := ⟨_, rfl⟩
  obtain ⟨C, hC⟩ : ∃ C, C = chargeI (y.getD 7 0) (y.getD 8 0) n h us := ⟨_, rfl⟩
  have HLM := Lib.hid (show (vL (((y.set 6 M).set 7 C.1).set 8 C.2)).toArray = lz.toArray from by rw [hlz, hM, hC]; rfl)
  have HYL := Lib.hid hy
  rw [← hlz]
  clear hlz hzl hN
  have hb1 := below_alloc (Below.refl _ w) (.cells #[.int .i64 k, .int .i64 n, .int .i64 h, .int .i64 us] 56)
  have n1 := World.alloc_heap_new w (.cells #[.int .i64 k, .int .i64 n, .int .i64 h, .int .i64 us] 56)
  obtain ⟨ly, hly⟩ : ∃ l, l = vL y := ⟨_, rfl⟩
  have HI := Lib.hid (show (Try.prog.info? 33).map (·.size) = some ly.length from by rw [hly]; exact lineInfo hy)
  have HLL := Lib.hid (show ly.length = 9 from by rw [hly, vL_len]; exact hy)
  have HO := Lib.hid (show ly.all (·.oneCell') = true from by rw [hly]; exact vL_one _)
  have HGG := Lib.hid (fun (i : Nat) (hi : i < 9) => (show ly.toArray[i]? = some (.int .i64 (y.getD i 0)) from by rw [hly]; exact vL_get hy hi))
  have HST := Lib.hid (fun (i : Nat) (x : Int) => (show ly.toArray.setIfInBounds i (.int .i64 x) = (vL (y.set i x)).toArray from by rw [hly, vL_set]))
  rw [← hly]
  clear hly
  go_enter Try.func20, Try.ntmps20
  go_upto_region 0 with fail
  refine wp_region_lit ?_
  refine wpList_yield (w' := w.alloc (.cells #[.int .i64 k, .int .i64 n, .int .i64 h, .int .i64 us] 56)) (v := .pointer (some ⟨w.heap.size, 0, none⟩)) rfl (by first | (go_simp; done) | (go_simp; rfl)) ?_
  generalize w.alloc (.cells #[.int .i64 k, .int .i64 n, .int .i64 h, .int .i64 us] 56) = w1 at *
  obtain ⟨e, he⟩ : ∃ e, e = w.heap.size := ⟨_, rfl⟩
  rw [← he] at n1 ⊢
  have HE := Lib.hid he
  have hb2 := below_alloc (Below.refl _ w1) (.cells ly.toArray 33)
  have n2 := World.alloc_heap_new w1 (.cells ly.toArray 33)
  have n1' := (hb2.block e (Array.getElem?_eq_some_iff.1 n1).1).trans n1
  have hb12 := below_next hb1 hb2
  have h1s := hb1.size
  have hes : e < w1.heap.size := (Array.getElem?_eq_some_iff.1 n1).1
  clear hb1 hb2 n1 he
  refine wpList_yield (w' := w1.alloc (.cells ly.toArray 33)) (v := .pointer (some ⟨w1.heap.size, 0, none⟩)) rfl (by first | (go_simp; done) | (go_simp; rfl)) ?_
  generalize w1.alloc (.cells ly.toArray 33) = w2 at *
  obtain ⟨q, hq⟩ : ∃ q, q = w1.heap.size := ⟨_, rfl⟩
  rw [← hq] at n2 hes h1s ⊢
  clear hq
  have hb3 := below_alloc (Below.refl _ w2) (.cells #[.int .i64 0, .int .i64 0, .int .i64 0, .int .i64 0, .int .i64 0, .int .i64 0, .int .i64 0, .int .i64 0, .int .i64 0] 33)
  have n3 := World.alloc_heap_new w2 (.cells #[.int .i64 0, .int .i64 0, .int .i64 0, .int .i64 0, .int .i64 0, .int .i64 0, .int .i64 0, .int .i64 0, .int .i64 0] 33)
  have hqs : q < w2.heap.size := (Array.getElem?_eq_some_iff.1 n2).1
  have N1 := Lib.hid ((hb3.block e (by omega)).trans n1')
  have N2 := Lib.hid ((hb3.block q hqs).trans n2)
  have HB := Lib.hid (below_next hb12 hb3)
  refine wpList_yield (w' := w2.alloc (.cells #[.int .i64 0, .int .i64 0, .int .i64 0, .int .i64 0, .int .i64 0, .int .i64 0, .int .i64 0, .int .i64 0, .int .i64 0] 33)) (v := .pointer (some ⟨w2.heap.size, 0, none⟩)) rfl (by first | (go_simp; done) | (go_simp; rfl)) ?_
  generalize w2.alloc (.cells #[.int .i64 0, .int .i64 0, .int .i64 0, .int .i64 0, .int .i64 0, .int .i64 0, .int .i64 0, .int .i64 0, .int .i64 0] 33) = w3 at *
  obtain ⟨r, hr⟩ : ∃ r, r = w2.heap.size := ⟨_, rfl⟩
  rw [← hr] at n3 hqs ⊢
  have N3 := Lib.hid n3
  have HW := Lib.hid (show w.heap.size ≤ q ∧ w.heap.size ≤ r ∧ e < q ∧ q < r from ⟨h1s, by omega, hes, hqs⟩)
  clear n1' n2 n3 hb12 hb3 hr h1s hes hqs
  rename_i hK
  refine hK _ _ ?_
  go_simp
  have HG6 := HGG.out 6 (by decide)
  have HYS := Lib.hid (show (y.set 6 M).length = 9 by rw [List.length_set]; exact HYL.out)
  have q7 : (vL (y.set 6 M)).toArray[7]? = some (.int .i64 (y.getD 7 0)) := by rw [vL_get HYS.out (by decide), getD_set, if_neg (by omega)]
  have q8 : (vL (y.set 6 M)).toArray[8]? = some (.int .i64 (y.getD 8 0)) := by rw [vL_get HYS.out (by decide), getD_set, if_neg (by omega)]
  have HST6 := HST.out 6 M
  obtain ⟨ys, hys⟩ : ∃ ys, ys = y.set 6 M := ⟨_, rfl⟩
  rw [← hys] at q7 q8 HLM HST6 HYS
  have HQ78 := Lib.hid (And.intro q7 q8)
  generalize y.getD 6 0 = t6 at *
  generalize y.getD 7 0 = t7 at *
  generalize y.getD 8 0 = t8 at *
  have hwr : IntKind.i64.wrap (t6 + us) = t6 + us := by rw [IntKind.wrap_i64]; omega
  have HM := Lib.hid (show bmin (t6 + us) 1125899906842624 = M from by rw [hM, bmin_eq])
  have KC := Lib.hid (fun (X : World) => (show Calls Try.prog 32 #[.agg #[.int .i64 t7, .int .i64 t8], .int .i64 n, .int .i64 h, .int .i64 us] X fun e w' => e = .returned (.agg #[.int .i64 C.1, .int .i64 C.2]) ∧ Below X.heap.size X w' from by rw [hC]; exact charge_any t7 t8 n h us X))
  clear hM hC hys
  have z6 := cell_of_block (o := 6) N2.out HG6
  have f6 := free_of_block 6 N2.out
  have e3 : w3.cell? ⟨e, 3, none⟩ = some (.int .i64 us) := cell_of_block (o := 3) N1.out rfl
  have hw := (wrote_refl N2.out).set 6 (.int .i64 M)
  rw [HST6] at hw
  have N24 := Lib.hid hw.there
  have N14 := Lib.hid ((hw.rest e (by have := HW.out; omega)).trans N1.out)
  have N34 := Lib.hid ((hw.rest r (by have := HW.out; omega)).trans N3.out)
  have HB4 := Lib.hid (hw.below HB.out HW.out.1)
  clear q7 q8 HST6 HG6 HGG HST htb
  go_upto_region 2 with fail
  rw [HM.out]
  clear z6 f6 e3 hw hwr
  generalize w3.setCell ⟨q, 6, none⟩ (.int .i64 M) = w4 at *
  have c7 : w4.cell? ⟨q, 7, none⟩ = some (.int .i64 t7) := cell_of_block (o := 7) N24.out HQ78.out.1
  have c8 : w4.cell? ⟨q, 8, none⟩ = some (.int .i64 t8) := cell_of_block (o := 8) N24.out HQ78.out.2
  have e1 : w4.cell? ⟨e, 1, none⟩ = some (.int .i64 n) := cell_of_block (o := 1) N14.out rfl
  have e2 : w4.cell? ⟨e, 2, none⟩ = some (.int .i64 h) := cell_of_block (o := 2) N14.out rfl
  have e3 : w4.cell? ⟨e, 3, none⟩ = some (.int .i64 us) := cell_of_block (o := 3) N14.out rfl
  go_wp2_with fail
  refine (KC.out w4).mono ?_
  rintro ex w5 ⟨rfl, hb5⟩
  have N25 := Lib.hid ((hb5.block q (Array.getElem?_eq_some_iff.1 N24.out).1).trans N24.out)
  have N35 := Lib.hid ((hb5.block r (Array.getElem?_eq_some_iff.1 N34.out).1).trans N34.out)
  have HB5 := Lib.hid (below_next HB4.out hb5)
  clear hb5 c7 c8 e1 e2 e3 N24 N34 N14
  have c7 : w5.cell? ⟨q, 7, none⟩ = some (.int .i64 t7) := cell_of_block (o := 7) N25.out HQ78.out.1
  have c8 : w5.cell? ⟨q, 8, none⟩ = some (.int .i64 t8) := cell_of_block (o := 8) N25.out HQ78.out.2
  have f7 := free_of_block 7 N25.out
  have f8 := free_of_block 8 N25.out
  have hw := ((wrote_refl N25.out).set 7 (.int .i64 C.1)).set 8 (.int .i64 C.2)
  rw [vL_set, vL_set, HLM.out] at hw
  have NQ := Lib.hid hw.there
  have NR := Lib.hid ((hw.rest r (by have := HW.out; omega)).trans N35.out)
  have HBZ := Lib.hid (hw.below HB5.out HW.out.1)
  clear hw
  go_upto_region 3 with fail
  clear c7 c8 f7 f8
  generalize (w5.setCell ⟨q, 7, none⟩ (.int .i64 C.1)).setCell ⟨q, 8, none⟩ (.int .i64 C.2) = w8 at *
  refine wp_region_lit ?_
  refine wpList_load_all rfl 33 _ rfl q lz _ (by go_simp) NQ.out Try.underlying33 rfl HIZ.out ?_
  refine wpList_store_all rfl 33 _ _ rfl r (T := 33) lz (by go_simp) (by go_simp) NR.out (by rw [HLZ.out]; rfl) HIZ.out HOZ.out ?_
  intro w9 hw9
  have NR9 := Lib.hid hw9.there
  have HB9 := Lib.hid (hw9.below HBZ.out (by have := HW.out; omega))
  clear hw9
  rename_i hK
  refine hK _ _ ?_
  go_simp
  go_wp2_with fail
  refine bodyPost_ret (results_all lz _ Try.results20 (by go_simp) NR9.out Try.underlying33 rfl HIZ.out) rfl ?_
  exact ⟨rfl, HB9.out⟩
end Go.Proofs.Ytmpknjlfabpipaa
