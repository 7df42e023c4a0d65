/- Laws that belong together: A drain read from bytes, by the document; a drain as the document has it; is it the document's. No condition but the lengths' bound.; A drain read from bytes, by the document; is it the document's. No condition but the lengths' bound.; A drain read from bytes, by the document. No condition but the lengths' bound.; RollReads walked, at any drain and bytes (layer 21). The door's type of errors, and its table of trailing zeros. -/
import Derived.Test.YtdpfbpmdpdfpdaaDoorMRrd
import Derived.Test.YtdpfbpmdpdfpdaaDoorMak
import Derived.Test.YtdpfbpmdpdfpdaaDoorMad
import Derived.Test.YtdpfbpmdpdfpdaaDoorMae
import Derived.Test.YtdpfbpmdpdfpdaaDoorMRre
import Derived.Test.YtdpfbpmdpdfpdaaDoorMai
import Derived.Test.YtdpfbpmdpdfpdaaDoorMaa
namespace Go.Proofs.YtdpfbpmdpdfpdaaDoor
set_option linter.unusedVariables false
open Go.ChangeShapes Go.WideShapes Go.ChangeAt Go.RowKit
attribute [local go_sem ↓] Go.wp_at_zero Go.wp_at_succ comesTo_value_eq comesTo_skip_eq comesTo_enter_eq Rl.comesToR_value_eq Rl.comesToR_skip_eq Rl.comesToR_enter_eq

theorem csK_suff (xs : List Int) : ∀ k, (csK xs k).xs <:+ xs
  | 0 => List.suffix_refl _
  | k + 1 => by
    refine List.IsSuffix.trans ?_ (csK_suff xs k)
    rw [show csK xs (k + 1) = (intF (csK xs k)).1 from rfl]
    generalize csK xs k = st
    unfold intF
    split
    · exact scan_suffix _ _ _
    · exact List.suffix_refl _
theorem OwnI.wrote {w w' : World} {B b : Nat} {T : TypeId} {cs : Array Value} {v : Value} {l : List Int} (h : OwnI w B v l) (hw : WroteTo b T cs w w') (hb : b < B) : OwnI w' B v l := by
  refine ⟨h.1, ?_⟩
  rcases h.2 with hn | ⟨g, cap, cur, hv, hB, hg, rest⟩
  · exact .inl hn
  · exact .inr ⟨g, cap, cur, hv, hB, (hw.rest g (by omega)).trans hg, rest⟩
theorem rof_own (s : NSet) (w : World) : Calls Tryd.prog 45 #[.int .u64 (nv s)] w fun e w' => ∃ a c, e = .returned (.slice a (nodes s).length c) ∧ OwnI w' w.heap.size (.slice a (nodes s).length c) (nodes s) ∧ Below w.heap.size w w' := by
  refine (rof_any s w).mono ?_
  rintro e w' ⟨v, rfl, ho, hb⟩
  obtain ⟨a, c, rfl⟩ := ho.ints.form
  exact ⟨a, c, rfl, ho, hb⟩
abbrev ZR : Array Value := #[.int .i64 0, .int .i64 0, .slice none 0 0, .slice none 0 0]
/-- a reading under way -/
structure RdQ (w W : World) (xs : List Int) (k : Nat) : Prop where
  res : W.heap[w.heap.size]? = some (.cells ZR 34 (0, 0))
  cur : W.heap[w.heap.size + 1]? = some (.cells #[.string (strOfNums (csK xs k).xs), .int .i64 (csK xs k).bad] 90 (0, 0))
  arr : W.heap[w.heap.size + 1 + 1]? = some (.cells (valK xs k) 85 (0, 0))
  bel : Below w.heap.size w W
theorem RdQ.below {w W W' : World} {xs : List Int} {k : Nat} (h : RdQ w W xs k) (hb : Below W.heap.size W W') : RdQ w W' xs k :=
  ⟨(hb.block _ (Array.getElem?_eq_some_iff.1 h.res).1).trans h.res, (hb.block _ (Array.getElem?_eq_some_iff.1 h.cur).1).trans h.cur, (hb.block _ (Array.getElem?_eq_some_iff.1 h.arr).1).trans h.arr, below_next h.bel hb⟩
theorem RdQ.step {w W : World} {xs : List Int} {k : Nat} (h : RdQ w W xs k) (hk : k < 4) :
    RdQ w (((W.setCell ⟨w.heap.size + 1, 0, none⟩ (.string (strOfNums (csK xs (k + 1)).xs))).setCell ⟨w.heap.size + 1, 1, none⟩ (.int .i64 (csK xs (k + 1)).bad)).setCell ⟨w.heap.size + 1 + 1, k, none⟩ (.int .i64 (numK xs k))) xs (k + 1) := by
  have h1 := ((wrote_refl h.cur).set 0 (.string (strOfNums (csK xs (k + 1)).xs))).set 1 (.int .i64 (csK xs (k + 1)).bad)
  have hA := (h1.rest (w.heap.size + 1 + 1) (by omega)).trans h.arr
  have h2 := (wrote_refl hA).set k (.int .i64 (numK xs k))
  refine ⟨(h2.rest _ (by omega)).trans ((h1.rest _ (by omega)).trans h.res), (h2.rest _ (by omega)).trans h1.there, ?_, h2.below (h1.below h.bel (by omega)) (by omega)⟩
  have := h2.there
  rwa [valK_set xs hk] at this
theorem RdQ.start (w : World) (xs : List Int) :
    RdQ w (((w.alloc (.cells ZR 34)).alloc (.cells #[.string (strOfNums xs), .int .i64 0] 90)).alloc (.cells #[.int .i64 0, .int .i64 0, .int .i64 0, .int .i64 0] 85)) xs 0 := by
  have s1 : (w.alloc (.cells ZR 34)).heap.size = w.heap.size + 1 := by simp
  have s2 : ((w.alloc (.cells ZR 34)).alloc (.cells #[.string (strOfNums xs), .int .i64 0] 90)).heap.size = w.heap.size + 1 + 1 := by simp
  have b1 := below_alloc (Below.refl _ (w.alloc (.cells ZR 34))) (.cells #[.string (strOfNums xs), .int .i64 0] 90)
  have b2 := below_alloc (Below.refl _ ((w.alloc (.cells ZR 34)).alloc (.cells #[.string (strOfNums xs), .int .i64 0] 90))) (.cells #[.int .i64 0, .int .i64 0, .int .i64 0, .int .i64 0] 85)
  have b0 := below_alloc (Below.refl _ w) (.cells ZR 34)
  refine ⟨?_, ?_, ?_, below_next (below_next b0 b1) b2⟩
  · exact (b2.block _ (by omega)).trans ((b1.block _ (by omega)).trans (World.alloc_heap_new w _))
  · have := World.alloc_heap_new (w.alloc (.cells ZR 34)) (.cells #[.string (strOfNums xs), .int .i64 0] 90)
    rw [s1] at this
    exact (b2.block _ (by omega)).trans this
  · have := World.alloc_heap_new ((w.alloc (.cells ZR 34)).alloc (.cells #[.string (strOfNums xs), .int .i64 0] 90)) (.cells #[.int .i64 0, .int .i64 0, .int .i64 0, .int .i64 0] 85)
    rw [s2] at this
    exact this
/-- what is read: the numbers, the sets, how many bytes, what is wrong -/
def gW (xs : List Int) : Int := if okR xs then numK xs 0 else 0
def gF (xs : List Int) : Int := if okR xs then numK xs 1 else 0
def gD (xs : List Int) : NSet := if okR xs then BitVec.ofInt 64 (numK xs 2) else 0#64
def gH (xs : List Int) : NSet := if okR xs then BitVec.ofInt 64 (numK xs 3) else 0#64
def gN (xs : List Int) : Int := if okR xs then (xs.length : Int) - (csK xs 4).xs.length else 0
def gC (xs : List Int) : Int := if okR xs then 0 else 11
def RDoc (w : World) (xs : List Int) (e : Ending) (w' : World) : Prop := ∃ vD vH, e = .returned (.tuple #[.agg #[.int .i64 (gW xs), .int .i64 (gF xs), vD, vH], .int .i64 (gN xs), .int .i64 (gC xs)]) ∧ ReadsI w' vD (nodes (gD xs)) ∧ ReadsI w' vH (nodes (gH xs)) ∧ Below w.heap.size w w'
theorem ReadsI.none' {w : World} : ReadsI w (.slice none 0 0) (nodes 0#64) := by rw [nodes_zero]; exact .inl ⟨rfl, none, 0, rfl⟩
/-- a drain for the document -/
def DocR (w : World) (W F : Int) (D H : NSet) (e : Ending) (w' : World) : Prop := ∃ aD cD aH cH, e = .returned (.agg #[.int .i64 W, .int .i64 F, .slice aD (nodes D).length cD, .slice aH (nodes H).length cH]) ∧ ReadsI w' (.slice aD (nodes D).length cD) (nodes D) ∧ ReadsI w' (.slice aH (nodes H).length cH) (nodes H) ∧ Below w.heap.size w w'
theorem own21_any (W F : Int) (D H : NSet) (w : World) :
    Calls Tryd.prog 13 #[.agg #[.int .i64 W, .int .i64 F, .int .u64 (nv D), .int .u64 (nv H)]] w fun e w' => DocR w W F D H e w' := by
  have hmx : Tryd.prog.follows .mixedOrders = true := by kernel_rfl
  have KD := Lib.hid (fun X => rof_own D X)
  have KH := Lib.hid (fun X => rof_own H X)
  unfold DocR
  generalize nodes D = lD at *
  generalize nodes H = lH at *
  have hA := below_alloc (Below.refl _ w) (.cells #[.int .i64 W, .int .i64 F, .int .u64 (nv D), .int .u64 (nv H)] 26)
  have n1 := World.alloc_heap_new w (.cells #[.int .i64 W, .int .i64 F, .int .u64 (nv D), .int .u64 (nv H)] 26)
  have hA2 := below_alloc (Below.refl _ (w.alloc (.cells #[.int .i64 W, .int .i64 F, .int .u64 (nv D), .int .u64 (nv H)] 26))) (.cells ZR 34)
  have n2 := World.alloc_heap_new (w.alloc (.cells #[.int .i64 W, .int .i64 F, .int .u64 (nv D), .int .u64 (nv H)] 26)) (.cells ZR 34)
  rw [World.size_alloc] at n2
  have n1' := (hA2.block _ (by simp)).trans n1
  have HA := Lib.hid (below_next hA hA2)
  have N1 := Lib.hid n1'
  have N2 := Lib.hid n2
  clear hA hA2 n1 n2 n1'
  go_enter Tryd.func13, Tryd.ntmps13
  go_upto_region 1 with fail
  generalize (w.alloc (.cells #[.int .i64 W, .int .i64 F, .int .u64 (nv D), .int .u64 (nv H)] 26)).alloc (.cells ZR 34) = W1 at *
  refine wp_region_held (S := fun X => X.cell? ⟨w.heap.size, 0, none⟩ = some (.int .i64 W) ∧ X.cell? ⟨w.heap.size, 1, none⟩ = some (.int .i64 F) ∧ X.cell? ⟨w.heap.size, 2, none⟩ = some (.int .u64 (nv D)) ∧ X.cell? ⟨w.heap.size, 3, none⟩ = some (.int .u64 (nv H))) hmx ?_
  have hS : W1.drew.cell? ⟨w.heap.size, 0, none⟩ = some (.int .i64 W) ∧ W1.drew.cell? ⟨w.heap.size, 1, none⟩ = some (.int .i64 F) ∧ W1.drew.cell? ⟨w.heap.size, 2, none⟩ = some (.int .u64 (nv D)) ∧ W1.drew.cell? ⟨w.heap.size, 3, none⟩ = some (.int .u64 (nv H)) := ⟨cell_of_block (o := 0) N1.out rfl, cell_of_block (o := 1) N1.out rfl, cell_of_block (o := 2) N1.out rfl, cell_of_block (o := 3) N1.out rfl⟩
  have HAd := Lib.hid (show Below w.heap.size w W1.drew from HA.out.drew)
  have N1d := Lib.hid (show W1.drew.heap[w.heap.size]? = _ from N1.out)
  have N2d := Lib.hid (show W1.drew.heap[w.heap.size + 1]? = _ from N2.out)
  clear HA N1 N2
  change wpAnyH _ _ _ _ _ 12 _ _ W1.drew
  generalize W1.drew = W2 at *
  (refine wpAnyH_take (i := 0) (v := .pointer (some ⟨w.heap.size, 0, none⟩)) rfl (by decide +kernel) (by decide +kernel) (by decide +kernel) (fun _ _ _ h => h) (.inl ⟨by first | rfl | (go_simp; done), fun X hX => by obtain ⟨hx0, hx1, hx2, hx3⟩ := hX; first | (go_simp; done) | (go_simp; rfl)⟩) hS ?_)
  (refine wpAnyH_take (i := 1) (v := .int .i64 W) rfl (by decide +kernel) (by decide +kernel) (by decide +kernel) (fun _ _ _ h => h) (.inl ⟨by first | rfl | (go_simp; done), fun X hX => by obtain ⟨hx0, hx1, hx2, hx3⟩ := hX; first | (go_simp; done) | (go_simp; rfl)⟩) hS ?_)
  (refine wpAnyH_take (i := 2) (v := .pointer (some ⟨w.heap.size, 1, none⟩)) rfl (by decide +kernel) (by decide +kernel) (by decide +kernel) (fun _ _ _ h => h) (.inl ⟨by first | rfl | (go_simp; done), fun X hX => by obtain ⟨hx0, hx1, hx2, hx3⟩ := hX; first | (go_simp; done) | (go_simp; rfl)⟩) hS ?_)
  (refine wpAnyH_take (i := 3) (v := .int .i64 F) rfl (by decide +kernel) (by decide +kernel) (by decide +kernel) (fun _ _ _ h => h) (.inl ⟨by first | rfl | (go_simp; done), fun X hX => by obtain ⟨hx0, hx1, hx2, hx3⟩ := hX; first | (go_simp; done) | (go_simp; rfl)⟩) hS ?_)
  (refine wpAnyH_take (i := 4) (v := .pointer (some ⟨w.heap.size, 2, none⟩)) rfl (by decide +kernel) (by decide +kernel) (by decide +kernel) (fun _ _ _ h => h) (.inl ⟨by first | rfl | (go_simp; done), fun X hX => by obtain ⟨hx0, hx1, hx2, hx3⟩ := hX; first | (go_simp; done) | (go_simp; rfl)⟩) hS ?_)
  (refine wpAnyH_take (i := 5) (v := .int .u64 (nv D)) rfl (by decide +kernel) (by decide +kernel) (by decide +kernel) (fun _ _ _ h => h) (.inl ⟨by first | rfl | (go_simp; done), fun X hX => by obtain ⟨hx0, hx1, hx2, hx3⟩ := hX; first | (go_simp; done) | (go_simp; rfl)⟩) hS ?_)
  (refine wpAnyH_take (i := 7) (v := .pointer (some ⟨w.heap.size, 3, none⟩)) rfl (by decide +kernel) (by decide +kernel) (by decide +kernel) (fun _ _ _ h => h) (.inl ⟨by first | rfl | (go_simp; done), fun X hX => by obtain ⟨hx0, hx1, hx2, hx3⟩ := hX; first | (go_simp; done) | (go_simp; rfl)⟩) hS ?_)
  (refine wpAnyH_take (i := 8) (v := .int .u64 (nv H)) rfl (by decide +kernel) (by decide +kernel) (by decide +kernel) (fun _ _ _ h => h) (.inl ⟨by first | rfl | (go_simp; done), fun X hX => by obtain ⟨hx0, hx1, hx2, hx3⟩ := hX; first | (go_simp; done) | (go_simp; rfl)⟩) hS ?_)
  clear hS
  refine anyH_call (i := 6) (by decide +kernel) rfl (by first | rfl | (go_simp; done)) (by go_simp) (KD.out W2) ?_
  rintro e W3 ⟨aD, cD, rfl, hrD, hb3⟩
  have hz2 : w.heap.size + 1 < W2.heap.size := (Array.getElem?_eq_some_iff.1 N2d.out).1
  have hrD' := hrD.mono (B' := w.heap.size + 2) (by omega)
  have N1e := Lib.hid ((hb3.block _ (Array.getElem?_eq_some_iff.1 N1d.out).1).trans N1d.out)
  have N2e := Lib.hid ((hb3.block _ (Array.getElem?_eq_some_iff.1 N2d.out).1).trans N2d.out)
  have HA3 := Lib.hid (below_next HAd.out hb3)
  have HRD := Lib.hid hrD'
  have hz3 := hb3.size
  clear N1d N2d HAd hb3 hrD hrD'
  refine ⟨_, rfl, ⟨cell_of_block (o := 0) N1e.out rfl, cell_of_block (o := 1) N1e.out rfl, cell_of_block (o := 2) N1e.out rfl, cell_of_block (o := 3) N1e.out rfl⟩, ?_⟩
  refine anyH_call (i := 9) (by decide +kernel) rfl (by first | rfl | (go_simp; done)) (by go_simp) (KH.out W3) ?_
  rintro e W4 ⟨aH, cH, rfl, hrH, hb4⟩
  have N1f := Lib.hid ((hb4.block _ (Array.getElem?_eq_some_iff.1 N1e.out).1).trans N1e.out)
  have N2f := Lib.hid ((hb4.block _ (Array.getElem?_eq_some_iff.1 N2e.out).1).trans N2e.out)
  have HA4 := Lib.hid (below_next HA3.out hb4)
  have HRD4 := Lib.hid (HRD.out.below hb4)
  have HRH := Lib.hid (hrH.mono (B' := w.heap.size + 2) (by omega))
  clear N1e N2e HA3 hb4 hrH HRD hz2 hz3
  have hS4 : W4.cell? ⟨w.heap.size, 0, none⟩ = some (.int .i64 W) ∧ W4.cell? ⟨w.heap.size, 1, none⟩ = some (.int .i64 F) ∧ W4.cell? ⟨w.heap.size, 2, none⟩ = some (.int .u64 (nv D)) ∧ W4.cell? ⟨w.heap.size, 3, none⟩ = some (.int .u64 (nv H)) := ⟨cell_of_block (o := 0) N1f.out rfl, cell_of_block (o := 1) N1f.out rfl, cell_of_block (o := 2) N1f.out rfl, cell_of_block (o := 3) N1f.out rfl⟩
  refine ⟨_, rfl, hS4, ?_⟩
  (refine wpAnyH_take (i := 10) (v := .agg #[.int .i64 W, .int .i64 F, .slice aD lD.length cD, .slice aH lH.length cH]) rfl (by decide +kernel) (by decide +kernel) (by decide +kernel) (fun _ _ _ h => h) (.inl ⟨by first | rfl | (go_simp; done), fun X hX => by obtain ⟨hx0, hx1, hx2, hx3⟩ := hX; first | (go_simp; done) | (go_simp; rfl)⟩) hS4 ?_)
  have hw9 := wrote_all N2f.out (l := [.int .i64 W, .int .i64 F, .slice aD lD.length cD, .slice aH lH.length cH]) rfl
  refine anyH_store (i := 11) (by decide +kernel) rfl (by first | rfl | (go_simp; done)) (exec_store_allH 34 _ _ rfl (w.heap.size + 1) [.int .i64 W, .int .i64 F, .slice aD lD.length cD, .slice aH lH.length cH] (by go_simp) (by go_simp) N2f.out rfl (by kernel_rfl) rfl) ⟨cell_of_block (o := 0) ((hw9.rest _ (by omega)).trans N1f.out) rfl, cell_of_block (o := 1) ((hw9.rest _ (by omega)).trans N1f.out) rfl, cell_of_block (o := 2) ((hw9.rest _ (by omega)).trans N1f.out) rfl, cell_of_block (o := 3) ((hw9.rest _ (by omega)).trans N1f.out) rfl⟩ ?_
  have HW := Lib.hid hw9
  clear hw9 hS4
  generalize W4.setCells (w.heap.size + 1) 0 _ = W9 at *
  refine wpAnyH_done (by decide +kernel) ?_ _
  go_wp2_with fail
  refine bodyPost_ret (results_all [.int .i64 W, .int .i64 F, .slice aD lD.length cD, .slice aH lH.length cH] _ Tryd.results13 (by go_simp) HW.out.there Tryd.underlying34 rfl (by kernel_rfl)) rfl ⟨aD, cD, aH, cH, rfl, (HRD4.out.wrote HW.out (by omega)).ints, (HRH.out.wrote HW.out (by omega)).ints, HW.out.below HA4.out (by omega)⟩
end Go.Proofs.YtdpfbpmdpdfpdaaDoor
namespace Go.Proofs.YtdpfbpmdpdfpdaaDoor
set_option linter.unusedVariables false
open Go.ChangeShapes Go.WideShapes Go.ChangeAt Go.RowKit
attribute [local go_sem ↓] Go.wp_at_zero Go.wp_at_succ comesTo_value_eq comesTo_skip_eq comesTo_enter_eq Rl.comesToR_value_eq Rl.comesToR_skip_eq Rl.comesToR_enter_eq

set_option maxRecDepth 100000 in
set_option maxHeartbeats 4000000 in
theorem like21_same (W F : Int) (D H : NSet) (aD aH : Option Addr) (cD cH : Nat) (w : World) (hD : ReadsI w (.slice aD (nodes D).length cD) (nodes D)) (hH : ReadsI w (.slice aH (nodes H).length cH) (nodes H)) :
    Calls Tryd.prog 14 #[.agg #[.int .i64 W, .int .i64 F, .int .u64 (nv D), .int .u64 (nv H)], .agg #[.int .i64 W, .int .i64 F, .slice aD (nodes D).length cD, .slice aH (nodes H).length cH]] w fun e w' => e = .returned (.int .i64 1) ∧ Below w.heap.size w w' := by
  have hmx : Tryd.prog.follows .mixedOrders = true := by kernel_rfl
  have hA := below_alloc (Below.refl _ w) (.cells #[.int .i64 W, .int .i64 F, .int .u64 (nv D), .int .u64 (nv H)] 26)
  have n1 := World.alloc_heap_new w (.cells #[.int .i64 W, .int .i64 F, .int .u64 (nv D), .int .u64 (nv H)] 26)
  have hA2 := below_alloc (Below.refl _ (w.alloc (.cells #[.int .i64 W, .int .i64 F, .int .u64 (nv D), .int .u64 (nv H)] 26))) (.cells #[.int .i64 W, .int .i64 F, .slice aD (nodes D).length cD, .slice aH (nodes H).length cH] 34)
  have n2 := World.alloc_heap_new (w.alloc (.cells #[.int .i64 W, .int .i64 F, .int .u64 (nv D), .int .u64 (nv H)] 26)) (.cells #[.int .i64 W, .int .i64 F, .slice aD (nodes D).length cD, .slice aH (nodes H).length cH] 34)
  rw [World.size_alloc] at n2
  have n1' := (hA2.block _ (by simp)).trans n1
  have hAA := below_next hA hA2
  have KD := Lib.hid (fun X (hX : Below w.heap.size w X) => rset_nodes D X (hD.below hX))
  have KH := Lib.hid (fun X (hX : Below w.heap.size w X) => rset_nodes H X (hH.below hX))
  have HA := Lib.hid hAA
  have N1 := Lib.hid n1'
  have N2 := Lib.hid n2
  clear hA hA2 n1 n2 n1' hAA hD hH
  generalize (nodes D).length = nD at *
  generalize (nodes H).length = nH at *
  go_enter Tryd.func14, Tryd.ntmps14
  go_upto_region 1 with fail
  generalize (w.alloc (.cells #[.int .i64 W, .int .i64 F, .int .u64 (nv D), .int .u64 (nv H)] 26)).alloc (.cells #[.int .i64 W, .int .i64 F, .slice aD nD cD, .slice aH nH cH] 34) = W1 at *
  have A0 := Lib.hid (fun X (hX : Below W1.heap.size W1 X) => (hX.block _ (Array.getElem?_eq_some_iff.1 N1.out).1).trans N1.out)
  have B0 := Lib.hid (fun X (hX : Below W1.heap.size W1 X) => (hX.block _ (Array.getElem?_eq_some_iff.1 N2.out).1).trans N2.out)
  have a0 := Lib.hid (fun X hX => cell_of_block (o := 0) (A0.out X hX) rfl)
  have a1 := Lib.hid (fun X hX => cell_of_block (o := 1) (A0.out X hX) rfl)
  have a2 := Lib.hid (fun X hX => cell_of_block (o := 2) (A0.out X hX) rfl)
  have a3 := Lib.hid (fun X hX => cell_of_block (o := 3) (A0.out X hX) rfl)
  have b0 := Lib.hid (fun X hX => cell_of_block (o := 0) (B0.out X hX) rfl)
  have b1 := Lib.hid (fun X hX => cell_of_block (o := 1) (B0.out X hX) rfl)
  have b2 := Lib.hid (fun X hX => cell_of_block (o := 2) (B0.out X hX) rfl)
  have b3 := Lib.hid (fun X hX => cell_of_block (o := 3) (B0.out X hX) rfl)
  refine Rl.wp_region_rel (fun a b => Below a.heap.size a b) W1 (fun a b c h h' => below_next h h') (fun a => Below.refl _ _) hmx (by kernel_rfl) (Below.refl _ _).drew ?_
  (refine Rl.textR_run ?_ (fun ρ => ?_) (fun ρ W hS hd => ?_) ?_; rotate_left; (focus go_simp); (focus (obtain ⟨hc, hf⟩ := bcell hS; go_simp; first | exact ⟨rfl, Below.refl _ _⟩ | (refine ⟨?_, Below.refl _ _⟩; rfl))); (try go_simp))
  (refine Rl.textR_run ?_ (fun ρ => ?_) (fun ρ W hS hd => ?_) ?_; rotate_left; (focus go_simp); (focus (have hfact := a0.out W hS; go_simp; first | exact ⟨rfl, Below.refl _ _⟩ | (refine ⟨?_, Below.refl _ _⟩; rfl))); (try go_simp))
  (refine Rl.textR_run ?_ (fun ρ => ?_) (fun ρ W hS hd => ?_) ?_; rotate_left; (focus go_simp); (focus (obtain ⟨hc, hf⟩ := bcell hS; go_simp; first | exact ⟨rfl, Below.refl _ _⟩ | (refine ⟨?_, Below.refl _ _⟩; rfl))); (try go_simp))
  (refine Rl.textR_run ?_ (fun ρ => ?_) (fun ρ W hS hd => ?_) ?_; rotate_left; (focus go_simp); (focus (have hfact := b0.out W hS; go_simp; first | exact ⟨rfl, Below.refl _ _⟩ | (refine ⟨?_, Below.refl _ _⟩; rfl))); (try go_simp))
  iterate 3 (refine Rl.textR_run ?_ (fun ρ => ?_) (fun ρ W hS hd => ?_) ?_; rotate_left; (focus go_simp); (focus (obtain ⟨hc, hf⟩ := bcell hS; go_simp; first | exact ⟨rfl, Below.refl _ _⟩ | (refine ⟨?_, Below.refl _ _⟩; rfl))); (try go_simp))
  (refine Rl.textR_run ?_ (fun ρ => ?_) (fun ρ W hS hd => ?_) ?_; rotate_left; (focus go_simp); (focus (have hfact := a1.out W hS; go_simp; first | exact ⟨rfl, Below.refl _ _⟩ | (refine ⟨?_, Below.refl _ _⟩; rfl))); (try go_simp))
  (refine Rl.textR_run ?_ (fun ρ => ?_) (fun ρ W hS hd => ?_) ?_; rotate_left; (focus go_simp); (focus (obtain ⟨hc, hf⟩ := bcell hS; go_simp; first | exact ⟨rfl, Below.refl _ _⟩ | (refine ⟨?_, Below.refl _ _⟩; rfl))); (try go_simp))
  (refine Rl.textR_run ?_ (fun ρ => ?_) (fun ρ W hS hd => ?_) ?_; rotate_left; (focus go_simp); (focus (have hfact := b1.out W hS; go_simp; first | exact ⟨rfl, Below.refl _ _⟩ | (refine ⟨?_, Below.refl _ _⟩; rfl))); (try go_simp))
  iterate 4 (refine Rl.textR_run ?_ (fun ρ => ?_) (fun ρ W hS hd => ?_) ?_; rotate_left; (focus go_simp); (focus (obtain ⟨hc, hf⟩ := bcell hS; go_simp; first | exact ⟨rfl, Below.refl _ _⟩ | (refine ⟨?_, Below.refl _ _⟩; rfl))); (try go_simp))
  (refine Rl.textR_run ?_ (fun ρ => ?_) (fun ρ W hS hd => ?_) ?_; rotate_left; (focus go_simp); (focus (have hfact := a2.out W hS; go_simp; first | exact ⟨rfl, Below.refl _ _⟩ | (refine ⟨?_, Below.refl _ _⟩; rfl))); (try go_simp))
  (refine Rl.textR_run ?_ (fun ρ => ?_) (fun ρ W hS hd => ?_) ?_; rotate_left; (focus go_simp); (focus (obtain ⟨hc, hf⟩ := bcell hS; go_simp; first | exact ⟨rfl, Below.refl _ _⟩ | (refine ⟨?_, Below.refl _ _⟩; rfl))); (try go_simp))
  (refine Rl.textR_run ?_ (fun ρ => ?_) (fun ρ W hS hd => ?_) ?_; rotate_left; (focus go_simp); (focus (have hfact := b2.out W hS; go_simp; first | exact ⟨rfl, Below.refl _ _⟩ | (refine ⟨?_, Below.refl _ _⟩; rfl))); (try go_simp))
  (refine Rl.textR_run ?_ (fun ρ => ?_) (fun ρ W hS hd => ?_) ?_; rotate_left; (focus go_simp); (focus (obtain ⟨hc, hf⟩ := bcell hS; go_simp; refine (KD.out W (below_next HA.out hS)).mono ?_; rintro e w1 ⟨rfl, rfl⟩; refine ⟨_, rfl, ?_, Below.refl _ _⟩; rfl)); (try go_simp))
  iterate 4 (refine Rl.textR_run ?_ (fun ρ => ?_) (fun ρ W hS hd => ?_) ?_; rotate_left; (focus go_simp); (focus (obtain ⟨hc, hf⟩ := bcell hS; go_simp; first | exact ⟨rfl, Below.refl _ _⟩ | (refine ⟨?_, Below.refl _ _⟩; rfl))); (try go_simp))
  (refine Rl.textR_run ?_ (fun ρ => ?_) (fun ρ W hS hd => ?_) ?_; rotate_left; (focus go_simp); (focus (have hfact := a3.out W hS; go_simp; first | exact ⟨rfl, Below.refl _ _⟩ | (refine ⟨?_, Below.refl _ _⟩; rfl))); (try go_simp))
  (refine Rl.textR_run ?_ (fun ρ => ?_) (fun ρ W hS hd => ?_) ?_; rotate_left; (focus go_simp); (focus (obtain ⟨hc, hf⟩ := bcell hS; go_simp; first | exact ⟨rfl, Below.refl _ _⟩ | (refine ⟨?_, Below.refl _ _⟩; rfl))); (try go_simp))
  (refine Rl.textR_run ?_ (fun ρ => ?_) (fun ρ W hS hd => ?_) ?_; rotate_left; (focus go_simp); (focus (have hfact := b3.out W hS; go_simp; first | exact ⟨rfl, Below.refl _ _⟩ | (refine ⟨?_, Below.refl _ _⟩; rfl))); (try go_simp))
  (refine Rl.textR_run ?_ (fun ρ => ?_) (fun ρ W hS hd => ?_) ?_; rotate_left; (focus go_simp); (focus (obtain ⟨hc, hf⟩ := bcell hS; go_simp; refine (KH.out W (below_next HA.out hS)).mono ?_; rintro e w1 ⟨rfl, rfl⟩; refine ⟨_, rfl, ?_, Below.refl _ _⟩; rfl)); (try go_simp))
  iterate 2 (refine Rl.textR_run ?_ (fun ρ => ?_) (fun ρ W hS hd => ?_) ?_; rotate_left; (focus go_simp); (focus (obtain ⟨hc, hf⟩ := bcell hS; go_simp; first | exact ⟨rfl, Below.refl _ _⟩ | (refine ⟨?_, Below.refl _ _⟩; rfl))); (try go_simp))
  refine Rl.textR_nil ?_
  intro ρ wA hgA hkA
  dsimp only
  have HGA := Lib.hid (below_next HA.out hgA)
  clear hgA hkA
  go_simp
  go_wp2_with fail
  go_ret
  exact ⟨rfl, HGA.out⟩
theorem u64_ofInt (x : Int) : IntKind.u64.wrap x = nv (BitVec.ofInt 64 x) := (nv_ofInt x).symm
/-- the drain that the numbers make -/
structure MadeR (w X : World) (xs : List Int) (b : Nat) (aD aH : Option Addr) (cD cH : Nat) (D H : NSet) : Prop where
  big : w.heap.size + 3 ≤ b
  blk : X.heap[b]? = some (.cells #[.int .i64 (numK xs 0), .int .i64 (numK xs 1), .slice aD (nodes D).length cD, .slice aH (nodes H).length cH] 34 (0, 0))
  rd : OwnI X (w.heap.size + 3) (.slice aD (nodes D).length cD) (nodes D)
  rh : OwnI X (w.heap.size + 3) (.slice aH (nodes H).length cH) (nodes H)
  q : RdQ w X xs 4
theorem RdQ.wrote {w X X' : World} {xs : List Int} {k b : Nat} {T : TypeId} {cs : Array Value} (h : RdQ w X xs k) (hw : WroteTo b T cs X X') (hb : w.heap.size + 3 ≤ b) : RdQ w X' xs k :=
  ⟨(hw.rest _ (by omega)).trans h.res, (hw.rest _ (by omega)).trans h.cur, (hw.rest _ (by omega)).trans h.arr, hw.below h.bel (by omega)⟩
/-- the store of the drain that was built -/
theorem madeR_store {w X : World} {xs : List Int} {b : Nat} {aD aH : Option Addr} {cD cH : Nat} {D H : NSet} {z : Array Value} (hz : z.size = 4) (big : w.heap.size + 3 ≤ b) (hb : X.heap[b]? = some (.cells z 34 (0, 0)))
    (rd : OwnI X (w.heap.size + 3) (.slice aD (nodes D).length cD) (nodes D)) (rh : OwnI X (w.heap.size + 3) (.slice aH (nodes H).length cH) (nodes H)) (nd : ∀ g, aD = some g → g.block ≠ b) (nh : ∀ g, aH = some g → g.block ≠ b) (q : RdQ w X xs 4) :
    MadeR w (X.setCells b 0 [.int .i64 (numK xs 0), .int .i64 (numK xs 1), .slice aD (nodes D).length cD, .slice aH (nodes H).length cH]) xs b aD aH cD cH D H := by
  have hw := wrote_all hb (l := [.int .i64 (numK xs 0), .int .i64 (numK xs 1), .slice aD (nodes D).length cD, .slice aH (nodes H).length cH]) (by rw [hz]; rfl)
  refine ⟨big, hw.there, ?_, ?_, q.wrote hw big⟩
  · refine ⟨rd.1, ?_⟩
    rcases rd.2 with hn | ⟨g, cap, cur, hv, hB, hg, rest⟩
    · exact .inl hn
    · cases hv
      exact .inr ⟨g, _, cur, rfl, hB, (hw.rest g (nd _ rfl)).trans hg, rest⟩
  · refine ⟨rh.1, ?_⟩
    rcases rh.2 with hn | ⟨g, cap, cur, hv, hB, hg, rest⟩
    · exact .inl hn
    · cases hv
      exact .inr ⟨g, _, cur, rfl, hB, (hw.rest g (nh _ rfl)).trans hg, rest⟩
theorem OwnI.lt {w : World} {B n c : Nat} {a : Option Addr} {l : List Int} (h : OwnI w B (.slice a n c) l) : ∀ g, a = some g → B ≤ g.block ∧ g.block < w.heap.size := by
  rintro g rfl
  rcases h.2 with ⟨hn, _⟩ | ⟨g', cap, cur, hv, hB, hg, rest⟩
  · cases hn
  · cases hv
    exact ⟨hB, (Array.getElem?_eq_some_iff.1 hg).1⟩
end Go.Proofs.YtdpfbpmdpdfpdaaDoor
namespace Go.Proofs.YtdpfbpmdpdfpdaaDoor
set_option linter.unusedVariables false
open Go.ChangeShapes Go.WideShapes Go.ChangeAt Go.RowKit
attribute [local go_sem ↓] Go.wp_at_zero Go.wp_at_succ comesTo_value_eq comesTo_skip_eq comesTo_enter_eq

theorem RdQ.cells {w X : World} {xs : List Int} (h : RdQ w X xs 4) {x0 x1 x2 x3 : Int} (e0 : x0 = numK xs 0) (e1 : x1 = numK xs 1) (e2 : x2 = numK xs 2) (e3 : x3 = numK xs 3) : X.cell? ⟨w.heap.size + 1 + 1, 0, none⟩ = some (.int .i64 x0) ∧ X.cell? ⟨w.heap.size + 1 + 1, 1, none⟩ = some (.int .i64 x1) ∧ X.cell? ⟨w.heap.size + 1 + 1, 2, none⟩ = some (.int .i64 x2) ∧ X.cell? ⟨w.heap.size + 1 + 1, 3, none⟩ = some (.int .i64 x3) := by
  rw [e0, e1, e2, e3]
  exact ⟨cell_of_block (o := 0) h.arr rfl, cell_of_block (o := 1) h.arr rfl, cell_of_block (o := 2) h.arr rfl, cell_of_block (o := 3) h.arr rfl⟩
theorem okR_fields {xs : List Int} {b : Bool} (h : okR xs = b) : gW xs = (if b then numK xs 0 else 0) ∧ gF xs = (if b then numK xs 1 else 0) ∧ gD xs = (if b then BitVec.ofInt 64 (numK xs 2) else 0#64) ∧ gH xs = (if b then BitVec.ofInt 64 (numK xs 3) else 0#64) ∧ gN xs = (if b then (xs.length : Int) - (csK xs 4).xs.length else 0) ∧ gC xs = (if b then 0 else 11) := by
  unfold gW gF gD gH gN gC
  rw [h]
  exact ⟨rfl, rfl, rfl, rfl, rfl, rfl⟩
set_option maxRecDepth 100000 in
set_option maxHeartbeats 8000000 in
theorem rrollread_any (xs : List Int) (hx : ∀ x ∈ xs, 0 ≤ x ∧ x ≤ 255) (hl : xs.length ≤ 1099511627775) (w : World) : Calls Tryd.prog 10 #[.string (strOfNums xs)] w fun e w' => RDoc w xs e w' := by
  have hmx : Tryd.prog.follows .mixedOrders = true := by kernel_rfl
  have HX := Lib.hid hx
  have HL := Lib.hid hl
  have HSF := Lib.hid (fun k => csK_suff xs k)
  have HSB := Lib.hid (size_str xs)
  have hR := RdQ.start w xs
  obtain ⟨ss, hss⟩ : ∃ ss, ss = strOfNums xs := ⟨_, rfl⟩
  rw [← hss] at HSB hR ⊢
  have HR := Lib.hid hR
  clear hx hl hss hR
  go_enter Tryd.func10, Tryd.ntmps10
  go_wp2_with fail
  generalize ((w.alloc (.cells ZR 34)).alloc (.cells #[.string ss, .int .i64 0] 90)).alloc (.cells #[.int .i64 0, .int .i64 0, .int .i64 0, .int .i64 0] 85) = U at *
  go_loopw [7] (fun i wr => ∃ k : Nat, k ≤ 4 ∧ i = .int .i64 k ∧ RdQ w wr xs k) (fun i _ => 4 - (intOf i).toNat)
  case atStart => exact ⟨0, Nat.zero_le _, rfl, HR.out⟩
  case round =>
    obtain ⟨k, hk, rfl, hrd⟩ := hrel
    have HRD := Lib.hid hrd
    clear hrd HR
    by_cases hlt : k < 4
    · have hd : decide ((k : Int) < 4) = true := decide_eq_true (by omega)
      have hkI : (k : Int) < 4 := by omega
      have hbx : ∀ x ∈ (csK xs k).xs, 0 ≤ x ∧ x ≤ 255 := fun x hx => HX.out x ((HSF.out k).subset hx)
      have hbl : (csK xs k).xs.length ≤ 1099511627776 := by have := (HSF.out k).length_le; have := HL.out; omega
      have KI := Lib.hid (show Calls Tryd.prog 44 #[.agg #[.string (strOfNums (csK xs k).xs), .int .i64 (csK xs k).bad]] wr fun e w' => e = .returned (.tuple #[.agg #[.string (strOfNums (csK xs (k + 1)).xs), .int .i64 (csK xs (k + 1)).bad], .int .i64 (numK xs k)]) ∧ Below wr.heap.size wr w' from rint_any (csK xs k) hbx hbl wr)
      clear hbx hbl
      have c0 := cell_of_block (o := 0) HRD.out.cur rfl
      have c1 := cell_of_block (o := 1) HRD.out.cur rfl
      generalize strOfNums (csK xs k).xs = sx at *
      generalize (csK xs k).bad = bx at *
      go_wp2_with fail
      ((with_reducible refine KI.out.mono ?_))
      rintro e w4 ⟨rfl, hb4⟩
      have HR4 := Lib.hid (HRD.out.below hb4)
      clear hb4 c0 c1
      have c0 := cell_of_block (o := 0) HR4.out.cur rfl
      have c1 := cell_of_block (o := 1) HR4.out.cur rfl
      have f0 := free_of_block 0 HR4.out.cur
      have f1 := free_of_block 1 HR4.out.cur
      obtain ⟨vk, hvk⟩ := valK_get xs k hlt
      have cA := cell_of_block (o := k) HR4.out.arr hvk
      have fA := free_of_block k HR4.out.arr
      clear hvk
      have HST := Lib.hid (HR4.out.step hlt)
      generalize strOfNums (csK xs (k + 1)).xs = sy at *
      generalize (csK xs (k + 1)).bad = byy at *
      generalize numK xs k = nk at *
      go_wp2_with fail
      go_roundw
      case rel => exact ⟨k + 1, by omega, by go_num, HST.out⟩
      case measure => simp [intOf]; omega
    · obtain rfl : k = 4 := by omega
      obtain ⟨x0, hx0⟩ : ∃ x, x = numK xs 0 := ⟨_, rfl⟩
      obtain ⟨x1, hx1⟩ : ∃ x, x = numK xs 1 := ⟨_, rfl⟩
      obtain ⟨x2, hx2⟩ : ∃ x, x = numK xs 2 := ⟨_, rfl⟩
      obtain ⟨x3, hx3⟩ : ∃ x, x = numK xs 3 := ⟨_, rfl⟩
      obtain ⟨D, hD⟩ : ∃ D : NSet, D = BitVec.ofInt 64 x2 := ⟨_, rfl⟩
      obtain ⟨H, hH⟩ : ∃ D : NSet, D = BitVec.ofInt 64 x3 := ⟨_, rfl⟩
      have v2 : IntKind.u64.wrap x2 = nv D := by rw [hD, nv_ofInt]
      have v3 : IntKind.u64.wrap x3 = nv H := by rw [hH, nv_ofInt]
      have HX0 := Lib.hid hx0.symm
      have HX1 := Lib.hid hx1.symm
      have HCE := Lib.hid (fun X (h : RdQ w X xs 4) => h.cells hx0 hx1 hx2 hx3)
      have HEQ := Lib.hid (And.intro hx0 (And.intro hx1 (And.intro (hD.trans (by rw [hx2])) (hH.trans (by rw [hx3])))))
      have KD := Lib.hid (fun X => rof_own D X)
      have KH := Lib.hid (fun X => rof_own H X)
      clear hx0 hx1 hx2 hx3 hD hH hlt hk
      go_upto_region 7 with fail
      go_cut [8] (fun p wx => ∃ b aD aH cD cH, p = .pointer (some ⟨b, 0, none⟩) ∧ MadeR w wx xs b aD aH cD cH D H)
      case first =>
        refine wp_region_held (S := fun X => X.cell? ⟨w.heap.size + 1 + 1, 0, none⟩ = some (.int .i64 x0) ∧ X.cell? ⟨w.heap.size + 1 + 1, 1, none⟩ = some (.int .i64 x1) ∧ X.cell? ⟨w.heap.size + 1 + 1, 2, none⟩ = some (.int .i64 x2) ∧ X.cell? ⟨w.heap.size + 1 + 1, 3, none⟩ = some (.int .i64 x3)) hmx ?_
        have HQ0 := Lib.hid (HRD.out.below (show Below wr.heap.size wr wr.drew from (Below.refl _ _).drew))
        change wpAnyH _ _ _ _ _ 15 _ _ wr.drew
        generalize wr.drew = W0 at *
        have HZ0 := Lib.hid (show w.heap.size + 3 ≤ W0.heap.size from (Array.getElem?_eq_some_iff.1 HQ0.out.arr).1)
        have hS := HCE.out _ HQ0.out
        clear HRD
        (refine wpAnyH_take (i := 0) (v := .pointer (some ⟨w.heap.size + 1 + 1, 0, none⟩)) rfl (by decide +kernel) (by decide +kernel) (by decide +kernel) (fun _ _ _ h => h) (.inl ⟨by first | rfl | (go_simp; done), fun X hX => by obtain ⟨hx0, hx1, hx2, hx3⟩ := hX; first | (go_simp; done) | (go_simp; rfl)⟩) hS ?_)
        (refine wpAnyH_take (i := 1) (v := .int .i64 x0) rfl (by decide +kernel) (by decide +kernel) (by decide +kernel) (fun _ _ _ h => h) (.inl ⟨by first | rfl | (go_simp; done), fun X hX => by obtain ⟨hx0, hx1, hx2, hx3⟩ := hX; first | (go_simp; done) | (go_simp; rfl)⟩) hS ?_)
        (refine wpAnyH_take (i := 2) (v := .pointer (some ⟨w.heap.size + 1 + 1, 1, none⟩)) rfl (by decide +kernel) (by decide +kernel) (by decide +kernel) (fun _ _ _ h => h) (.inl ⟨by first | rfl | (go_simp; done), fun X hX => by obtain ⟨hx0, hx1, hx2, hx3⟩ := hX; first | (go_simp; done) | (go_simp; rfl)⟩) hS ?_)
        (refine wpAnyH_take (i := 3) (v := .int .i64 x1) rfl (by decide +kernel) (by decide +kernel) (by decide +kernel) (fun _ _ _ h => h) (.inl ⟨by first | rfl | (go_simp; done), fun X hX => by obtain ⟨hx0, hx1, hx2, hx3⟩ := hX; first | (go_simp; done) | (go_simp; rfl)⟩) hS ?_)
        (refine wpAnyH_take (i := 4) (v := .pointer (some ⟨w.heap.size + 1 + 1, 2, none⟩)) rfl (by decide +kernel) (by decide +kernel) (by decide +kernel) (fun _ _ _ h => h) (.inl ⟨by first | rfl | (go_simp; done), fun X hX => by obtain ⟨hx0, hx1, hx2, hx3⟩ := hX; first | (go_simp; done) | (go_simp; rfl)⟩) hS ?_)
        (refine wpAnyH_take (i := 5) (v := .int .i64 x2) rfl (by decide +kernel) (by decide +kernel) (by decide +kernel) (fun _ _ _ h => h) (.inl ⟨by first | rfl | (go_simp; done), fun X hX => by obtain ⟨hx0, hx1, hx2, hx3⟩ := hX; first | (go_simp; done) | (go_simp; rfl)⟩) hS ?_)
        (refine wpAnyH_take (i := 6) (v := .int .u64 (nv D)) rfl (by decide +kernel) (by decide +kernel) (by decide +kernel) (fun _ _ _ h => h) (.inl ⟨by first | rfl | (go_simp; done), fun X hX => by obtain ⟨hx0, hx1, hx2, hx3⟩ := hX; first | (go_simp; done) | (go_simp; rfl)⟩) hS ?_)
        (refine wpAnyH_take (i := 8) (v := .pointer (some ⟨w.heap.size + 1 + 1, 3, none⟩)) rfl (by decide +kernel) (by decide +kernel) (by decide +kernel) (fun _ _ _ h => h) (.inl ⟨by first | rfl | (go_simp; done), fun X hX => by obtain ⟨hx0, hx1, hx2, hx3⟩ := hX; first | (go_simp; done) | (go_simp; rfl)⟩) hS ?_)
        (refine wpAnyH_take (i := 9) (v := .int .i64 x3) rfl (by decide +kernel) (by decide +kernel) (by decide +kernel) (fun _ _ _ h => h) (.inl ⟨by first | rfl | (go_simp; done), fun X hX => by obtain ⟨hx0, hx1, hx2, hx3⟩ := hX; first | (go_simp; done) | (go_simp; rfl)⟩) hS ?_)
        (refine wpAnyH_take (i := 10) (v := .int .u64 (nv H)) rfl (by decide +kernel) (by decide +kernel) (by decide +kernel) (fun _ _ _ h => h) (.inl ⟨by first | rfl | (go_simp; done), fun X hX => by obtain ⟨hx0, hx1, hx2, hx3⟩ := hX; first | (go_simp; done) | (go_simp; rfl)⟩) hS ?_)
        clear hS v2 v3
        refine anyH_two (i := 7) (j := 13) (by decide +kernel) ?first7 ?first13
        case first7 =>
          refine opH_call (i := 7) rfl (by first | rfl | (go_simp; done)) (by go_simp) (KD.out W0) ?_
          rintro e W1 ⟨aD, cD, rfl, ho, hb⟩
          have HQ1 := Lib.hid (HQ0.out.below hb)
          have HZ1 := Lib.hid (Nat.le_trans HZ0.out hb.size)
          have HD1 := Lib.hid (ho.mono (B' := w.heap.size + 3) HZ0.out)
          clear ho hb HQ0 HZ0
          refine ⟨_, rfl, HCE.out _ HQ1.out, ?_⟩
          refine anyH_two (i := 11) (j := 13) (by decide +kernel) ?first11 ?firstb
          case first11 =>
            refine opH_call (i := 11) rfl (by first | rfl | (go_simp; done)) (by go_simp) (KH.out W1) ?_
            rintro e W2 ⟨aH, cH, rfl, ho, hb⟩
            have HQ2 := Lib.hid (HQ1.out.below hb)
            have HZ2 := Lib.hid (Nat.le_trans HZ1.out hb.size)
            have HD2 := Lib.hid (HD1.out.below hb)
            have HH2 := Lib.hid (ho.mono (B' := w.heap.size + 3) HZ1.out)
            clear ho hb HQ1 HZ1 HD1
            refine ⟨_, rfl, HCE.out _ HQ2.out, ?_⟩
            have hS := HCE.out _ HQ2.out
            (refine wpAnyH_take (i := 12) (v := .agg #[.int .i64 x0, .int .i64 x1, .slice aD (nodes D).length cD, .slice aH (nodes H).length cH]) rfl (by decide +kernel) (by decide +kernel) (by decide +kernel) (fun _ _ _ h => h) (.inl ⟨by first | rfl | (go_simp; done), fun X hX => by obtain ⟨hx0, hx1, hx2, hx3⟩ := hX; first | (go_simp; done) | (go_simp; rfl)⟩) hS ?_)
            clear hS
            have HF := Lib.hid (And.intro (OwnI.lt HD2.out) (OwnI.lt HH2.out))
            refine anyH_one (i := 13) (by decide +kernel) ?_
            refine opH_val (i := 13) (v := .pointer (some ⟨W2.heap.size, 0, none⟩)) (w' := W2.alloc (.cells ZR 34)) rfl (by first | rfl | (go_simp; done)) (by first | (go_simp; done) | (go_simp; rfl)) ?_
            have hb := below_alloc (Below.refl _ W2) (.cells ZR 34)
            have HN3 := Lib.hid (World.alloc_heap_new W2 (.cells ZR 34))
            have HBB := Lib.hid HZ2.out
            have HQ3 := Lib.hid (HQ2.out.below hb)
            have HZ3 := Lib.hid (Nat.le_trans HZ2.out hb.size)
            have HD3 := Lib.hid (HD2.out.below hb)
            have HH3 := Lib.hid (HH2.out.below hb)
            generalize W2.alloc (.cells ZR 34) = W3 at *
            clear hb
            refine ⟨HCE.out _ HQ3.out, ?_⟩
            have HMD := Lib.hid (madeR_store (xs := xs) (D := D) (H := H) (z := ZR) rfl (b := W2.heap.size) HBB.out HN3.out HD3.out HH3.out (fun g e => by have := (HF.out.1 g e).2; omega) (fun g e => by have := (HF.out.2 g e).2; omega) HQ3.out)
            rw [HX0.out, HX1.out] at HMD
            refine anyH_store (i := 14) (by decide +kernel) rfl (by first | rfl | (go_simp; done)) (exec_store_allH 34 _ _ rfl (W2.heap.size) [.int .i64 x0, .int .i64 x1, .slice aD (nodes D).length cD, .slice aH (nodes H).length cH] (by go_simp) (by go_simp) HN3.out rfl (by kernel_rfl) rfl) (HCE.out _ HMD.out.q) ?_
            generalize W3.setCells (W2.heap.size) 0 [.int .i64 x0, .int .i64 x1, .slice aD (nodes D).length cD, .slice aH (nodes H).length cH] = W99 at *
            refine wpAnyH_done (by decide +kernel) ?_ _
            go_simp
            go_wp2_with fail
            go_meet
            exact ⟨_, _, _, _, _, rfl, HMD.out⟩
          case firstb =>
            have HF := Lib.hid (OwnI.lt HD1.out)
            refine opH_val (i := 13) (v := .pointer (some ⟨W1.heap.size, 0, none⟩)) (w' := W1.alloc (.cells ZR 34)) rfl (by first | rfl | (go_simp; done)) (by first | (go_simp; done) | (go_simp; rfl)) ?_
            have hb := below_alloc (Below.refl _ W1) (.cells ZR 34)
            have HN2 := Lib.hid (World.alloc_heap_new W1 (.cells ZR 34))
            have HBB := Lib.hid HZ1.out
            have HQ2 := Lib.hid (HQ1.out.below hb)
            have HZ2 := Lib.hid (Nat.le_trans HZ1.out hb.size)
            have HD2 := Lib.hid (HD1.out.below hb)
            generalize W1.alloc (.cells ZR 34) = W2 at *
            clear hb
            refine ⟨HCE.out _ HQ2.out, ?_⟩
            have HLT := Lib.hid (show W1.heap.size < W2.heap.size from (Array.getElem?_eq_some_iff.1 HN2.out).1)
            refine anyH_one (i := 11) (by decide +kernel) ?_
            refine opH_call (i := 11) rfl (by first | rfl | (go_simp; done)) (by go_simp) (KH.out W2) ?_
            rintro e W3 ⟨aH, cH, rfl, ho, hb⟩
            have HFH := Lib.hid (OwnI.lt ho)
            have HQ3 := Lib.hid (HQ2.out.below hb)
            have HZ3 := Lib.hid (Nat.le_trans HZ2.out hb.size)
            have HD3 := Lib.hid (HD2.out.below hb)
            have HH3 := Lib.hid (ho.mono (B' := w.heap.size + 3) HZ2.out)
            have HN3 := Lib.hid ((hb.block _ (Array.getElem?_eq_some_iff.1 HN2.out).1).trans HN2.out)
            clear ho hb HQ2 HZ2 HD2 HN2
            refine ⟨_, rfl, HCE.out _ HQ3.out, ?_⟩
            have hS := HCE.out _ HQ3.out
            (refine wpAnyH_take (i := 12) (v := .agg #[.int .i64 x0, .int .i64 x1, .slice aD (nodes D).length cD, .slice aH (nodes H).length cH]) rfl (by decide +kernel) (by decide +kernel) (by decide +kernel) (fun _ _ _ h => h) (.inl ⟨by first | rfl | (go_simp; done), fun X hX => by obtain ⟨hx0, hx1, hx2, hx3⟩ := hX; first | (go_simp; done) | (go_simp; rfl)⟩) hS ?_)
            clear hS
            have HMD := Lib.hid (madeR_store (xs := xs) (D := D) (H := H) (z := ZR) rfl (b := W1.heap.size) HBB.out HN3.out HD3.out HH3.out (fun g e => by have := (HF.out g e).2; omega) (fun g e => by have := (HFH.out g e).1; have := HLT.out; omega) HQ3.out)
            rw [HX0.out, HX1.out] at HMD
            refine anyH_store (i := 14) (by decide +kernel) rfl (by first | rfl | (go_simp; done)) (exec_store_allH 34 _ _ rfl (W1.heap.size) [.int .i64 x0, .int .i64 x1, .slice aD (nodes D).length cD, .slice aH (nodes H).length cH] (by go_simp) (by go_simp) HN3.out rfl (by kernel_rfl) rfl) (HCE.out _ HMD.out.q) ?_
            generalize W3.setCells (W1.heap.size) 0 [.int .i64 x0, .int .i64 x1, .slice aD (nodes D).length cD, .slice aH (nodes H).length cH] = W99 at *
            refine wpAnyH_done (by decide +kernel) ?_ _
            go_simp
            go_wp2_with fail
            go_meet
            exact ⟨_, _, _, _, _, rfl, HMD.out⟩
        case first13 =>
          refine opH_val (i := 13) (v := .pointer (some ⟨W0.heap.size, 0, none⟩)) (w' := W0.alloc (.cells ZR 34)) rfl (by first | rfl | (go_simp; done)) (by first | (go_simp; done) | (go_simp; rfl)) ?_
          have hb := below_alloc (Below.refl _ W0) (.cells ZR 34)
          have HN1 := Lib.hid (World.alloc_heap_new W0 (.cells ZR 34))
          have HBB := Lib.hid HZ0.out
          have HQ1 := Lib.hid (HQ0.out.below hb)
          have HZ1 := Lib.hid (Nat.le_trans HZ0.out hb.size)
          generalize W0.alloc (.cells ZR 34) = W1 at *
          clear hb
          refine ⟨HCE.out _ HQ1.out, ?_⟩
          have HLT := Lib.hid (show W0.heap.size < W1.heap.size from (Array.getElem?_eq_some_iff.1 HN1.out).1)
          refine anyH_one (i := 7) (by decide +kernel) ?_
          refine opH_call (i := 7) rfl (by first | rfl | (go_simp; done)) (by go_simp) (KD.out W1) ?_
          rintro e W2 ⟨aD, cD, rfl, ho, hb⟩
          have HFD := Lib.hid (OwnI.lt ho)
          have HSZ := Lib.hid hb.size
          have HQ2 := Lib.hid (HQ1.out.below hb)
          have HZ2 := Lib.hid (Nat.le_trans HZ1.out hb.size)
          have HD2 := Lib.hid (ho.mono (B' := w.heap.size + 3) HZ1.out)
          have HN2 := Lib.hid ((hb.block _ (Array.getElem?_eq_some_iff.1 HN1.out).1).trans HN1.out)
          clear ho hb HQ1 HZ1 HN1
          refine ⟨_, rfl, HCE.out _ HQ2.out, ?_⟩
          refine anyH_one (i := 11) (by decide +kernel) ?_
          refine opH_call (i := 11) rfl (by first | rfl | (go_simp; done)) (by go_simp) (KH.out W2) ?_
          rintro e W3 ⟨aH, cH, rfl, ho, hb⟩
          have HFH := Lib.hid (OwnI.lt ho)
          have HQ3 := Lib.hid (HQ2.out.below hb)
          have HZ3 := Lib.hid (Nat.le_trans HZ2.out hb.size)
          have HD3 := Lib.hid (HD2.out.below hb)
          have HH3 := Lib.hid (ho.mono (B' := w.heap.size + 3) HZ2.out)
          have HN3 := Lib.hid ((hb.block _ (Array.getElem?_eq_some_iff.1 HN2.out).1).trans HN2.out)
          clear ho hb HQ2 HZ2 HD2 HN2
          refine ⟨_, rfl, HCE.out _ HQ3.out, ?_⟩
          have hS := HCE.out _ HQ3.out
          (refine wpAnyH_take (i := 12) (v := .agg #[.int .i64 x0, .int .i64 x1, .slice aD (nodes D).length cD, .slice aH (nodes H).length cH]) rfl (by decide +kernel) (by decide +kernel) (by decide +kernel) (fun _ _ _ h => h) (.inl ⟨by first | rfl | (go_simp; done), fun X hX => by obtain ⟨hx0, hx1, hx2, hx3⟩ := hX; first | (go_simp; done) | (go_simp; rfl)⟩) hS ?_)
          clear hS
          have HMD := Lib.hid (madeR_store (xs := xs) (D := D) (H := H) (z := ZR) rfl (b := W0.heap.size) HBB.out HN3.out HD3.out HH3.out (fun g e => by have := (HFD.out g e).1; have := HLT.out; omega) (fun g e => by have := (HFH.out g e).1; have := HLT.out; have := HSZ.out; omega) HQ3.out)
          rw [HX0.out, HX1.out] at HMD
          refine anyH_store (i := 14) (by decide +kernel) rfl (by first | rfl | (go_simp; done)) (exec_store_allH 34 _ _ rfl (W0.heap.size) [.int .i64 x0, .int .i64 x1, .slice aD (nodes D).length cD, .slice aH (nodes H).length cH] (by go_simp) (by go_simp) HN3.out rfl (by kernel_rfl) rfl) (HCE.out _ HMD.out.q) ?_
          generalize W3.setCells (W0.heap.size) 0 [.int .i64 x0, .int .i64 x1, .slice aD (nodes D).length cD, .slice aH (nodes H).length cH] = W99 at *
          refine wpAnyH_done (by decide +kernel) ?_ _
          go_simp
          go_wp2_with fail
          go_meet
          exact ⟨_, _, _, _, _, rfl, HMD.out⟩
      case rest =>
      obtain ⟨b, aD, aH, cD, cH, rfl, hmd⟩ := hcut
      rename_i wc
      have HMD := Lib.hid hmd
      clear hmd HRD HCE KD KH
      have hblk := HMD.out.blk
      rw [HX0.out, HX1.out] at hblk
      have HBK := Lib.hid hblk
      have c1 := cell_of_block (o := 1) HMD.out.q.cur rfl
      have KRT := Lib.hid (rright_any x0 x1 D H wc HMD.out.rd.ints HMD.out.rh.ints)
      have HOK := Lib.hid (show okR xs = (decide ((csK xs 4).bad = 0) && rightR x0 x1 D H) from by unfold okR; rw [← HEQ.out.1, ← HEQ.out.2.1, ← HEQ.out.2.2.1, ← HEQ.out.2.2.2])
      have b0 := cell_of_block (o := 0) hblk rfl
      have b1 := cell_of_block (o := 1) hblk rfl
      have b2 := cell_of_block (o := 2) hblk rfl
      have b3 := cell_of_block (o := 3) hblk rfl
      obtain ⟨rl, hrl⟩ : ∃ x, x = (csK xs 4).xs.length := ⟨_, rfl⟩
      have HRL := Lib.hid hrl
      have HRZ := Lib.hid (show (strOfNums (csK xs 4).xs).size = rl by rw [hrl]; exact size_str _)
      have HRS := Lib.hid (show rl ≤ xs.length by rw [hrl]; exact (HSF.out 4).length_le)
      obtain ⟨sy, hsy⟩ : ∃ x, x = strOfNums (csK xs 4).xs := ⟨_, rfl⟩
      rw [← hsy] at HRZ
      have c0 := cell_of_block (o := 0) HMD.out.q.cur rfl
      rw [← hsy] at c0
      obtain ⟨bd, hbd⟩ : ∃ b, b = (csK xs 4).bad := ⟨_, rfl⟩
      have HBD := Lib.hid hbd
      rw [← hbd] at c1
      obtain ⟨rt, hrt⟩ : ∃ b, b = rightR x0 x1 D H := ⟨_, rfl⟩
      have HRT := Lib.hid hrt
      rw [← hrt] at KRT
      have HNO := Lib.hid (fun (h : okR xs = false) => okR_fields h)
      have HYES := Lib.hid (fun (h : okR xs = true) => okR_fields h)
      have HSY := Lib.hid hsy
      generalize hnD : (nodes D).length = nD at *
      generalize hnH : (nodes H).length = nH at *
      have HND := Lib.hid hnD
      have HNH := Lib.hid hnH
      clear hbd hrt hrl hsy hblk hnD hnH
      by_cases h0 : bd = 0
      case neg =>
        have hne : (bd == 0) = false := by simpa using h0
        have hne2 : (bd != 0) = true := by simp [h0]
        have E := Lib.hid (HNO.out (by rw [HOK.out, decide_eq_false (by rw [← HBD.out]; exact h0)]; rfl))
        have nR := HMD.out.q.res
        have r0 := cell_of_block (o := 0) nR rfl
        have r1 := cell_of_block (o := 1) nR rfl
        have r2 := cell_of_block (o := 2) nR rfl
        have r3 := cell_of_block (o := 3) nR rfl
        have f0 := free_of_block 0 nR
        have f1 := free_of_block 1 nR
        have f2 := free_of_block 2 nR
        have f3 := free_of_block 3 nR
        have hw := ((((wrote_refl nR).set 0 (.int .i64 0)).set 1 (.int .i64 0)).set 2 (.slice none 0 0)).set 3 (.slice none 0 0)
        have e0 := cell_of_block (o := 0) hw.there rfl
        have e1 := cell_of_block (o := 1) hw.there rfl
        have e2 := cell_of_block (o := 2) hw.there rfl
        have e3 := cell_of_block (o := 3) hw.there rfl
        have HW := Lib.hid hw
        clear hw nR h0 b0 b1 b2 b3 c0 KRT
        go_wp2_with fail
        generalize (((wc.setCell ⟨w.heap.size, 0, none⟩ (.int .i64 0)).setCell ⟨w.heap.size, 1, none⟩ (.int .i64 0)).setCell ⟨w.heap.size, 2, none⟩ (.slice none 0 0)).setCell ⟨w.heap.size, 3, none⟩ (.slice none 0 0) = W2 at *
        clear r0 r1 r2 r3 f0 f1 f2 f3
        refine bodyPost_ret (v := .tuple #[.agg ZR, .int .i64 0, .int .i64 11]) (by simp [results, Tryd.results10, go_sem]; try go_simp) rfl ⟨.slice none 0 0, .slice none 0 0, ?_, ?_, ?_, HW.out.below HMD.out.q.bel (Nat.le_refl _)⟩
        · rw [E.out.1, E.out.2.1, E.out.2.2.2.2.1, E.out.2.2.2.2.2]; rfl
        · rw [E.out.2.2.1]; exact ReadsI.none'
        · rw [E.out.2.2.2.1]; exact ReadsI.none'
      case pos =>
      subst h0
      go_wp2_with fail
      refine KRT.out.mono ?_
      rintro e w5 ⟨rfl, hb5⟩
      have HQ5 := Lib.hid (HMD.out.q.below hb5)
      have HB5 := Lib.hid ((hb5.block _ (Array.getElem?_eq_some_iff.1 HBK.out).1).trans HBK.out)
      have HD5 := Lib.hid (HMD.out.rd.below hb5)
      have HH5 := Lib.hid (HMD.out.rh.below hb5)
      have HBIG := Lib.hid HMD.out.big
      clear hb5 HMD HBK b0 b1 b2 b3 c0 c1 KRT
      cases rt with
      | false =>
        have E := Lib.hid (HNO.out (by rw [HOK.out, ← HRT.out]; simp))
        have nR := HQ5.out.res
        have r0 := cell_of_block (o := 0) nR rfl
        have r1 := cell_of_block (o := 1) nR rfl
        have r2 := cell_of_block (o := 2) nR rfl
        have r3 := cell_of_block (o := 3) nR rfl
        have f0 := free_of_block 0 nR
        have f1 := free_of_block 1 nR
        have f2 := free_of_block 2 nR
        have f3 := free_of_block 3 nR
        have hw := ((((wrote_refl nR).set 0 (.int .i64 0)).set 1 (.int .i64 0)).set 2 (.slice none 0 0)).set 3 (.slice none 0 0)
        have e0 := cell_of_block (o := 0) hw.there rfl
        have e1 := cell_of_block (o := 1) hw.there rfl
        have e2 := cell_of_block (o := 2) hw.there rfl
        have e3 := cell_of_block (o := 3) hw.there rfl
        have HW := Lib.hid hw
        clear hw nR
        go_wp2_with fail
        generalize (((w5.setCell ⟨w.heap.size, 0, none⟩ (.int .i64 0)).setCell ⟨w.heap.size, 1, none⟩ (.int .i64 0)).setCell ⟨w.heap.size, 2, none⟩ (.slice none 0 0)).setCell ⟨w.heap.size, 3, none⟩ (.slice none 0 0) = W2 at *
        clear r0 r1 r2 r3 f0 f1 f2 f3
        refine bodyPost_ret (v := .tuple #[.agg ZR, .int .i64 0, .int .i64 11]) (by simp [results, Tryd.results10, go_sem]; try go_simp) rfl ⟨.slice none 0 0, .slice none 0 0, ?_, ?_, ?_, HW.out.below HQ5.out.bel (Nat.le_refl _)⟩
        · rw [E.out.1, E.out.2.1, E.out.2.2.2.2.1, E.out.2.2.2.2.2]; rfl
        · rw [E.out.2.2.1]; exact ReadsI.none'
        · rw [E.out.2.2.2.1]; exact ReadsI.none'
      | true =>
        have E := Lib.hid (HYES.out (by rw [HOK.out, ← HRT.out, ← HBD.out]; rfl))
        have hsub : IntKind.i64.wrap ((ss.size : Int) - (sy.size : Int)) = (ss.size : Int) - (sy.size : Int) := by have := HL.out; have := HSB.out; have := HRZ.out; have := HRS.out; rw [IntKind.wrap_i64]; omega
        go_upto_region 10 with fail
        refine wp_region_held (S := fun X => X.cell? ⟨b, 0, none⟩ = some (.int .i64 x0) ∧ X.cell? ⟨b, 1, none⟩ = some (.int .i64 x1) ∧ X.cell? ⟨b, 2, none⟩ = some (.slice aD nD cD) ∧ X.cell? ⟨b, 3, none⟩ = some (.slice aH nH cH) ∧ X.cell? ⟨w.heap.size + 1, 0, none⟩ = some (.string sy)) hmx ?_
        have HQ6 := Lib.hid (HQ5.out.below (show Below w5.heap.size w5 w5.drew from (Below.refl _ _).drew))
        have HB6 := Lib.hid (show w5.drew.heap[b]? = _ from HB5.out)
        have HD6 := Lib.hid (HD5.out.below (show Below w5.heap.size w5 w5.drew from (Below.refl _ _).drew))
        have HH6 := Lib.hid (HH5.out.below (show Below w5.heap.size w5 w5.drew from (Below.refl _ _).drew))
        clear HQ5 HB5 HD5 HH5
        change wpAnyH _ _ _ _ _ 10 _ _ w5.drew
        generalize w5.drew = w6 at *
        have hS : w6.cell? ⟨b, 0, none⟩ = some (.int .i64 x0) ∧ w6.cell? ⟨b, 1, none⟩ = some (.int .i64 x1) ∧ w6.cell? ⟨b, 2, none⟩ = some (.slice aD nD cD) ∧ w6.cell? ⟨b, 3, none⟩ = some (.slice aH nH cH) ∧ w6.cell? ⟨w.heap.size + 1, 0, none⟩ = some (.string sy) :=
          ⟨cell_of_block (o := 0) HB6.out rfl, cell_of_block (o := 1) HB6.out rfl, cell_of_block (o := 2) HB6.out rfl, cell_of_block (o := 3) HB6.out rfl, cell_of_block (o := 0) HQ6.out.cur (by rw [HSY.out]; rfl)⟩
        (refine wpAnyH_take (i := 0) (v := .agg #[.int .i64 x0, .int .i64 x1, .slice aD nD cD, .slice aH nH cH]) rfl (by decide +kernel) (by decide +kernel) (by decide +kernel) (fun _ _ _ h => h) (.inl ⟨by first | rfl | (go_simp; done), fun X hX => by obtain ⟨hx0, hx1, hx2, hx3, hx4⟩ := hX; first | (go_simp; done) | (go_simp; rfl)⟩) hS ?_)
        (refine wpAnyH_take (i := 1) (v := .string ss) rfl (by decide +kernel) (by decide +kernel) (by decide +kernel) (fun _ _ _ h => h) (.inl ⟨by first | rfl | (go_simp; done), fun X hX => by obtain ⟨hx0, hx1, hx2, hx3, hx4⟩ := hX; first | (go_simp; done) | (go_simp; rfl)⟩) hS ?_)
        (refine wpAnyH_take (i := 2) (v := .int .i64 ss.size) rfl (by decide +kernel) (by decide +kernel) (by decide +kernel) (fun _ _ _ h => h) (.inl ⟨by first | rfl | (go_simp; done), fun X hX => by obtain ⟨hx0, hx1, hx2, hx3, hx4⟩ := hX; first | (go_simp; done) | (go_simp; rfl)⟩) hS ?_)
        (refine wpAnyH_take (i := 3) (v := .pointer (some ⟨w.heap.size + 1, 0, none⟩)) rfl (by decide +kernel) (by decide +kernel) (by decide +kernel) (fun _ _ _ h => h) (.inl ⟨by first | rfl | (go_simp; done), fun X hX => by obtain ⟨hx0, hx1, hx2, hx3, hx4⟩ := hX; first | (go_simp; done) | (go_simp; rfl)⟩) hS ?_)
        (refine wpAnyH_take (i := 4) (v := .string sy) rfl (by decide +kernel) (by decide +kernel) (by decide +kernel) (fun _ _ _ h => h) (.inl ⟨by first | rfl | (go_simp; done), fun X hX => by obtain ⟨hx0, hx1, hx2, hx3, hx4⟩ := hX; first | (go_simp; done) | (go_simp; rfl)⟩) hS ?_)
        (refine wpAnyH_take (i := 5) (v := .int .i64 sy.size) rfl (by decide +kernel) (by decide +kernel) (by decide +kernel) (fun _ _ _ h => h) (.inl ⟨by first | rfl | (go_simp; done), fun X hX => by obtain ⟨hx0, hx1, hx2, hx3, hx4⟩ := hX; first | (go_simp; done) | (go_simp; rfl)⟩) hS ?_)
        (refine wpAnyH_take (i := 6) (v := .int .i64 ((ss.size : Int) - (sy.size : Int))) rfl (by decide +kernel) (by decide +kernel) (by decide +kernel) (fun _ _ _ h => h) (.inl ⟨by first | rfl | (go_simp; done), fun X hX => by obtain ⟨hx0, hx1, hx2, hx3, hx4⟩ := hX; first | (go_simp; done) | (go_simp; rfl)⟩) hS ?_)
        have hw9 := wrote_all HQ6.out.res (l := [.int .i64 x0, .int .i64 x1, .slice aD nD cD, .slice aH nH cH]) rfl
        have HBIG' := HBIG.out
        have hB9 := (hw9.rest b (by omega)).trans HB6.out
        have hC9 := (hw9.rest (w.heap.size + 1) (by omega)).trans HQ6.out.cur
        have hS9 : (w6.setCells w.heap.size 0 [.int .i64 x0, .int .i64 x1, .slice aD nD cD, .slice aH nH cH]).cell? ⟨b, 0, none⟩ = some (.int .i64 x0) ∧ (w6.setCells w.heap.size 0 [.int .i64 x0, .int .i64 x1, .slice aD nD cD, .slice aH nH cH]).cell? ⟨b, 1, none⟩ = some (.int .i64 x1) ∧ (w6.setCells w.heap.size 0 [.int .i64 x0, .int .i64 x1, .slice aD nD cD, .slice aH nH cH]).cell? ⟨b, 2, none⟩ = some (.slice aD nD cD) ∧ (w6.setCells w.heap.size 0 [.int .i64 x0, .int .i64 x1, .slice aD nD cD, .slice aH nH cH]).cell? ⟨b, 3, none⟩ = some (.slice aH nH cH) ∧ (w6.setCells w.heap.size 0 [.int .i64 x0, .int .i64 x1, .slice aD nD cD, .slice aH nH cH]).cell? ⟨w.heap.size + 1, 0, none⟩ = some (.string sy) :=
          ⟨cell_of_block (o := 0) hB9 rfl, cell_of_block (o := 1) hB9 rfl, cell_of_block (o := 2) hB9 rfl, cell_of_block (o := 3) hB9 rfl, cell_of_block (o := 0) hC9 (by rw [HSY.out]; rfl)⟩
        refine anyH_store (i := 7) (by decide +kernel) rfl (by first | rfl | (go_simp; done)) (exec_store_allH 34 _ _ rfl w.heap.size [.int .i64 x0, .int .i64 x1, .slice aD nD cD, .slice aH nH cH] (by go_simp) (by go_simp) HQ6.out.res rfl (by kernel_rfl) rfl) hS9 ?_
        have HW := Lib.hid hw9
        clear hS hw9 hB9 hC9 HBIG'
        generalize w6.setCells w.heap.size 0 [.int .i64 x0, .int .i64 x1, .slice aD nD cD, .slice aH nH cH] = W9 at *
        (refine wpAnyH_take (i := 8) (v := .int .i64 ((ss.size : Int) - (sy.size : Int))) rfl (by decide +kernel) (by decide +kernel) (by decide +kernel) (fun _ _ _ h => h) (.inl ⟨by first | rfl | (go_simp; done), fun X hX => by obtain ⟨hx0, hx1, hx2, hx3, hx4⟩ := hX; first | (go_simp; done) | (go_simp; rfl)⟩) hS9 ?_)
        (refine wpAnyH_take (i := 9) (v := .int .i64 0) rfl (by decide +kernel) (by decide +kernel) (by decide +kernel) (fun _ _ _ h => h) (.inl ⟨by first | rfl | (go_simp; done), fun X hX => by obtain ⟨hx0, hx1, hx2, hx3, hx4⟩ := hX; first | (go_simp; done) | (go_simp; rfl)⟩) hS9 ?_)
        clear hS9
        refine wpAnyH_done (by decide +kernel) ?_ _
        go_simp
        go_wp2_with fail
        refine bodyPost_ret (results_allH3 [.int .i64 x0, .int .i64 x1, .slice aD nD cD, .slice aH nH cH] _ Tryd.results10 (by go_simp) HW.out.there Tryd.underlying34 rfl (by kernel_rfl)) rfl ⟨.slice aD nD cD, .slice aH nH cH, ?_, ?_, ?_, HW.out.below HQ6.out.bel (Nat.le_refl _)⟩
        · rw [E.out.1, E.out.2.1, E.out.2.2.2.2.1, E.out.2.2.2.2.2]
          simp only [if_true]
          rw [HX0.out, HX1.out, ← HRL.out, ← HRZ.out, ← HSB.out]
          first | rfl | (go_simp; done)
        · rw [E.out.2.2.1]
          simp only [if_true]
          rw [← HEQ.out.2.2.1, ← HND.out]
          exact (HD6.out.wrote HW.out (by omega)).ints
        · rw [E.out.2.2.2.1]
          simp only [if_true]
          rw [← HEQ.out.2.2.2, ← HNH.out]
          exact (HH6.out.wrote HW.out (by omega)).ints
end Go.Proofs.YtdpfbpmdpdfpdaaDoor
namespace Go.Proofs.YtdpfbpmdpdfpdaaDoor
set_option linter.unusedVariables false
open Go.ChangeShapes Go.WideShapes Go.ChangeAt Go.RowKit
attribute [local go_sem ↓] Go.wp_at_zero Go.wp_at_succ comesTo_value_eq comesTo_skip_eq comesTo_enter_eq Rl.comesToR_value_eq Rl.comesToR_skip_eq Rl.comesToR_enter_eq

theorem rread_g (w : World) (xs : List Int) (e : Ending) (w' : World) (h : RReadEnd w xs e w') : e = .returned (.tuple #[.agg #[.int .i64 (gW xs), .int .i64 (gF xs), .int .u64 (nv (gD xs)), .int .u64 (nv (gH xs))], .int .i64 (gN xs), .int .i64 (gC xs)]) ∧ Below w.heap.size w w' := by
  obtain ⟨h1, h2⟩ := h
  refine ⟨h1.trans ?_, h2⟩
  unfold gW gF gD gH gN gC
  cases okR xs <;> simp [nv_zero]
set_option maxRecDepth 100000 in
set_option maxHeartbeats 8000000 in
theorem rollreads_yes (W F : Int) (D H : NSet) (hW : -9223372036854775808 ≤ W ∧ W ≤ 9223372036854775807) (hF : -9223372036854775808 ≤ F ∧ F ≤ 9223372036854775807) (ad : Option Addr) (n c : Nat) (bs : List Int) (hn : n ≤ 500) (w : World) (ht : TxtAt w (.slice ad n c) bs) (hE : ErrAt w) (hT : TabZ w) :
    Calls Tryd.prog 3 #[.agg #[.int .i64 W, .int .i64 F, .int .u64 (nv D), .int .u64 (nv H)], .slice ad n c] w fun e w' => e = .returned (.bool true) ∧ Below w.heap.size w w' := by
  have hmx : Tryd.prog.follows .mixedOrders = true := by kernel_rfl
  have hd0 : decide ((n : Int) > 500) = false := decide_eq_false (by omega)
  have hd1 : decide (500 < (n : Int)) = false := decide_eq_false (by omega)
  have hnb : n = bs.length := ht.form.1
  have hbb : ∀ x ∈ bs, 0 ≤ x ∧ x ≤ 255 := by
    intro x hx
    obtain ⟨i, hi, rfl⟩ := List.getElem_of_mem hx
    have h1 := ht.bytes.1 i hi
    have h2 := ht.bytes.2 i hi
    simp only [List.getD, List.getElem?_eq_getElem hi, Option.getD_some] at h1 h2
    omega
  have HCV := Lib.hid (fun W (hb : Below w.heap.size w W) => txt_conv ht W hb)
  have KP := Lib.hid (fun (X : World) (hb : Below w.heap.size w X) => rollput_any (ht.below hb) (by omega) (nv D) (nv H) hW hF)
  have KJ := Lib.hid (fun (X : World) (hb : Below w.heap.size w X) => (rollread_any (ht.below hb) (by omega) (hE.below hb)).mono (fun e w' h => rread_g _ _ e w' h))
  have KR := Lib.hid (fun (X : World) => rrollread_any bs hbb (by omega) X)
  have KO := Lib.hid (fun (X : World) => own21_any W F D H X)
  have KQ := Lib.hid (fun (X : World) (aD aH : Option Addr) (cD cH : Nat) (h1 : ReadsI X (.slice aD (nodes D).length cD) (nodes D)) (h2 : ReadsI X (.slice aH (nodes H).length cH) (nodes H)) =>
    rrollput_any bs (by omega) D H hW hF X (fun U hU => rset_nodes D U (h1.below hU)) (fun U hU => rset_nodes H U (h2.below hU)) (fun v hv => by rcases hv with rfl | rfl <;> exact ⟨_, _, _, rfl⟩))
  have K1 := Lib.hid (fun (X : World) (hb : Below w.heap.size w X) => roll_one X (hT.below hb))
  have KL := Lib.hid (fun (X : World) (aD aH : Option Addr) (cD cH : Nat) h1 h2 => like21_same (gW bs) (gF bs) (gD bs) (gH bs) aD aH cD cH X h1 h2)
  clear ht hE hn hnb hbb hT hW hF
  generalize hS : strOfNums bs = S at *
  clear hS
  generalize hS1 : bs ++ putsN (numsR W F (nv D) (nv H)) = ys at *
  clear hS1
  unfold RDoc at KR
  generalize gW bs = W2 at *
  generalize gF bs = F2 at *
  generalize gD bs = D2 at *
  generalize gH bs = H2 at *
  generalize gN bs = n2 at *
  generalize gC bs = c2 at *
  have hA := below_alloc (Below.refl _ w) (.cells #[.int .i64 W, .int .i64 F, .int .u64 (nv D), .int .u64 (nv H)] 26)
  have HA := Lib.hid hA
  have N0 := Lib.hid (World.alloc_heap_new w (.cells #[.int .i64 W, .int .i64 F, .int .u64 (nv D), .int .u64 (nv H)] 26))
  clear hA
  go_enter Tryd.func3, Tryd.ntmps3
  go_upto_region 1 with fail
  generalize w.alloc (.cells #[.int .i64 W, .int .i64 F, .int .u64 (nv D), .int .u64 (nv H)] 26) = U at *
  go_wp2_with fail
  refine (KJ.out U HA.out).mono ?_
  rintro e W1 ⟨rfl, hb1⟩
  have N1 := Lib.hid ((hb1.block _ (Array.getElem?_eq_some_iff.1 N0.out).1).trans N0.out)
  have HB1 := Lib.hid (below_next HA.out hb1)
  clear hb1 HA N0
  have hA2 := below_alloc (Below.refl _ W1) (.cells #[.int .i64 W2, .int .i64 F2, .int .u64 (nv D2), .int .u64 (nv H2)] 26)
  have HA2 := Lib.hid (below_next HB1.out hA2)
  have N1b := Lib.hid ((hA2.block _ (Array.getElem?_eq_some_iff.1 N1.out).1).trans N1.out)
  have N2 := Lib.hid (World.alloc_heap_new W1 (.cells #[.int .i64 W2, .int .i64 F2, .int .u64 (nv D2), .int .u64 (nv H2)] 26))
  clear hA2 HB1 N1
  go_upto_region 4 with fail
  generalize W1.alloc (.cells #[.int .i64 W2, .int .i64 F2, .int .u64 (nv D2), .int .u64 (nv H2)] 26) = U2 at *
  have hcv := HCV.out U2 HA2.out
  generalize W1.heap.size = q1 at *
  go_wp2_with fail
  refine (KR.out U2).mono ?_
  rintro e W3 ⟨vD, vH, rfl, hrD, hrH, hb3⟩
  obtain ⟨aD, cD, rfl⟩ := hrD.form
  obtain ⟨aH, cH, rfl⟩ := hrH.form
  clear hcv
  have hA3 := below_alloc (Below.refl _ W3) (.cells #[.int .i64 W2, .int .i64 F2, .slice aD (nodes D2).length cD, .slice aH (nodes H2).length cH] 34)
  have N1c := Lib.hid ((below_next hb3 (hA3.mono (Nat.le_refl _))).block _ (Array.getElem?_eq_some_iff.1 N1b.out).1 |>.trans N1b.out)
  have N2c := Lib.hid ((below_next hb3 (hA3.mono (Nat.le_refl _))).block _ (Array.getElem?_eq_some_iff.1 N2.out).1 |>.trans N2.out)
  have N3 := Lib.hid (World.alloc_heap_new W3 (.cells #[.int .i64 W2, .int .i64 F2, .slice aD (nodes D2).length cD, .slice aH (nodes H2).length cH] 34))
  have HRD := Lib.hid (hrD.below hA3)
  have HRH := Lib.hid (hrH.below hA3)
  have HB3 := Lib.hid (below_next (below_next HA2.out hb3) hA3)
  clear hb3 hA3 HA2 N1b N2 hrD hrH
  generalize hnd : (nodes D2).length = nd at *
  generalize hnh : (nodes H2).length = nh at *
  clear hnd hnh
  go_upto_region 5 with fail
  generalize W3.alloc (.cells #[.int .i64 W2, .int .i64 F2, .slice aD nd cD, .slice aH nh cH] 34) = U4 at *
  generalize W3.heap.size = q3 at *
  have E0 := Lib.hid (fun X (hX : Below U4.heap.size U4 X) => (hX.block _ (Array.getElem?_eq_some_iff.1 N1c.out).1).trans N1c.out)
  have E1 := Lib.hid (fun X (hX : Below U4.heap.size U4 X) => (hX.block _ (Array.getElem?_eq_some_iff.1 N2c.out).1).trans N2c.out)
  have E2 := Lib.hid (fun X (hX : Below U4.heap.size U4 X) => (hX.block _ (Array.getElem?_eq_some_iff.1 N3.out).1).trans N3.out)
  have a0 := Lib.hid (fun X hX => cell_of_block (o := 0) (E0.out X hX) rfl)
  have a1 := Lib.hid (fun X hX => cell_of_block (o := 1) (E0.out X hX) rfl)
  have a2 := Lib.hid (fun X hX => cell_of_block (o := 2) (E0.out X hX) rfl)
  have a3 := Lib.hid (fun X hX => cell_of_block (o := 3) (E0.out X hX) rfl)
  have b0 := Lib.hid (fun X hX => cell_of_block (o := 0) (E1.out X hX) rfl)
  have b1 := Lib.hid (fun X hX => cell_of_block (o := 1) (E1.out X hX) rfl)
  have b2 := Lib.hid (fun X hX => cell_of_block (o := 2) (E1.out X hX) rfl)
  have b3 := Lib.hid (fun X hX => cell_of_block (o := 3) (E1.out X hX) rfl)
  have d0 := Lib.hid (fun X hX => cell_of_block (o := 0) (E2.out X hX) rfl)
  have d1 := Lib.hid (fun X hX => cell_of_block (o := 1) (E2.out X hX) rfl)
  have d2 := Lib.hid (fun X hX => cell_of_block (o := 2) (E2.out X hX) rfl)
  have d3 := Lib.hid (fun X hX => cell_of_block (o := 3) (E2.out X hX) rfl)
  clear E0 E1 E2 N1c N2c N3
  refine Rl.wp_region_rel (fun a b => Below a.heap.size a b) U4 (fun a b c h h' => below_next h h') (fun a => Below.refl _ _) hmx (by kernel_rfl) (Below.refl _ _).drew ?_
  (refine Rl.textR_run ?_ (fun ρ => ?_) (fun ρ W hS hd => ?_) ?_; rotate_left; (focus go_simp); (focus (obtain ⟨hc, hf⟩ := bcell hS; go_simp; first | exact ⟨rfl, Below.refl _ _⟩ | (refine ⟨?_, Below.refl _ _⟩; rfl))); (try go_simp))
  (refine Rl.textR_run ?_ (fun ρ => ?_) (fun ρ W hS hd => ?_) ?_; rotate_left; (focus go_simp); (focus (have hfact0 := a0.out W hS; have hfact1 := a1.out W hS; have hfact2 := a2.out W hS; have hfact3 := a3.out W hS; go_simp; first | exact ⟨rfl, Below.refl _ _⟩ | (refine ⟨?_, Below.refl _ _⟩; rfl))); (try go_simp))
  refine Rl.textR_rel 29 (fun v w => TxtAt w v ys) rfl (fun v w w' hg h => h.below hg) (fun ρ => ?_) (fun ρ W hS hd => ?_) ?_
  · go_simp
  · go_simp
    refine (KP.out W (below_next HB3.out hS)).mono ?_
    rintro e w1 ⟨u, rfl, ho, hb⟩
    exact ⟨u, rfl, ho.at, hb⟩
  (try go_simp)
  refine Rl.textR_run (.string (strOfNums ys)) (fun ρ => ?_) (fun ρ W hS hd => ?_) ?_
  · go_simp
  · have hcv := txt_conv (hd (29, fun v w => TxtAt w v ys) List.mem_cons_self (show (29 : Nat) ∈ _ by decide)) W (Below.refl _ _)
    simp only at hcv
    go_simp
    first | exact ⟨rfl, Below.refl _ _⟩ | exact Below.refl _ _
  (try go_simp)
  (refine Rl.textR_run ?_ (fun ρ => ?_) (fun ρ W hS hd => ?_) ?_; rotate_left; (focus go_simp); (focus (obtain ⟨hc, hf⟩ := bcell hS; go_simp; first | exact ⟨rfl, Below.refl _ _⟩ | (refine ⟨?_, Below.refl _ _⟩; rfl))); (try go_simp))
  (refine Rl.textR_run ?_ (fun ρ => ?_) (fun ρ W hS hd => ?_) ?_; rotate_left; (focus go_simp); (focus (have hfact := HCV.out W (below_next HB3.out hS); go_simp; first | exact ⟨rfl, Below.refl _ _⟩ | (refine ⟨?_, Below.refl _ _⟩; rfl))); (try go_simp))
  (refine Rl.textR_run ?_ (fun ρ => ?_) (fun ρ W hS hd => ?_) ?_; rotate_left; (focus go_simp); (focus (have hfact0 := a0.out W hS; have hfact1 := a1.out W hS; have hfact2 := a2.out W hS; have hfact3 := a3.out W hS; go_simp; first | exact ⟨rfl, Below.refl _ _⟩ | (refine ⟨?_, Below.refl _ _⟩; rfl))); (try go_simp))
  refine Rl.textR_rel 34 (fun v w' => ∃ aD cD aH cH, v = .agg #[.int .i64 W, .int .i64 F, .slice aD (nodes D).length cD, .slice aH (nodes H).length cH] ∧ ReadsI w' (.slice aD (nodes D).length cD) (nodes D) ∧ ReadsI w' (.slice aH (nodes H).length cH) (nodes H)) rfl (fun v w w' hg h => by obtain ⟨aD, cD, aH, cH, hv, h1, h2⟩ := h; exact ⟨aD, cD, aH, cH, hv, h1.below hg, h2.below hg⟩) (fun ρ => ?_) (fun ρ W' hS hd => ?_) ?_
  · go_simp
  · go_simp
    refine (KO.out W').mono ?_
    rintro e w1 ⟨aD, cD, aH, cH, rfl, h1, h2, hb⟩
    exact ⟨_, rfl, ⟨aD, cD, aH, cH, rfl, h1, h2⟩, hb⟩
  (try go_simp)
  refine Rl.textR_run (.string (strOfNums ys)) (fun ρ => ?_) (fun ρ W' hS hd => ?_) ?_
  · go_simp
  · obtain ⟨aD', cD', aH', cH', hv, h1, h2⟩ := hd (34, fun v w' => ∃ aD cD aH cH, v = .agg #[.int .i64 W, .int .i64 F, .slice aD (nodes D).length cD, .slice aH (nodes H).length cH] ∧ ReadsI w' (.slice aD (nodes D).length cD) (nodes D) ∧ ReadsI w' (.slice aH (nodes H).length cH) (nodes H)) List.mem_cons_self (show (34 : Nat) ∈ _ by decide)
    simp only at hv
    go_simp
    refine (KQ.out W' aD' aH' cD' cH' h1 h2).mono ?_
    rintro e w1 ⟨rfl, hb⟩
    exact ⟨_, rfl, rfl, hb⟩
  (try go_simp)
  iterate 12 (refine Rl.textR_run ?_ (fun ρ => ?_) (fun ρ W hS hd => ?_) ?_; rotate_left; (focus go_simp); (focus (obtain ⟨hc, hf⟩ := bcell hS; go_simp; first | exact ⟨rfl, Below.refl _ _⟩ | (refine ⟨?_, Below.refl _ _⟩; rfl))); (try go_simp))
  (refine Rl.textR_run ?_ (fun ρ => ?_) (fun ρ W hS hd => ?_) ?_; rotate_left; (focus go_simp); (focus (have hfact0 := b0.out W hS; have hfact1 := b1.out W hS; have hfact2 := b2.out W hS; have hfact3 := b3.out W hS; go_simp; first | exact ⟨rfl, Below.refl _ _⟩ | (refine ⟨?_, Below.refl _ _⟩; rfl))); (try go_simp))
  (refine Rl.textR_run ?_ (fun ρ => ?_) (fun ρ W hS hd => ?_) ?_; rotate_left; (focus go_simp); (focus (have hfact0 := d0.out W hS; have hfact1 := d1.out W hS; have hfact2 := d2.out W hS; have hfact3 := d3.out W hS; go_simp; first | exact ⟨rfl, Below.refl _ _⟩ | (refine ⟨?_, Below.refl _ _⟩; rfl))); (try go_simp))
  (refine Rl.textR_run ?_ (fun ρ => ?_) (fun ρ W hS hd => ?_) ?_; rotate_left; (focus go_simp); (focus (obtain ⟨hc, hf⟩ := bcell hS; go_simp; refine (KL.out W aD aH cD cH (HRD.out.below hS) (HRH.out.below hS)).mono ?_; rintro e w1 ⟨rfl, hb⟩; refine ⟨_, rfl, ?_, hb⟩; rfl)); (try go_simp))
  iterate 3 (refine Rl.textR_run ?_ (fun ρ => ?_) (fun ρ W hS hd => ?_) ?_; rotate_left; (focus go_simp); (focus (obtain ⟨hc, hf⟩ := bcell hS; go_simp; first | exact ⟨rfl, Below.refl _ _⟩ | (refine ⟨?_, Below.refl _ _⟩; rfl))); (try go_simp))
  (refine Rl.textR_run ?_ (fun ρ => ?_) (fun ρ W hS hd => ?_) ?_; rotate_left; (focus go_simp); (focus (obtain ⟨hc, hf⟩ := bcell hS; go_simp; refine (K1.out W (below_next HB3.out hS)).mono ?_; rintro e w1 ⟨rfl, hb⟩; refine ⟨_, rfl, ?_, hb⟩; rfl)); (try go_simp))
  iterate 2 (refine Rl.textR_run ?_ (fun ρ => ?_) (fun ρ W hS hd => ?_) ?_; rotate_left; (focus go_simp); (focus (obtain ⟨hc, hf⟩ := bcell hS; go_simp; first | exact ⟨rfl, Below.refl _ _⟩ | (refine ⟨?_, Below.refl _ _⟩; rfl))); (try go_simp))
  refine Rl.textR_nil ?_
  intro ρ wA hgA hkA
  dsimp only
  have HGA := Lib.hid (below_next HB3.out hgA)
  clear hgA hkA
  generalize ρ 29 = z1
  generalize ρ 34 = z2
  go_simp
  go_wp2_with fail
  go_ret
  exact ⟨rfl, HGA.out⟩
theorem rollreads_no (W F : Int) (D H : NSet) (ad : Option Addr) (n c : Nat) (hn : 500 < n) (w : World) :
    Calls Tryd.prog 3 #[.agg #[.int .i64 W, .int .i64 F, .int .u64 (nv D), .int .u64 (nv H)], .slice ad n c] w fun e w' => e = .returned (.bool true) ∧ Below w.heap.size w w' := by
  have hd0 : decide ((n : Int) > 500) = true := decide_eq_true (by omega)
  have hd1 : decide (500 < (n : Int)) = true := decide_eq_true (by omega)
  have hd2 : 500 < n := hn
  have HA := Lib.hid (below_alloc (Below.refl _ w) (.cells #[.int .i64 W, .int .i64 F, .int .u64 (nv D), .int .u64 (nv H)] 26))
  clear hn
  go_enter Tryd.func3, Tryd.ntmps3
  go_wp2_with fail
  go_ret
  exact ⟨rfl, HA.out⟩
theorem rollreads_any (W F : Int) (D H : NSet) (hW : -9223372036854775808 ≤ W ∧ W ≤ 9223372036854775807) (hF : -9223372036854775808 ≤ F ∧ F ≤ 9223372036854775807) (ad : Option Addr) (n c : Nat) (bs : List Int) (w : World) (ht : TxtAt w (.slice ad n c) bs) (h : ErrAt w ∧ TabZ w) :
    Calls Tryd.prog 3 #[.agg #[.int .i64 W, .int .i64 F, .int .u64 (nv D), .int .u64 (nv H)], .slice ad n c] w fun e w' => e = .returned (.bool true) ∧ Below w.heap.size w w' := by
  by_cases hn : 500 < n
  · exact rollreads_no W F D H ad n c hn w
  · exact rollreads_yes W F D H hW hF ad n c bs (by omega) w ht h.1 h.2
theorem rollreads_int (W F nd nh : Int) (hW : -9223372036854775808 ≤ W ∧ W ≤ 9223372036854775807) (hF : -9223372036854775808 ≤ F ∧ F ≤ 9223372036854775807) (hd : 0 ≤ nd ∧ nd ≤ 18446744073709551615) (hh : 0 ≤ nh ∧ nh ≤ 18446744073709551615) (ad : Option Addr) (n c : Nat) (bs : List Int) (w : World) (ht : TxtAt w (.slice ad n c) bs) (h : ErrAt w ∧ TabZ w) :
    Calls Tryd.prog 3 #[.agg #[.int .i64 W, .int .i64 F, .int .u64 nd, .int .u64 nh], .slice ad n c] w fun e w' => e = .returned (.bool true) ∧ Below w.heap.size w w' := by
  obtain ⟨D, rfl⟩ := nv_of nd hd.1 hd.2
  obtain ⟨H, rfl⟩ := nv_of nh hh.1 hh.2
  exact rollreads_any W F D H hW hF ad n c bs w ht h
end Go.Proofs.YtdpfbpmdpdfpdaaDoor
