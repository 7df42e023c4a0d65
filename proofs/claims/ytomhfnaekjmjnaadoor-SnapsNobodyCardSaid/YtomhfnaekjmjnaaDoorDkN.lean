/- A disk that is made; another one that is as it is. No condition. -/
import Derived.Test.YtomhfnaekjmjnaaDoorDkC
namespace Go.Proofs.YtomhfnaekjmjnaaDoor
set_option linter.unusedVariables false
open Go.ChangeShapes Go.WideShapes Go.ChangeAt Go.RowKit
attribute [local go_sem ↓] Go.wp_at_zero Go.wp_at_succ comesTo_value_eq comesTo_skip_eq comesTo_enter_eq

def newF : DS := { b := fun _ => [], s := fun _ => 0, left := -1, down := false }
def Made (w : World) (st : DS) (e : Ending) (w' : World) : Prop := ∃ D, e = .returned (.pointer (some ⟨D, 0, none⟩)) ∧ Dk w' D (fun j => w.heap.size ≤ j) st ∧ Below w.heap.size w w'
theorem new_any (w : World) : Calls Tryd.prog 19 #[] w fun e w' => Made w newF e w' := by
  go_enter Tryd.func19, Tryd.ntmps19
  go_wp2
  go_ret
  refine ⟨w.heap.size, rfl, ⟨Nat.le_refl _, fun k _ => by show (0 : Nat) ≤ _; decide, fun k _ => Nat.le_refl _, ⟨by decide, by decide⟩, fun _ => .slice none 0 0, 0, false, World.alloc_heap_new w _, ⟨fun k _ => OwnTxt.nil, (fun k g _ h => by cases h), (fun k j g _ _ _ h => by cases h)⟩, .inr ⟨rfl, rfl⟩⟩, below_alloc (Below.refl _ w) _⟩
/-- in the midst of a clone: k rows are copied -/
structure CloneAt (w : World) (v : Nat → Value) (st : DS) (lf : Int) (ar : Bool) (k : Nat) (u : Nat → Value) (wr : World) : Prop where
  blk : wr.heap[w.heap.size]? = some (.cells (dkCells u st.s lf ar st.down) 108 (0, 0))
  rest : ∀ j, k ≤ j → u j = v j
  own : ∀ j, j < k → OwnTxt wr 0 (u j) (st.b j)
  foot : ∀ j g, j < k → (u j).ownBlock = some g → w.heap.size < g
  apart : ∀ j i g, j < k → i < k → i ≠ j → (u j).ownBlock = some g → (u i).ownBlock ≠ some g
  below : Below w.heap.size w wr
def CloneMid (w : World) (v : Nat → Value) (st : DS) (lf : Int) (ar : Bool) (k : Nat) (wr : World) : Prop := ∃ u, CloneAt w v st lf ar k u wr
theorem CloneAt.next {w wr w0 w1 w2 : World} {v u : Nat → Value} {st : DS} {lf : Int} {ar : Bool} {k : Nat} {x : Value} (h : CloneAt w v st lf ar k u wr) (h0 : Below wr.heap.size wr w0) (hx : OwnTxt w1 w0.heap.size x (st.b k))
    (hg : Below w0.heap.size w0 w1) (cs : Array Value) (hcs : cs = dkCells (upd u k x) st.s lf ar st.down) (hw : WroteTo w.heap.size 108 cs w1 w2) : CloneAt w v st lf ar (k + 1) (upd u k x) w2 := by
  subst hcs
  have hO : w.heap.size < wr.heap.size := (Array.getElem?_eq_some_iff.1 h.blk).1
  have hb1 : Below wr.heap.size wr w1 := h0.trans (hg.mono h0.size)
  have hxg : ∀ g, x.ownBlock = some g → wr.heap.size ≤ g := fun g e => Nat.le_trans h0.size (hx.blockGe e)
  refine ⟨hw.there, fun j hj => by rw [upd_ne _ _ (by omega)]; exact h.rest j (by omega), fun j hj => ?_, fun j g hj e => ?_, fun j i g hj hi hne e e' => ?_, ?_⟩
  · by_cases hjk : j = k
    · subst hjk; rw [upd_at]
      exact (hx.base (Nat.zero_le _)).of_block fun g e => hw.rest g (by have := hxg g e; omega)
    · rw [upd_ne _ _ hjk]
      have hj' : j < k := by omega
      exact ((h.own j hj').below hb1).of_block fun g e => hw.rest g (by have := h.foot j g hj' e; omega)
  · by_cases hjk : j = k
    · subst hjk; rw [upd_at] at e; have := hxg g e; omega
    · rw [upd_ne _ _ hjk] at e; exact h.foot j g (by omega) e
  · by_cases hjk : j = k
    · subst hjk; rw [upd_at] at e; rw [upd_ne _ _ hne] at e'
      have := hxg g e; have := ownBlock_lt (h.own i (by omega)) e'; omega
    · rw [upd_ne _ _ hjk] at e
      by_cases hik : i = k
      · subst hik; rw [upd_at] at e'
        have := hxg g e'; have := ownBlock_lt (h.own j (by omega)) e; omega
      · rw [upd_ne _ _ hik] at e'
        exact h.apart j i g (by omega) (by omega) hne e e'
  · have hbx := h.below.trans (hb1.mono (by omega))
    exact ⟨hw.os.trans hbx.os, hw.tape.trans hbx.tape, hw.output.trans hbx.output, by rw [hw.size]; exact hbx.size, fun j hj => (hw.rest j (by omega)).trans (hbx.block j hj)⟩
set_option maxRecDepth 100000 in
set_option maxHeartbeats 4000000 in
theorem clone_dk {w : World} {D : Nat} {F : Nat → Prop} {st : DS} (h : Dk w D F st) : Calls Tryd.prog 36 #[.pointer (some ⟨D, 0, none⟩)] w fun e w' => Made w st e w' := by
  have KT := Lib.hid (there_yes h.made)
  obtain ⟨hm, hft, hsf, hl, v, lf, ar, hb, hr, hx⟩ := h
  have hlt : D < w.heap.size := (Array.getElem?_eq_some_iff.1 hb).1
  have HB := Lib.hid hb
  have HM := Lib.hid hm
  have HFT := Lib.hid hft
  have HSF := Lib.hid hsf
  have HL := Lib.hid hl
  have HX := Lib.hid hx
  have HR := Lib.hid hr
  have HLT := Lib.hid hlt
  obtain ⟨a0, n0, p0, e0⟩ : ∃ a n c, v 0 = .slice a n c := by
    rcases (hr.own 0 (by decide)).form with ⟨h1, _⟩ | ⟨g, c, h1, _⟩
    · exact ⟨_, _, _, h1⟩
    · exact ⟨_, _, _, h1⟩
  obtain ⟨a1, n1, p1, e1⟩ : ∃ a n c, v 1 = .slice a n c := by
    rcases (hr.own 1 (by decide)).form with ⟨h1, _⟩ | ⟨g, c, h1, _⟩
    · exact ⟨_, _, _, h1⟩
    · exact ⟨_, _, _, h1⟩
  obtain ⟨a2, n2, p2, e2⟩ : ∃ a n c, v 2 = .slice a n c := by
    rcases (hr.own 2 (by decide)).form with ⟨h1, _⟩ | ⟨g, c, h1, _⟩
    · exact ⟨_, _, _, h1⟩
    · exact ⟨_, _, _, h1⟩
  obtain ⟨a3, n3, p3, e3⟩ : ∃ a n c, v 3 = .slice a n c := by
    rcases (hr.own 3 (by decide)).form with ⟨h1, _⟩ | ⟨g, c, h1, _⟩
    · exact ⟨_, _, _, h1⟩
    · exact ⟨_, _, _, h1⟩
  have c0 : w.cell? ⟨D, 0, none⟩ = some (.slice a0 n0 p0) := by rw [← e0]; exact cell_of_block hb rfl
  have c1 : w.cell? ⟨D, 1, none⟩ = some (.int .i64 (st.s 0)) := cell_of_block hb rfl
  have c2 : w.cell? ⟨D, 2, none⟩ = some (.slice a1 n1 p1) := by rw [← e1]; exact cell_of_block hb rfl
  have c3 : w.cell? ⟨D, 3, none⟩ = some (.int .i64 (st.s 1)) := cell_of_block hb rfl
  have c4 : w.cell? ⟨D, 4, none⟩ = some (.slice a2 n2 p2) := by rw [← e2]; exact cell_of_block hb rfl
  have c5 : w.cell? ⟨D, 5, none⟩ = some (.int .i64 (st.s 2)) := cell_of_block hb rfl
  have c6 : w.cell? ⟨D, 6, none⟩ = some (.slice a3 n3 p3) := by rw [← e3]; exact cell_of_block hb rfl
  have c7 : w.cell? ⟨D, 7, none⟩ = some (.int .i64 (st.s 3)) := cell_of_block hb rfl
  have c8 : w.cell? ⟨D, 8, none⟩ = some (.int .i64 lf) := cell_of_block hb rfl
  have c9 : w.cell? ⟨D, 9, none⟩ = some (.bool ar) := cell_of_block hb rfl
  have c10 : w.cell? ⟨D, 10, none⟩ = some (.bool st.down) := cell_of_block hb rfl
  have c11 : w.cell? ⟨D, 11, none⟩ = some (.bool true) := cell_of_block hb rfl
  have hix : ∀ (W : World) (x0 x1 x2 x3 x4 x5 x6 x7 : Value), Sem.run Tryd.prog (Instr.index 106 (.agg #[x0, x1, x2, x3, x4, x5, x6, x7]) (.int .i64 0)) W = .ok (.agg #[x0, x1]) W ∧ Sem.run Tryd.prog (Instr.index 106 (.agg #[x0, x1, x2, x3, x4, x5, x6, x7]) (.int .i64 1)) W = .ok (.agg #[x2, x3]) W ∧ Sem.run Tryd.prog (Instr.index 106 (.agg #[x0, x1, x2, x3, x4, x5, x6, x7]) (.int .i64 2)) W = .ok (.agg #[x4, x5]) W ∧ Sem.run Tryd.prog (Instr.index 106 (.agg #[x0, x1, x2, x3, x4, x5, x6, x7]) (.int .i64 3)) W = .ok (.agg #[x6, x7]) W := fun W x0 x1 x2 x3 x4 x5 x6 x7 => ⟨by kernel_rfl, by kernel_rfl, by kernel_rfl, by kernel_rfl⟩
  have E0 := Lib.hid e0
  have E1 := Lib.hid e1
  have E2 := Lib.hid e2
  have E3 := Lib.hid e3
  clear e0 e1 e2 e3 hb hm hft hsf hl hx hr
  go_enter Tryd.func36, Tryd.ntmps36
  go_wp2_with fail
  refine KT.out.mono ?_
  rintro e w' ⟨rfl, rfl⟩
  go_wp2_with fail
  go_loopw [16] (fun i wr => ∃ k : Nat, k ≤ 4 ∧ i = .int .i64 k ∧ CloneMid w v st lf ar k wr) (fun i _ => 4 - (intOf i).toNat)
  case atStart =>
    refine ⟨0, by decide, rfl, v, ⟨?_, fun j _ => rfl, fun j hj => absurd hj (by omega), fun j g hj => absurd hj (by omega), fun j i g hj => absurd hj (by omega), below_alloc (Below.refl _ w) _⟩⟩
    rw [World.alloc_heap_new w _, ← E0.out, ← E1.out, ← E2.out, ← E3.out]
    rfl
  case round =>
    obtain ⟨k, hk, rfl, u, hst⟩ := hrel
    rcases (by omega : k = 0 ∨ k = 1 ∨ k = 2 ∨ k = 3 ∨ k = 4) with rfl | rfl | rfl | rfl | rfl
    · have hz : w.heap.size < wr.heap.size := (Array.getElem?_eq_some_iff.1 hst.blk).1
      have hq := fun W x0 x1 x2 x3 x4 x5 x6 x7 => (hix W x0 x1 x2 x3 x4 x5 x6 x7).1
      have HAl := Lib.hid (below_alloc (Below.refl _ wr) (.cells #[.slice a0 n0 p0, .int .i64 (st.s 0)] 105))
      have HST := Lib.hid hst
      have KC := Lib.hid (fun W' (hb : Below w.heap.size w W') => clone_bytes (w := W') (((HR.out.own 0 (by decide)).below hb).at) (by have := HFT.out 0 (by decide); omega))
      rw [E0.out] at KC
      clear hst
      go_wp2_with fail
      refine (KC.out _ (HST.out.below.trans (HAl.out.mono (Nat.le_of_lt hz)))).mono ?_
      rintro e W2 ⟨x, rfl, o, b, g⟩
      obtain ⟨ax, nx, px, rfl⟩ : ∃ a n c, x = .slice a n c := by
        rcases o.form with ⟨h1, _⟩ | ⟨g, c, h1, _⟩
        · exact ⟨_, _, _, h1⟩
        · exact ⟨_, _, _, h1⟩
      have hb2 : W2.heap[w.heap.size]? = _ := ((b.block _ (by simp; omega)).trans (HAl.out.block _ hz)).trans HST.out.blk
      have cx : W2.cell? ⟨w.heap.size, 0, none⟩ = some (u 0) := cell_of_block hb2 rfl
      have fx := free_of_block 0 hb2
      have HB2 := Lib.hid hb2
      have HO := Lib.hid o
      have HG := Lib.hid b
      clear hb2 o b g
      go_wp2_with fail
      go_roundw
      case rel => exact ⟨1, by decide, by go_num, upd u 0 (.slice ax nx px), CloneAt.next HST.out HAl.out HO.out HG.out _ rfl ((wrote_refl HB2.out).set 0 (.slice ax nx px))⟩
      case measure => simp [intOf]
    · have hz : w.heap.size < wr.heap.size := (Array.getElem?_eq_some_iff.1 hst.blk).1
      have hq := fun W x0 x1 x2 x3 x4 x5 x6 x7 => (hix W x0 x1 x2 x3 x4 x5 x6 x7).2.1
      have HAl := Lib.hid (below_alloc (Below.refl _ wr) (.cells #[.slice a1 n1 p1, .int .i64 (st.s 1)] 105))
      have HST := Lib.hid hst
      have KC := Lib.hid (fun W' (hb : Below w.heap.size w W') => clone_bytes (w := W') (((HR.out.own 1 (by decide)).below hb).at) (by have := HFT.out 1 (by decide); omega))
      rw [E1.out] at KC
      clear hst
      go_wp2_with fail
      refine (KC.out _ (HST.out.below.trans (HAl.out.mono (Nat.le_of_lt hz)))).mono ?_
      rintro e W2 ⟨x, rfl, o, b, g⟩
      obtain ⟨ax, nx, px, rfl⟩ : ∃ a n c, x = .slice a n c := by
        rcases o.form with ⟨h1, _⟩ | ⟨g, c, h1, _⟩
        · exact ⟨_, _, _, h1⟩
        · exact ⟨_, _, _, h1⟩
      have hb2 : W2.heap[w.heap.size]? = _ := ((b.block _ (by simp; omega)).trans (HAl.out.block _ hz)).trans HST.out.blk
      have cx : W2.cell? ⟨w.heap.size, 2, none⟩ = some (u 1) := cell_of_block hb2 rfl
      have fx := free_of_block 2 hb2
      have HB2 := Lib.hid hb2
      have HO := Lib.hid o
      have HG := Lib.hid b
      clear hb2 o b g
      go_wp2_with fail
      go_roundw
      case rel => exact ⟨2, by decide, by go_num, upd u 1 (.slice ax nx px), CloneAt.next HST.out HAl.out HO.out HG.out _ rfl ((wrote_refl HB2.out).set 2 (.slice ax nx px))⟩
      case measure => simp [intOf]
    · have hz : w.heap.size < wr.heap.size := (Array.getElem?_eq_some_iff.1 hst.blk).1
      have hq := fun W x0 x1 x2 x3 x4 x5 x6 x7 => (hix W x0 x1 x2 x3 x4 x5 x6 x7).2.2.1
      have HAl := Lib.hid (below_alloc (Below.refl _ wr) (.cells #[.slice a2 n2 p2, .int .i64 (st.s 2)] 105))
      have HST := Lib.hid hst
      have KC := Lib.hid (fun W' (hb : Below w.heap.size w W') => clone_bytes (w := W') (((HR.out.own 2 (by decide)).below hb).at) (by have := HFT.out 2 (by decide); omega))
      rw [E2.out] at KC
      clear hst
      go_wp2_with fail
      refine (KC.out _ (HST.out.below.trans (HAl.out.mono (Nat.le_of_lt hz)))).mono ?_
      rintro e W2 ⟨x, rfl, o, b, g⟩
      obtain ⟨ax, nx, px, rfl⟩ : ∃ a n c, x = .slice a n c := by
        rcases o.form with ⟨h1, _⟩ | ⟨g, c, h1, _⟩
        · exact ⟨_, _, _, h1⟩
        · exact ⟨_, _, _, h1⟩
      have hb2 : W2.heap[w.heap.size]? = _ := ((b.block _ (by simp; omega)).trans (HAl.out.block _ hz)).trans HST.out.blk
      have cx : W2.cell? ⟨w.heap.size, 4, none⟩ = some (u 2) := cell_of_block hb2 rfl
      have fx := free_of_block 4 hb2
      have HB2 := Lib.hid hb2
      have HO := Lib.hid o
      have HG := Lib.hid b
      clear hb2 o b g
      go_wp2_with fail
      go_roundw
      case rel => exact ⟨3, by decide, by go_num, upd u 2 (.slice ax nx px), CloneAt.next HST.out HAl.out HO.out HG.out _ rfl ((wrote_refl HB2.out).set 4 (.slice ax nx px))⟩
      case measure => simp [intOf]
    · have hz : w.heap.size < wr.heap.size := (Array.getElem?_eq_some_iff.1 hst.blk).1
      have hq := fun W x0 x1 x2 x3 x4 x5 x6 x7 => (hix W x0 x1 x2 x3 x4 x5 x6 x7).2.2.2
      have HAl := Lib.hid (below_alloc (Below.refl _ wr) (.cells #[.slice a3 n3 p3, .int .i64 (st.s 3)] 105))
      have HST := Lib.hid hst
      have KC := Lib.hid (fun W' (hb : Below w.heap.size w W') => clone_bytes (w := W') (((HR.out.own 3 (by decide)).below hb).at) (by have := HFT.out 3 (by decide); omega))
      rw [E3.out] at KC
      clear hst
      go_wp2_with fail
      refine (KC.out _ (HST.out.below.trans (HAl.out.mono (Nat.le_of_lt hz)))).mono ?_
      rintro e W2 ⟨x, rfl, o, b, g⟩
      obtain ⟨ax, nx, px, rfl⟩ : ∃ a n c, x = .slice a n c := by
        rcases o.form with ⟨h1, _⟩ | ⟨g, c, h1, _⟩
        · exact ⟨_, _, _, h1⟩
        · exact ⟨_, _, _, h1⟩
      have hb2 : W2.heap[w.heap.size]? = _ := ((b.block _ (by simp; omega)).trans (HAl.out.block _ hz)).trans HST.out.blk
      have cx : W2.cell? ⟨w.heap.size, 6, none⟩ = some (u 3) := cell_of_block hb2 rfl
      have fx := free_of_block 6 hb2
      have HB2 := Lib.hid hb2
      have HO := Lib.hid o
      have HG := Lib.hid b
      clear hb2 o b g
      go_wp2_with fail
      go_roundw
      case rel => exact ⟨4, by decide, by go_num, upd u 3 (.slice ax nx px), CloneAt.next HST.out HAl.out HO.out HG.out _ rfl ((wrote_refl HB2.out).set 6 (.slice ax nx px))⟩
      case measure => simp [intOf]
    · have HST := Lib.hid hst
      clear hst
      go_wp2_with fail
      go_ret
      have h := HST.out
      refine ⟨w.heap.size, rfl, ⟨Nat.le_refl _, HFT.out, HSF.out, HL.out, u, lf, ar, h.blk, ⟨fun j hj => h.own j hj, fun j g hj e => ?_, fun j i g hj hi => h.apart j i g hj hi⟩, HX.out⟩, h.below⟩
      have := h.foot j g hj e
      exact ⟨by omega, by omega⟩
end Go.Proofs.YtomhfnaekjmjnaaDoor
