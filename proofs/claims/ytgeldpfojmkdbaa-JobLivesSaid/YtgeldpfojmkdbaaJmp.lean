/- The known job (layer 15), by the contracts of any job. No condition but that job's numbers. -/
import Derived.Test.YtgeldpfojmkdbaaJg
import Derived.Test.YtgeldpfojmkdbaaJk
import Derived.Test.YtgeldpfojmkdbaaBldD
import Derived.Test.YtgeldpfojmkdbaaBitsOf
import Derived.Deep.MidRow
namespace Go.Proofs.Ytgeldpfojmkdbaa
set_option linter.unusedVariables false
open Go.ChangeShapes Go.WideShapes Go.ChangeAt Go.RowKit
attribute [local go_sem ↓] Go.wp_at_zero Go.wp_at_succ comesTo_value_eq comesTo_skip_eq comesTo_enter_eq

/-- a job in its block -/
structure J17 (U : World) (q : Nat) (v0 v1 v2 v3 v4 v5 v6 v7 v8 v9 v10 v11 v12 v13 v14 v15 v16 : Value) : Prop where
  c0 : U.cell? ⟨q, 0, none⟩ = some v0
  c1 : U.cell? ⟨q, 1, none⟩ = some v1
  c2 : U.cell? ⟨q, 2, none⟩ = some v2
  c3 : U.cell? ⟨q, 3, none⟩ = some v3
  c4 : U.cell? ⟨q, 4, none⟩ = some v4
  c5 : U.cell? ⟨q, 5, none⟩ = some v5
  c6 : U.cell? ⟨q, 6, none⟩ = some v6
  c7 : U.cell? ⟨q, 7, none⟩ = some v7
  c8 : U.cell? ⟨q, 8, none⟩ = some v8
  c9 : U.cell? ⟨q, 9, none⟩ = some v9
  c10 : U.cell? ⟨q, 10, none⟩ = some v10
  c11 : U.cell? ⟨q, 11, none⟩ = some v11
  c12 : U.cell? ⟨q, 12, none⟩ = some v12
  c13 : U.cell? ⟨q, 13, none⟩ = some v13
  c14 : U.cell? ⟨q, 14, none⟩ = some v14
  c15 : U.cell? ⟨q, 15, none⟩ = some v15
  c16 : U.cell? ⟨q, 16, none⟩ = some v16
  f0 : U.frozen? ⟨q, 0, none⟩ = false
  f1 : U.frozen? ⟨q, 1, none⟩ = false
  f2 : U.frozen? ⟨q, 2, none⟩ = false
  f3 : U.frozen? ⟨q, 3, none⟩ = false
  f4 : U.frozen? ⟨q, 4, none⟩ = false
  f5 : U.frozen? ⟨q, 5, none⟩ = false
  f6 : U.frozen? ⟨q, 6, none⟩ = false
  f7 : U.frozen? ⟨q, 7, none⟩ = false
  f8 : U.frozen? ⟨q, 8, none⟩ = false
  f9 : U.frozen? ⟨q, 9, none⟩ = false
  f10 : U.frozen? ⟨q, 10, none⟩ = false
  f11 : U.frozen? ⟨q, 11, none⟩ = false
  f12 : U.frozen? ⟨q, 12, none⟩ = false
  f13 : U.frozen? ⟨q, 13, none⟩ = false
  f14 : U.frozen? ⟨q, 14, none⟩ = false
  f15 : U.frozen? ⟨q, 15, none⟩ = false
  f16 : U.frozen? ⟨q, 16, none⟩ = false
theorem J17.lt {U : World} {q : Nat} {v0 v1 v2 v3 v4 v5 v6 v7 v8 v9 v10 v11 v12 v13 v14 v15 v16 : Value} (h : J17 U q v0 v1 v2 v3 v4 v5 v6 v7 v8 v9 v10 v11 v12 v13 v14 v15 v16) : q < U.heap.size := World.block_lt_of_cell? U _ h.c0
theorem J17.below {U U' : World} {q : Nat} {v0 v1 v2 v3 v4 v5 v6 v7 v8 v9 v10 v11 v12 v13 v14 v15 v16 : Value} (h : J17 U q v0 v1 v2 v3 v4 v5 v6 v7 v8 v9 v10 v11 v12 v13 v14 v15 v16) (hb : Below U.heap.size U U') : J17 U' q v0 v1 v2 v3 v4 v5 v6 v7 v8 v9 v10 v11 v12 v13 v14 v15 v16 := by
  obtain ⟨hc, hf⟩ := bcell hb
  have l := h.lt
  exact ⟨(hc _ 0 l).trans h.c0, (hc _ 1 l).trans h.c1, (hc _ 2 l).trans h.c2, (hc _ 3 l).trans h.c3, (hc _ 4 l).trans h.c4, (hc _ 5 l).trans h.c5, (hc _ 6 l).trans h.c6, (hc _ 7 l).trans h.c7, (hc _ 8 l).trans h.c8, (hc _ 9 l).trans h.c9, (hc _ 10 l).trans h.c10, (hc _ 11 l).trans h.c11, (hc _ 12 l).trans h.c12, (hc _ 13 l).trans h.c13, (hc _ 14 l).trans h.c14, (hc _ 15 l).trans h.c15, (hc _ 16 l).trans h.c16, (hf _ 0 l).trans h.f0, (hf _ 1 l).trans h.f1, (hf _ 2 l).trans h.f2, (hf _ 3 l).trans h.f3, (hf _ 4 l).trans h.f4, (hf _ 5 l).trans h.f5, (hf _ 6 l).trans h.f6, (hf _ 7 l).trans h.f7, (hf _ 8 l).trans h.f8, (hf _ 9 l).trans h.f9, (hf _ 10 l).trans h.f10, (hf _ 11 l).trans h.f11, (hf _ 12 l).trans h.f12, (hf _ 13 l).trans h.f13, (hf _ 14 l).trans h.f14, (hf _ 15 l).trans h.f15, (hf _ 16 l).trans h.f16⟩
theorem J17.new {U : World} {q : Nat} {T : TypeId} {v0 v1 v2 v3 v4 v5 v6 v7 v8 v9 v10 v11 v12 v13 v14 v15 v16 : Value} (h : U.heap[q]? = some (.cells #[v0, v1, v2, v3, v4, v5, v6, v7, v8, v9, v10, v11, v12, v13, v14, v15, v16] T (0, 0))) : J17 U q v0 v1 v2 v3 v4 v5 v6 v7 v8 v9 v10 v11 v12 v13 v14 v15 v16 :=
  ⟨cell_of_block (o := 0) h rfl, cell_of_block (o := 1) h rfl, cell_of_block (o := 2) h rfl, cell_of_block (o := 3) h rfl, cell_of_block (o := 4) h rfl, cell_of_block (o := 5) h rfl, cell_of_block (o := 6) h rfl, cell_of_block (o := 7) h rfl, cell_of_block (o := 8) h rfl, cell_of_block (o := 9) h rfl, cell_of_block (o := 10) h rfl, cell_of_block (o := 11) h rfl, cell_of_block (o := 12) h rfl, cell_of_block (o := 13) h rfl, cell_of_block (o := 14) h rfl, cell_of_block (o := 15) h rfl, cell_of_block (o := 16) h rfl, free_of_block 0 h, free_of_block 1 h, free_of_block 2 h, free_of_block 3 h, free_of_block 4 h, free_of_block 5 h, free_of_block 6 h, free_of_block 7 h, free_of_block 8 h, free_of_block 9 h, free_of_block 10 h, free_of_block 11 h, free_of_block 12 h, free_of_block 13 h, free_of_block 14 h, free_of_block 15 h, free_of_block 16 h⟩
theorem blk_new (w : World) (cs : Array Value) (T : TypeId) : (w.alloc (.cells cs T)).heap[w.heap.size]? = some (.cells cs T (0, 0)) := by show (w.heap.push _)[w.heap.size]? = _; simp
theorem blk_old (w : World) (o : Obj) (q : Nat) (hq : q < w.heap.size) : (w.alloc o).heap[q]? = w.heap[q]? := by show (w.heap.push _)[q]? = _; rw [Array.getElem?_push]; simp [Nat.ne_of_lt hq]
/-- a whole job is stored -/
def put17 (U : World) (q : Nat) (u0 u1 u2 u3 u4 u5 u6 u7 u8 u9 u10 u11 u12 u13 u14 u15 u16 : Value) : World := (((((((((((((((((U.setCell ⟨q, 0, none⟩ u0).setCell ⟨q, 1, none⟩ u1).setCell ⟨q, 2, none⟩ u2).setCell ⟨q, 3, none⟩ u3).setCell ⟨q, 4, none⟩ u4).setCell ⟨q, 5, none⟩ u5).setCell ⟨q, 6, none⟩ u6).setCell ⟨q, 7, none⟩ u7).setCell ⟨q, 8, none⟩ u8).setCell ⟨q, 9, none⟩ u9).setCell ⟨q, 10, none⟩ u10).setCell ⟨q, 11, none⟩ u11).setCell ⟨q, 12, none⟩ u12).setCell ⟨q, 13, none⟩ u13).setCell ⟨q, 14, none⟩ u14).setCell ⟨q, 15, none⟩ u15).setCell ⟨q, 16, none⟩ u16)
theorem J17.put {U : World} {q : Nat} {v0 v1 v2 v3 v4 v5 v6 v7 v8 v9 v10 v11 v12 v13 v14 v15 v16 u0 u1 u2 u3 u4 u5 u6 u7 u8 u9 u10 u11 u12 u13 u14 u15 u16 : Value} (h : J17 U q v0 v1 v2 v3 v4 v5 v6 v7 v8 v9 v10 v11 v12 v13 v14 v15 v16) : J17 (put17 U q u0 u1 u2 u3 u4 u5 u6 u7 u8 u9 u10 u11 u12 u13 u14 u15 u16) q u0 u1 u2 u3 u4 u5 u6 u7 u8 u9 u10 u11 u12 u13 u14 u15 u16 := by
  obtain ⟨c0, c1, c2, c3, c4, c5, c6, c7, c8, c9, c10, c11, c12, c13, c14, c15, c16, f0, f1, f2, f3, f4, f5, f6, f7, f8, f9, f10, f11, f12, f13, f14, f15, f16⟩ := h
  unfold put17
  exact ⟨by go_simp, by go_simp, by go_simp, by go_simp, by go_simp, by go_simp, by go_simp, by go_simp, by go_simp, by go_simp, by go_simp, by go_simp, by go_simp, by go_simp, by go_simp, by go_simp, by go_simp, by go_simp, by go_simp, by go_simp, by go_simp, by go_simp, by go_simp, by go_simp, by go_simp, by go_simp, by go_simp, by go_simp, by go_simp, by go_simp, by go_simp, by go_simp, by go_simp, by go_simp⟩
theorem below_put {w U : World} {q : Nat} (u0 u1 u2 u3 u4 u5 u6 u7 u8 u9 u10 u11 u12 u13 u14 u15 u16 : Value) (h : Below w.heap.size w U) (hq : w.heap.size ≤ q) : Below w.heap.size w (put17 U q u0 u1 u2 u3 u4 u5 u6 u7 u8 u9 u10 u11 u12 u13 u14 u15 u16) := by
  unfold put17
  exact ((((((((((((((((h.setCell hq _).setCell hq _).setCell hq _).setCell hq _).setCell hq _).setCell hq _).setCell hq _).setCell hq _).setCell hq _).setCell hq _).setCell hq _).setCell hq _).setCell hq _).setCell hq _).setCell hq _).setCell hq _).setCell hq _
theorem put17_fold (U : World) (q : Nat) (u0 u1 u2 u3 u4 u5 u6 u7 u8 u9 u10 u11 u12 u13 u14 u15 u16 : Value) : (((((((((((((((((U.setCell ⟨q, 0, none⟩ u0).setCell ⟨q, 1, none⟩ u1).setCell ⟨q, 2, none⟩ u2).setCell ⟨q, 3, none⟩ u3).setCell ⟨q, 4, none⟩ u4).setCell ⟨q, 5, none⟩ u5).setCell ⟨q, 6, none⟩ u6).setCell ⟨q, 7, none⟩ u7).setCell ⟨q, 8, none⟩ u8).setCell ⟨q, 9, none⟩ u9).setCell ⟨q, 10, none⟩ u10).setCell ⟨q, 11, none⟩ u11).setCell ⟨q, 12, none⟩ u12).setCell ⟨q, 13, none⟩ u13).setCell ⟨q, 14, none⟩ u14).setCell ⟨q, 15, none⟩ u15).setCell ⟨q, 16, none⟩ u16) = put17 U q u0 u1 u2 u3 u4 u5 u6 u7 u8 u9 u10 u11 u12 u13 u14 u15 u16 := rfl
theorem J17.s8 {U : World} {q : Nat} {v0 v1 v2 v3 v4 v5 v6 v7 v8 v9 v10 v11 v12 v13 v14 v15 v16 : Value} (h : J17 U q v0 v1 v2 v3 v4 v5 v6 v7 v8 v9 v10 v11 v12 v13 v14 v15 v16) (x : Value) : J17 (U.setCell ⟨q, 8, none⟩ x) q v0 v1 v2 v3 v4 v5 v6 v7 x v9 v10 v11 v12 v13 v14 v15 v16 := by
  obtain ⟨c0, c1, c2, c3, c4, c5, c6, c7, c8, c9, c10, c11, c12, c13, c14, c15, c16, f0, f1, f2, f3, f4, f5, f6, f7, f8, f9, f10, f11, f12, f13, f14, f15, f16⟩ := h
  exact ⟨(World.cell?_setCell_other _ _ _ _ (by intro h; cases h)).trans c0, (World.cell?_setCell_other _ _ _ _ (by intro h; cases h)).trans c1, (World.cell?_setCell_other _ _ _ _ (by intro h; cases h)).trans c2, (World.cell?_setCell_other _ _ _ _ (by intro h; cases h)).trans c3, (World.cell?_setCell_other _ _ _ _ (by intro h; cases h)).trans c4, (World.cell?_setCell_other _ _ _ _ (by intro h; cases h)).trans c5, (World.cell?_setCell_other _ _ _ _ (by intro h; cases h)).trans c6, (World.cell?_setCell_other _ _ _ _ (by intro h; cases h)).trans c7, World.cell?_setCell_same _ _ _ c8, (World.cell?_setCell_other _ _ _ _ (by intro h; cases h)).trans c9, (World.cell?_setCell_other _ _ _ _ (by intro h; cases h)).trans c10, (World.cell?_setCell_other _ _ _ _ (by intro h; cases h)).trans c11, (World.cell?_setCell_other _ _ _ _ (by intro h; cases h)).trans c12, (World.cell?_setCell_other _ _ _ _ (by intro h; cases h)).trans c13, (World.cell?_setCell_other _ _ _ _ (by intro h; cases h)).trans c14, (World.cell?_setCell_other _ _ _ _ (by intro h; cases h)).trans c15, (World.cell?_setCell_other _ _ _ _ (by intro h; cases h)).trans c16, (World.frozen?_setCell _ _ _ _).trans f0, (World.frozen?_setCell _ _ _ _).trans f1, (World.frozen?_setCell _ _ _ _).trans f2, (World.frozen?_setCell _ _ _ _).trans f3, (World.frozen?_setCell _ _ _ _).trans f4, (World.frozen?_setCell _ _ _ _).trans f5, (World.frozen?_setCell _ _ _ _).trans f6, (World.frozen?_setCell _ _ _ _).trans f7, (World.frozen?_setCell _ _ _ _).trans f8, (World.frozen?_setCell _ _ _ _).trans f9, (World.frozen?_setCell _ _ _ _).trans f10, (World.frozen?_setCell _ _ _ _).trans f11, (World.frozen?_setCell _ _ _ _).trans f12, (World.frozen?_setCell _ _ _ _).trans f13, (World.frozen?_setCell _ _ _ _).trans f14, (World.frozen?_setCell _ _ _ _).trans f15, (World.frozen?_setCell _ _ _ _).trans f16⟩
theorem J17.s12 {U : World} {q : Nat} {v0 v1 v2 v3 v4 v5 v6 v7 v8 v9 v10 v11 v12 v13 v14 v15 v16 : Value} (h : J17 U q v0 v1 v2 v3 v4 v5 v6 v7 v8 v9 v10 v11 v12 v13 v14 v15 v16) (x : Value) : J17 (U.setCell ⟨q, 12, none⟩ x) q v0 v1 v2 v3 v4 v5 v6 v7 v8 v9 v10 v11 x v13 v14 v15 v16 := by
  obtain ⟨c0, c1, c2, c3, c4, c5, c6, c7, c8, c9, c10, c11, c12, c13, c14, c15, c16, f0, f1, f2, f3, f4, f5, f6, f7, f8, f9, f10, f11, f12, f13, f14, f15, f16⟩ := h
  exact ⟨(World.cell?_setCell_other _ _ _ _ (by intro h; cases h)).trans c0, (World.cell?_setCell_other _ _ _ _ (by intro h; cases h)).trans c1, (World.cell?_setCell_other _ _ _ _ (by intro h; cases h)).trans c2, (World.cell?_setCell_other _ _ _ _ (by intro h; cases h)).trans c3, (World.cell?_setCell_other _ _ _ _ (by intro h; cases h)).trans c4, (World.cell?_setCell_other _ _ _ _ (by intro h; cases h)).trans c5, (World.cell?_setCell_other _ _ _ _ (by intro h; cases h)).trans c6, (World.cell?_setCell_other _ _ _ _ (by intro h; cases h)).trans c7, (World.cell?_setCell_other _ _ _ _ (by intro h; cases h)).trans c8, (World.cell?_setCell_other _ _ _ _ (by intro h; cases h)).trans c9, (World.cell?_setCell_other _ _ _ _ (by intro h; cases h)).trans c10, (World.cell?_setCell_other _ _ _ _ (by intro h; cases h)).trans c11, World.cell?_setCell_same _ _ _ c12, (World.cell?_setCell_other _ _ _ _ (by intro h; cases h)).trans c13, (World.cell?_setCell_other _ _ _ _ (by intro h; cases h)).trans c14, (World.cell?_setCell_other _ _ _ _ (by intro h; cases h)).trans c15, (World.cell?_setCell_other _ _ _ _ (by intro h; cases h)).trans c16, (World.frozen?_setCell _ _ _ _).trans f0, (World.frozen?_setCell _ _ _ _).trans f1, (World.frozen?_setCell _ _ _ _).trans f2, (World.frozen?_setCell _ _ _ _).trans f3, (World.frozen?_setCell _ _ _ _).trans f4, (World.frozen?_setCell _ _ _ _).trans f5, (World.frozen?_setCell _ _ _ _).trans f6, (World.frozen?_setCell _ _ _ _).trans f7, (World.frozen?_setCell _ _ _ _).trans f8, (World.frozen?_setCell _ _ _ _).trans f9, (World.frozen?_setCell _ _ _ _).trans f10, (World.frozen?_setCell _ _ _ _).trans f11, (World.frozen?_setCell _ _ _ _).trans f12, (World.frozen?_setCell _ _ _ _).trans f13, (World.frozen?_setCell _ _ _ _).trans f14, (World.frozen?_setCell _ _ _ _).trans f15, (World.frozen?_setCell _ _ _ _).trans f16⟩
theorem J17.s14 {U : World} {q : Nat} {v0 v1 v2 v3 v4 v5 v6 v7 v8 v9 v10 v11 v12 v13 v14 v15 v16 : Value} (h : J17 U q v0 v1 v2 v3 v4 v5 v6 v7 v8 v9 v10 v11 v12 v13 v14 v15 v16) (x : Value) : J17 (U.setCell ⟨q, 14, none⟩ x) q v0 v1 v2 v3 v4 v5 v6 v7 v8 v9 v10 v11 v12 v13 x v15 v16 := by
  obtain ⟨c0, c1, c2, c3, c4, c5, c6, c7, c8, c9, c10, c11, c12, c13, c14, c15, c16, f0, f1, f2, f3, f4, f5, f6, f7, f8, f9, f10, f11, f12, f13, f14, f15, f16⟩ := h
  exact ⟨(World.cell?_setCell_other _ _ _ _ (by intro h; cases h)).trans c0, (World.cell?_setCell_other _ _ _ _ (by intro h; cases h)).trans c1, (World.cell?_setCell_other _ _ _ _ (by intro h; cases h)).trans c2, (World.cell?_setCell_other _ _ _ _ (by intro h; cases h)).trans c3, (World.cell?_setCell_other _ _ _ _ (by intro h; cases h)).trans c4, (World.cell?_setCell_other _ _ _ _ (by intro h; cases h)).trans c5, (World.cell?_setCell_other _ _ _ _ (by intro h; cases h)).trans c6, (World.cell?_setCell_other _ _ _ _ (by intro h; cases h)).trans c7, (World.cell?_setCell_other _ _ _ _ (by intro h; cases h)).trans c8, (World.cell?_setCell_other _ _ _ _ (by intro h; cases h)).trans c9, (World.cell?_setCell_other _ _ _ _ (by intro h; cases h)).trans c10, (World.cell?_setCell_other _ _ _ _ (by intro h; cases h)).trans c11, (World.cell?_setCell_other _ _ _ _ (by intro h; cases h)).trans c12, (World.cell?_setCell_other _ _ _ _ (by intro h; cases h)).trans c13, World.cell?_setCell_same _ _ _ c14, (World.cell?_setCell_other _ _ _ _ (by intro h; cases h)).trans c15, (World.cell?_setCell_other _ _ _ _ (by intro h; cases h)).trans c16, (World.frozen?_setCell _ _ _ _).trans f0, (World.frozen?_setCell _ _ _ _).trans f1, (World.frozen?_setCell _ _ _ _).trans f2, (World.frozen?_setCell _ _ _ _).trans f3, (World.frozen?_setCell _ _ _ _).trans f4, (World.frozen?_setCell _ _ _ _).trans f5, (World.frozen?_setCell _ _ _ _).trans f6, (World.frozen?_setCell _ _ _ _).trans f7, (World.frozen?_setCell _ _ _ _).trans f8, (World.frozen?_setCell _ _ _ _).trans f9, (World.frozen?_setCell _ _ _ _).trans f10, (World.frozen?_setCell _ _ _ _).trans f11, (World.frozen?_setCell _ _ _ _).trans f12, (World.frozen?_setCell _ _ _ _).trans f13, (World.frozen?_setCell _ _ _ _).trans f14, (World.frozen?_setCell _ _ _ _).trans f15, (World.frozen?_setCell _ _ _ _).trans f16⟩
theorem J17.s15 {U : World} {q : Nat} {v0 v1 v2 v3 v4 v5 v6 v7 v8 v9 v10 v11 v12 v13 v14 v15 v16 : Value} (h : J17 U q v0 v1 v2 v3 v4 v5 v6 v7 v8 v9 v10 v11 v12 v13 v14 v15 v16) (x : Value) : J17 (U.setCell ⟨q, 15, none⟩ x) q v0 v1 v2 v3 v4 v5 v6 v7 v8 v9 v10 v11 v12 v13 v14 x v16 := by
  obtain ⟨c0, c1, c2, c3, c4, c5, c6, c7, c8, c9, c10, c11, c12, c13, c14, c15, c16, f0, f1, f2, f3, f4, f5, f6, f7, f8, f9, f10, f11, f12, f13, f14, f15, f16⟩ := h
  exact ⟨(World.cell?_setCell_other _ _ _ _ (by intro h; cases h)).trans c0, (World.cell?_setCell_other _ _ _ _ (by intro h; cases h)).trans c1, (World.cell?_setCell_other _ _ _ _ (by intro h; cases h)).trans c2, (World.cell?_setCell_other _ _ _ _ (by intro h; cases h)).trans c3, (World.cell?_setCell_other _ _ _ _ (by intro h; cases h)).trans c4, (World.cell?_setCell_other _ _ _ _ (by intro h; cases h)).trans c5, (World.cell?_setCell_other _ _ _ _ (by intro h; cases h)).trans c6, (World.cell?_setCell_other _ _ _ _ (by intro h; cases h)).trans c7, (World.cell?_setCell_other _ _ _ _ (by intro h; cases h)).trans c8, (World.cell?_setCell_other _ _ _ _ (by intro h; cases h)).trans c9, (World.cell?_setCell_other _ _ _ _ (by intro h; cases h)).trans c10, (World.cell?_setCell_other _ _ _ _ (by intro h; cases h)).trans c11, (World.cell?_setCell_other _ _ _ _ (by intro h; cases h)).trans c12, (World.cell?_setCell_other _ _ _ _ (by intro h; cases h)).trans c13, (World.cell?_setCell_other _ _ _ _ (by intro h; cases h)).trans c14, World.cell?_setCell_same _ _ _ c15, (World.cell?_setCell_other _ _ _ _ (by intro h; cases h)).trans c16, (World.frozen?_setCell _ _ _ _).trans f0, (World.frozen?_setCell _ _ _ _).trans f1, (World.frozen?_setCell _ _ _ _).trans f2, (World.frozen?_setCell _ _ _ _).trans f3, (World.frozen?_setCell _ _ _ _).trans f4, (World.frozen?_setCell _ _ _ _).trans f5, (World.frozen?_setCell _ _ _ _).trans f6, (World.frozen?_setCell _ _ _ _).trans f7, (World.frozen?_setCell _ _ _ _).trans f8, (World.frozen?_setCell _ _ _ _).trans f9, (World.frozen?_setCell _ _ _ _).trans f10, (World.frozen?_setCell _ _ _ _).trans f11, (World.frozen?_setCell _ _ _ _).trans f12, (World.frozen?_setCell _ _ _ _).trans f13, (World.frozen?_setCell _ _ _ _).trans f14, (World.frozen?_setCell _ _ _ _).trans f15, (World.frozen?_setCell _ _ _ _).trans f16⟩
theorem J17.s16 {U : World} {q : Nat} {v0 v1 v2 v3 v4 v5 v6 v7 v8 v9 v10 v11 v12 v13 v14 v15 v16 : Value} (h : J17 U q v0 v1 v2 v3 v4 v5 v6 v7 v8 v9 v10 v11 v12 v13 v14 v15 v16) (x : Value) : J17 (U.setCell ⟨q, 16, none⟩ x) q v0 v1 v2 v3 v4 v5 v6 v7 v8 v9 v10 v11 v12 v13 v14 v15 x := by
  obtain ⟨c0, c1, c2, c3, c4, c5, c6, c7, c8, c9, c10, c11, c12, c13, c14, c15, c16, f0, f1, f2, f3, f4, f5, f6, f7, f8, f9, f10, f11, f12, f13, f14, f15, f16⟩ := h
  exact ⟨(World.cell?_setCell_other _ _ _ _ (by intro h; cases h)).trans c0, (World.cell?_setCell_other _ _ _ _ (by intro h; cases h)).trans c1, (World.cell?_setCell_other _ _ _ _ (by intro h; cases h)).trans c2, (World.cell?_setCell_other _ _ _ _ (by intro h; cases h)).trans c3, (World.cell?_setCell_other _ _ _ _ (by intro h; cases h)).trans c4, (World.cell?_setCell_other _ _ _ _ (by intro h; cases h)).trans c5, (World.cell?_setCell_other _ _ _ _ (by intro h; cases h)).trans c6, (World.cell?_setCell_other _ _ _ _ (by intro h; cases h)).trans c7, (World.cell?_setCell_other _ _ _ _ (by intro h; cases h)).trans c8, (World.cell?_setCell_other _ _ _ _ (by intro h; cases h)).trans c9, (World.cell?_setCell_other _ _ _ _ (by intro h; cases h)).trans c10, (World.cell?_setCell_other _ _ _ _ (by intro h; cases h)).trans c11, (World.cell?_setCell_other _ _ _ _ (by intro h; cases h)).trans c12, (World.cell?_setCell_other _ _ _ _ (by intro h; cases h)).trans c13, (World.cell?_setCell_other _ _ _ _ (by intro h; cases h)).trans c14, (World.cell?_setCell_other _ _ _ _ (by intro h; cases h)).trans c15, World.cell?_setCell_same _ _ _ c16, (World.frozen?_setCell _ _ _ _).trans f0, (World.frozen?_setCell _ _ _ _).trans f1, (World.frozen?_setCell _ _ _ _).trans f2, (World.frozen?_setCell _ _ _ _).trans f3, (World.frozen?_setCell _ _ _ _).trans f4, (World.frozen?_setCell _ _ _ _).trans f5, (World.frozen?_setCell _ _ _ _).trans f6, (World.frozen?_setCell _ _ _ _).trans f7, (World.frozen?_setCell _ _ _ _).trans f8, (World.frozen?_setCell _ _ _ _).trans f9, (World.frozen?_setCell _ _ _ _).trans f10, (World.frozen?_setCell _ _ _ _).trans f11, (World.frozen?_setCell _ _ _ _).trans f12, (World.frozen?_setCell _ _ _ _).trans f13, (World.frozen?_setCell _ _ _ _).trans f14, (World.frozen?_setCell _ _ _ _).trans f15, (World.frozen?_setCell _ _ _ _).trans f16⟩
theorem J17.range {U : World} {q : Nat} {v0 v1 v2 v3 v4 v5 v6 v7 v8 v9 v10 v11 v12 v13 v14 v15 v16 : Value} (h : J17 U q v0 v1 v2 v3 v4 v5 v6 v7 v8 v9 v10 v11 v12 v13 v14 v15 v16) : U.rangeAt q 0 [v0, v1, v2, v3, v4, v5, v6, v7, v8, v9, v10, v11, v12, v13, v14, v15, v16] := by
  intro j v hv
  rw [Nat.zero_add]
  match j, hv with
  | 0, hv => exact Option.some.inj hv ▸ h.c0
  | 1, hv => exact Option.some.inj hv ▸ h.c1
  | 2, hv => exact Option.some.inj hv ▸ h.c2
  | 3, hv => exact Option.some.inj hv ▸ h.c3
  | 4, hv => exact Option.some.inj hv ▸ h.c4
  | 5, hv => exact Option.some.inj hv ▸ h.c5
  | 6, hv => exact Option.some.inj hv ▸ h.c6
  | 7, hv => exact Option.some.inj hv ▸ h.c7
  | 8, hv => exact Option.some.inj hv ▸ h.c8
  | 9, hv => exact Option.some.inj hv ▸ h.c9
  | 10, hv => exact Option.some.inj hv ▸ h.c10
  | 11, hv => exact Option.some.inj hv ▸ h.c11
  | 12, hv => exact Option.some.inj hv ▸ h.c12
  | 13, hv => exact Option.some.inj hv ▸ h.c13
  | 14, hv => exact Option.some.inj hv ▸ h.c14
  | 15, hv => exact Option.some.inj hv ▸ h.c15
  | 16, hv => exact Option.some.inj hv ▸ h.c16
  | n + 17, hv => exact absurd hv (by simp)
theorem J17.there {U : World} {q : Nat} {v0 v1 v2 v3 v4 v5 v6 v7 v8 v9 v10 v11 v12 v13 v14 v15 v16 : Value} (h : J17 U q v0 v1 v2 v3 v4 v5 v6 v7 v8 v9 v10 v11 v12 v13 v14 v15 v16) : U.there q 0 17 := by
  intro j hv
  rw [Nat.zero_add]
  match j, hv with
  | 0, _ => exact ⟨by rw [h.c0]; rfl, h.f0⟩
  | 1, _ => exact ⟨by rw [h.c1]; rfl, h.f1⟩
  | 2, _ => exact ⟨by rw [h.c2]; rfl, h.f2⟩
  | 3, _ => exact ⟨by rw [h.c3]; rfl, h.f3⟩
  | 4, _ => exact ⟨by rw [h.c4]; rfl, h.f4⟩
  | 5, _ => exact ⟨by rw [h.c5]; rfl, h.f5⟩
  | 6, _ => exact ⟨by rw [h.c6]; rfl, h.f6⟩
  | 7, _ => exact ⟨by rw [h.c7]; rfl, h.f7⟩
  | 8, _ => exact ⟨by rw [h.c8]; rfl, h.f8⟩
  | 9, _ => exact ⟨by rw [h.c9]; rfl, h.f9⟩
  | 10, _ => exact ⟨by rw [h.c10]; rfl, h.f10⟩
  | 11, _ => exact ⟨by rw [h.c11]; rfl, h.f11⟩
  | 12, _ => exact ⟨by rw [h.c12]; rfl, h.f12⟩
  | 13, _ => exact ⟨by rw [h.c13]; rfl, h.f13⟩
  | 14, _ => exact ⟨by rw [h.c14]; rfl, h.f14⟩
  | 15, _ => exact ⟨by rw [h.c15]; rfl, h.f15⟩
  | 16, _ => exact ⟨by rw [h.c16]; rfl, h.f16⟩
  | n + 17, hv => exact absurd hv (by omega)
theorem below_setCells {n b : Nat} {w : World} (hn : n ≤ b) : ∀ (l : List Value) (o : Nat) (w' : World), Below n w w' → Below n w (w'.setCells b o l)
  | [], _, _, h => h
  | v :: l, o, _, h => below_setCells hn l (o + 1) _ (h.setCell hn v)
theorem results_cell_tmp {P : Program} {fn : Func} {p t : Tmp} {ty : TypeId} {tmps : Array Value} {w : World} {ad : Addr} {x y : Value} (h : fn.results = #[.cell p ty, .tmp t]) (hp : tmps.getD p undef = .pointer (some ad)) (ht : tmps.getD t undef = y)
    (hl : (loadVar ty ad).run P w = .ok x w) : (results fn tmps).run P w = .ok (.tuple #[x, y]) w := by
  have hp' : tmps[p]?.getD undef = .pointer (some ad) := by simpa using hp
  have ht' : tmps[t]?.getD undef = y := by simpa using ht
  simp [results, h, hp', ht', asAddr, hl]
theorem J17.ne {U : World} {q p o : Nat} {v0 v1 v2 v3 v4 v5 v6 v7 v8 v9 v10 v11 v12 v13 v14 v15 v16 : Value} (h : J17 U q v0 v1 v2 v3 v4 v5 v6 v7 v8 v9 v10 v11 v12 v13 v14 v15 v16) (x : Value) (hp : p ≠ q) : J17 (U.setCell ⟨p, o, none⟩ x) q v0 v1 v2 v3 v4 v5 v6 v7 v8 v9 v10 v11 v12 v13 v14 v15 v16 := by
  obtain ⟨c0, c1, c2, c3, c4, c5, c6, c7, c8, c9, c10, c11, c12, c13, c14, c15, c16, f0, f1, f2, f3, f4, f5, f6, f7, f8, f9, f10, f11, f12, f13, f14, f15, f16⟩ := h
  have k : ∀ m, (⟨p, o, none⟩ : Addr) ≠ ⟨q, m, none⟩ := fun m e => hp (congrArg Addr.block e)
  exact ⟨(World.cell?_setCell_other _ _ _ _ (k 0)).trans c0, (World.cell?_setCell_other _ _ _ _ (k 1)).trans c1, (World.cell?_setCell_other _ _ _ _ (k 2)).trans c2, (World.cell?_setCell_other _ _ _ _ (k 3)).trans c3, (World.cell?_setCell_other _ _ _ _ (k 4)).trans c4, (World.cell?_setCell_other _ _ _ _ (k 5)).trans c5, (World.cell?_setCell_other _ _ _ _ (k 6)).trans c6, (World.cell?_setCell_other _ _ _ _ (k 7)).trans c7, (World.cell?_setCell_other _ _ _ _ (k 8)).trans c8, (World.cell?_setCell_other _ _ _ _ (k 9)).trans c9, (World.cell?_setCell_other _ _ _ _ (k 10)).trans c10, (World.cell?_setCell_other _ _ _ _ (k 11)).trans c11, (World.cell?_setCell_other _ _ _ _ (k 12)).trans c12, (World.cell?_setCell_other _ _ _ _ (k 13)).trans c13, (World.cell?_setCell_other _ _ _ _ (k 14)).trans c14, (World.cell?_setCell_other _ _ _ _ (k 15)).trans c15, (World.cell?_setCell_other _ _ _ _ (k 16)).trans c16, (World.frozen?_setCell _ _ _ _).trans f0, (World.frozen?_setCell _ _ _ _).trans f1, (World.frozen?_setCell _ _ _ _).trans f2, (World.frozen?_setCell _ _ _ _).trans f3, (World.frozen?_setCell _ _ _ _).trans f4, (World.frozen?_setCell _ _ _ _).trans f5, (World.frozen?_setCell _ _ _ _).trans f6, (World.frozen?_setCell _ _ _ _).trans f7, (World.frozen?_setCell _ _ _ _).trans f8, (World.frozen?_setCell _ _ _ _).trans f9, (World.frozen?_setCell _ _ _ _).trans f10, (World.frozen?_setCell _ _ _ _).trans f11, (World.frozen?_setCell _ _ _ _).trans f12, (World.frozen?_setCell _ _ _ _).trans f13, (World.frozen?_setCell _ _ _ _).trans f14, (World.frozen?_setCell _ _ _ _).trans f15, (World.frozen?_setCell _ _ _ _).trans f16⟩
def jJ : JobV := ⟨1, 1, 0, 2, 5, 0, 0, false, 0, 0, 3, 0, 0, 0#64, 0#64, 0, 0⟩
def jK : JobV := ⟨1, 1, 0, 2, 5, 0, 0, false, 1, 0, 3, 0, 1, 0#64, 17#64, 3, 0⟩
def jD : JobV := ⟨1, 1, 0, 2, 5, 0, 0, false, 2, 0, 3, 0, 1, 0#64, 17#64, 3, 7⟩
theorem begin_j (w : World) : Calls Try.prog 7 #[.agg #[.int .i64 1, .int .i64 1, .int .i64 0, .int .i64 2, .int .i64 5, .int .i64 0, .int .i64 0, .bool false, .int .i64 0, .int .i64 0, .int .i64 3, .int .i64 0, .int .i64 0, .int .u64 0, .int .u64 0, .int .i64 0, .int .i64 0], .int .i64 3, .int .u64 (nv 17#64)] w fun e w' => e = .returned (.tuple #[.agg #[.int .i64 1, .int .i64 1, .int .i64 0, .int .i64 2, .int .i64 5, .int .i64 0, .int .i64 0, .bool false, .int .i64 1, .int .i64 0, .int .i64 3, .int .i64 0, .int .i64 1, .int .u64 0, .int .u64 (nv 17#64), .int .i64 3, .int .i64 0], .int .i64 0]) ∧ Below w.heap.size w w' := by
  have h := begin_any jJ 3 17#64 w
  rw [show beginJ jJ 3 17#64 = (jK, 0) by kernel_rfl] at h
  exact h
theorem stop_k (w : World) : Calls Try.prog 9 #[.agg #[.int .i64 1, .int .i64 1, .int .i64 0, .int .i64 2, .int .i64 5, .int .i64 0, .int .i64 0, .bool false, .int .i64 1, .int .i64 0, .int .i64 3, .int .i64 0, .int .i64 1, .int .u64 0, .int .u64 (nv 17#64), .int .i64 3, .int .i64 0], .int .i64 7, .int .i64 2] w fun e w' => e = .returned (.tuple #[.agg #[.int .i64 1, .int .i64 1, .int .i64 0, .int .i64 2, .int .i64 5, .int .i64 0, .int .i64 0, .bool false, .int .i64 2, .int .i64 0, .int .i64 3, .int .i64 0, .int .i64 1, .int .u64 0, .int .u64 (nv 17#64), .int .i64 3, .int .i64 7], .int .i64 0]) ∧ Below w.heap.size w w' := by
  have h := stop_any jK 7 2 w
  rw [show stopJ jK 7 2 = (jD, 0) by kernel_rfl] at h
  exact h
theorem until_k (w : World) : Calls Try.prog 32 #[.agg #[.int .i64 1, .int .i64 1, .int .i64 0, .int .i64 2, .int .i64 5, .int .i64 0, .int .i64 0, .bool false, .int .i64 1, .int .i64 0, .int .i64 3, .int .i64 0, .int .i64 1, .int .u64 0, .int .u64 (nv 17#64), .int .i64 3, .int .i64 0]] w fun e w' => e = .returned (.int .i64 8) ∧ Below w.heap.size w w' := by
  have h := until_any jK w
  rw [show untilJ jK = 8 by kernel_rfl] at h
  exact h
theorem over_d (w : World) : Calls Try.prog 13 #[.agg #[.int .i64 1, .int .i64 1, .int .i64 0, .int .i64 2, .int .i64 5, .int .i64 0, .int .i64 0, .bool false, .int .i64 2, .int .i64 0, .int .i64 3, .int .i64 0, .int .i64 1, .int .u64 0, .int .u64 (nv 17#64), .int .i64 3, .int .i64 7]] w fun e w' => e = .returned (.bool true) ∧ Below w.heap.size w w' := by
  have h := over_any jD w
  rw [show overB jD = true by kernel_rfl] at h
  exact h
theorem right_j (w : World) : Calls Try.prog 5 #[.agg #[.int .i64 1, .int .i64 1, .int .i64 0, .int .i64 2, .int .i64 5, .int .i64 0, .int .i64 0, .bool false, .int .i64 0, .int .i64 0, .int .i64 3, .int .i64 0, .int .i64 0, .int .u64 0, .int .u64 0, .int .i64 0, .int .i64 0]] w fun e w' => e = .returned (.bool true) ∧ Below w.heap.size w w' := by
  have h := right_any jJ w
  rw [show rightB jJ = true by kernel_rfl] at h
  exact h
end Go.Proofs.Ytgeldpfojmkdbaa
