/- For any job and bytes, the law JobReads of layer 15 returns true, and its arguments read as before, where errors.errorType is laid as the text lays it (the card ties that). No condition. -/
import Derived.Test.YtgeldpfojmkdbaaDoorMa
import Derived.Test.YtgeldpfojmkdbaaDoorMh
import Derived.Deep.MidRow
import Derived.Test.YtgeldpfojmkdbaaDoorMg
import Derived.Test.YtgeldpfojmkdbaaDoorMc
import Derived.Test.YtgeldpfojmkdbaaDoorMf
import Derived.Test.YtgeldpfojmkdbaaDoorMe
import Derived.LaidLaws
import Derived.LaidHandle
import Derived.ChangeVars
import Derived.Stop.Joined
import Derived.JoinedCond
import Derived.Lib.SmallJoins
import Derived.Deep.Slices
import Derived.WideShapes
import Derived.Test.YtgeldpfojmkdbaaDoorCards
import Derived.Test.YtgeldpfojmkdbaaDoorTie
import Derived.Deep.DeepHandedRow
import Derived.Lib.LaidTab
import Derived.ShutString
import Derived.ChangeOld
import Derived.Carry
import Derived.Laws.IdiomArrays
namespace Go.Proofs.YtgeldpfojmkdbaaDoor
set_option linter.unusedVariables false
open Go.ChangeShapes Go.WideShapes Go.ChangeAt Go.RowKit
attribute [local go_sem ↓] Go.wp_at_zero Go.wp_at_succ comesTo_value_eq comesTo_skip_eq comesTo_enter_eq

/-- the set of nodes -/
def ofS (l : List Int) : NSet := l.foldl (fun s n => s ||| oneI n) 0#64
theorem ofS_snoc (l : List Int) (n : Int) : ofS (l ++ [n]) = ofS l ||| oneI n := by unfold ofS; rw [List.foldl_append]; rfl
theorem of_ints (g c : Nat) (l : List Int) (w : World) (hl : l.length ≤ 9223372036854775807) (hc : ∀ k, k < l.length → w.cell? ⟨g, k, none⟩ = some (.int .i64 (l.getD k 0))) :
    Calls Tryd.prog 30 #[.slice (some ⟨g, 0, none⟩) l.length c] w fun e w' => e = .returned (.int .u64 (nv (ofS l))) ∧ w = w' := by
  have HC := Lib.hid hc
  clear hc
  go_enter Tryd.func30, Tryd.ntmps30
  go_wp2
  go_loop [3, 8] (fun s i => ∃ k : Nat, k ≤ l.length ∧ i = .int .i64 k ∧ s = .int .u64 (nv (ofS (l.take k)))) (fun _ i => l.length - (intOf i).toNat)
  case atStart => exact ⟨0, Nat.zero_le _, rfl, rfl⟩
  case round =>
    obtain ⟨k, hk, rfl, rfl⟩ := hrel
    by_cases hlt : k < l.length
    · have hcell := HC.out k hlt
      have e : ofS (l.take (k + 1)) = ofS (l.take k) ||| oneI (l.getD k 0) := by
        rw [List.take_succ_eq_append_getElem hlt, ofS_snoc]
        simp [List.getD, hlt]
      have KW := Lib.hid (fun W => with_any (ofS (l.take k)) (l.getD k 0) W)
      rw [← e] at KW
      clear e
      generalize l.getD k 0 = x at *
      generalize hT : ofS (l.take (k + 1)) = T2 at *
      have HT := Lib.hid hT
      clear hT
      go_wp2_with (go_at_call 39; refine (KW.out _).mono ?_; rintro e w' ⟨rfl, rfl⟩)
      go_round
      case rel => exact ⟨k + 1, by omega, by go_num, by rw [HT.out]⟩
      case measure => simp [intOf]; omega
    · obtain rfl : k = l.length := by omega
      rw [List.take_of_length_le (Nat.le_refl _)]
      go_wp2
      go_ret
      exact ⟨rfl, rfl⟩
/-- numbers that lie in a block -/
theorem of_block (l : List Int) (x : NSet) (hx : ofS l = x) (hl : l.length ≤ 1000) (b : Nat) (W : World) {T : TypeId} (hb : W.heap[b]? = some (.cells (l.map (Value.int .i64)).toArray T (0, 0))) :
    Calls Tryd.prog 30 #[.slice (some ⟨b, 0, none⟩) l.length l.length] W fun e w' => e = .returned (.int .u64 (nv x)) ∧ Below W.heap.size W w' := by
  have := of_ints b l.length l W (by omega) (fun k hk => cell_of_block hb (by simp [hk]))
  rw [hx] at this
  exact this.mono fun _ _ ⟨h1, h2⟩ => ⟨h1, by subst h2; exact Below.refl _ _⟩
end Go.Proofs.YtgeldpfojmkdbaaDoor
namespace Go.Proofs.YtgeldpfojmkdbaaDoor
set_option linter.unusedVariables false
open Go.ChangeShapes Go.WideShapes Go.ChangeAt Go.RowKit
attribute [local go_sem ↓] Go.wp_at_zero Go.wp_at_succ comesTo_value_eq comesTo_skip_eq comesTo_enter_eq

/-- a job in its block -/
structure J17 (U : World) (q : Nat) (v0 v1 v2 v3 v4 v5 v6 v7 v8 v9 v10 v11 v12 v13 v14 v15 v16 : Value) : Prop where
  c0 : U.cell? ⟨q, 0, none⟩ = some v0
  c1 : U.cell? ⟨q, 1, none⟩ = some v1
  c2 : U.cell? ⟨q, 2, none⟩ = some v2
  c3 : U.cell? ⟨q, 3, none⟩ = some v3
  c4 : U.cell? ⟨q, 4, none⟩ = some v4
  c5 : U.cell? ⟨q, 5, none⟩ = some v5
  c6 : U.cell? ⟨q, 6, none⟩ = some v6
  c7 : U.cell? ⟨q, 7, none⟩ = some v7
  c8 : U.cell? ⟨q, 8, none⟩ = some v8
  c9 : U.cell? ⟨q, 9, none⟩ = some v9
  c10 : U.cell? ⟨q, 10, none⟩ = some v10
  c11 : U.cell? ⟨q, 11, none⟩ = some v11
  c12 : U.cell? ⟨q, 12, none⟩ = some v12
  c13 : U.cell? ⟨q, 13, none⟩ = some v13
  c14 : U.cell? ⟨q, 14, none⟩ = some v14
  c15 : U.cell? ⟨q, 15, none⟩ = some v15
  c16 : U.cell? ⟨q, 16, none⟩ = some v16
  f0 : U.frozen? ⟨q, 0, none⟩ = false
  f1 : U.frozen? ⟨q, 1, none⟩ = false
  f2 : U.frozen? ⟨q, 2, none⟩ = false
  f3 : U.frozen? ⟨q, 3, none⟩ = false
  f4 : U.frozen? ⟨q, 4, none⟩ = false
  f5 : U.frozen? ⟨q, 5, none⟩ = false
  f6 : U.frozen? ⟨q, 6, none⟩ = false
  f7 : U.frozen? ⟨q, 7, none⟩ = false
  f8 : U.frozen? ⟨q, 8, none⟩ = false
  f9 : U.frozen? ⟨q, 9, none⟩ = false
  f10 : U.frozen? ⟨q, 10, none⟩ = false
  f11 : U.frozen? ⟨q, 11, none⟩ = false
  f12 : U.frozen? ⟨q, 12, none⟩ = false
  f13 : U.frozen? ⟨q, 13, none⟩ = false
  f14 : U.frozen? ⟨q, 14, none⟩ = false
  f15 : U.frozen? ⟨q, 15, none⟩ = false
  f16 : U.frozen? ⟨q, 16, none⟩ = false
theorem J17.lt {U : World} {q : Nat} {v0 v1 v2 v3 v4 v5 v6 v7 v8 v9 v10 v11 v12 v13 v14 v15 v16 : Value} (h : J17 U q v0 v1 v2 v3 v4 v5 v6 v7 v8 v9 v10 v11 v12 v13 v14 v15 v16) : q < U.heap.size := World.block_lt_of_cell? U _ h.c0
theorem J17.below {U U' : World} {q : Nat} {v0 v1 v2 v3 v4 v5 v6 v7 v8 v9 v10 v11 v12 v13 v14 v15 v16 : Value} (h : J17 U q v0 v1 v2 v3 v4 v5 v6 v7 v8 v9 v10 v11 v12 v13 v14 v15 v16) (hb : Below U.heap.size U U') : J17 U' q v0 v1 v2 v3 v4 v5 v6 v7 v8 v9 v10 v11 v12 v13 v14 v15 v16 := by
  obtain ⟨hc, hf⟩ := bcell hb
  have l := h.lt
  exact ⟨(hc _ 0 l).trans h.c0, (hc _ 1 l).trans h.c1, (hc _ 2 l).trans h.c2, (hc _ 3 l).trans h.c3, (hc _ 4 l).trans h.c4, (hc _ 5 l).trans h.c5, (hc _ 6 l).trans h.c6, (hc _ 7 l).trans h.c7, (hc _ 8 l).trans h.c8, (hc _ 9 l).trans h.c9, (hc _ 10 l).trans h.c10, (hc _ 11 l).trans h.c11, (hc _ 12 l).trans h.c12, (hc _ 13 l).trans h.c13, (hc _ 14 l).trans h.c14, (hc _ 15 l).trans h.c15, (hc _ 16 l).trans h.c16, (hf _ 0 l).trans h.f0, (hf _ 1 l).trans h.f1, (hf _ 2 l).trans h.f2, (hf _ 3 l).trans h.f3, (hf _ 4 l).trans h.f4, (hf _ 5 l).trans h.f5, (hf _ 6 l).trans h.f6, (hf _ 7 l).trans h.f7, (hf _ 8 l).trans h.f8, (hf _ 9 l).trans h.f9, (hf _ 10 l).trans h.f10, (hf _ 11 l).trans h.f11, (hf _ 12 l).trans h.f12, (hf _ 13 l).trans h.f13, (hf _ 14 l).trans h.f14, (hf _ 15 l).trans h.f15, (hf _ 16 l).trans h.f16⟩
theorem J17.new {U : World} {q : Nat} {T : TypeId} {v0 v1 v2 v3 v4 v5 v6 v7 v8 v9 v10 v11 v12 v13 v14 v15 v16 : Value} (h : U.heap[q]? = some (.cells #[v0, v1, v2, v3, v4, v5, v6, v7, v8, v9, v10, v11, v12, v13, v14, v15, v16] T (0, 0))) : J17 U q v0 v1 v2 v3 v4 v5 v6 v7 v8 v9 v10 v11 v12 v13 v14 v15 v16 :=
  ⟨cell_of_block (o := 0) h rfl, cell_of_block (o := 1) h rfl, cell_of_block (o := 2) h rfl, cell_of_block (o := 3) h rfl, cell_of_block (o := 4) h rfl, cell_of_block (o := 5) h rfl, cell_of_block (o := 6) h rfl, cell_of_block (o := 7) h rfl, cell_of_block (o := 8) h rfl, cell_of_block (o := 9) h rfl, cell_of_block (o := 10) h rfl, cell_of_block (o := 11) h rfl, cell_of_block (o := 12) h rfl, cell_of_block (o := 13) h rfl, cell_of_block (o := 14) h rfl, cell_of_block (o := 15) h rfl, cell_of_block (o := 16) h rfl, free_of_block 0 h, free_of_block 1 h, free_of_block 2 h, free_of_block 3 h, free_of_block 4 h, free_of_block 5 h, free_of_block 6 h, free_of_block 7 h, free_of_block 8 h, free_of_block 9 h, free_of_block 10 h, free_of_block 11 h, free_of_block 12 h, free_of_block 13 h, free_of_block 14 h, free_of_block 15 h, free_of_block 16 h⟩
theorem blk_new (w : World) (cs : Array Value) (T : TypeId) : (w.alloc (.cells cs T)).heap[w.heap.size]? = some (.cells cs T (0, 0)) := by show (w.heap.push _)[w.heap.size]? = _; simp
theorem blk_old (w : World) (o : Obj) (q : Nat) (hq : q < w.heap.size) : (w.alloc o).heap[q]? = w.heap[q]? := by show (w.heap.push _)[q]? = _; rw [Array.getElem?_push]; simp [Nat.ne_of_lt hq]
/-- a whole job is stored -/
def put17 (U : World) (q : Nat) (u0 u1 u2 u3 u4 u5 u6 u7 u8 u9 u10 u11 u12 u13 u14 u15 u16 : Value) : World := (((((((((((((((((U.setCell ⟨q, 0, none⟩ u0).setCell ⟨q, 1, none⟩ u1).setCell ⟨q, 2, none⟩ u2).setCell ⟨q, 3, none⟩ u3).setCell ⟨q, 4, none⟩ u4).setCell ⟨q, 5, none⟩ u5).setCell ⟨q, 6, none⟩ u6).setCell ⟨q, 7, none⟩ u7).setCell ⟨q, 8, none⟩ u8).setCell ⟨q, 9, none⟩ u9).setCell ⟨q, 10, none⟩ u10).setCell ⟨q, 11, none⟩ u11).setCell ⟨q, 12, none⟩ u12).setCell ⟨q, 13, none⟩ u13).setCell ⟨q, 14, none⟩ u14).setCell ⟨q, 15, none⟩ u15).setCell ⟨q, 16, none⟩ u16)
theorem J17.put {U : World} {q : Nat} {v0 v1 v2 v3 v4 v5 v6 v7 v8 v9 v10 v11 v12 v13 v14 v15 v16 u0 u1 u2 u3 u4 u5 u6 u7 u8 u9 u10 u11 u12 u13 u14 u15 u16 : Value} (h : J17 U q v0 v1 v2 v3 v4 v5 v6 v7 v8 v9 v10 v11 v12 v13 v14 v15 v16) : J17 (put17 U q u0 u1 u2 u3 u4 u5 u6 u7 u8 u9 u10 u11 u12 u13 u14 u15 u16) q u0 u1 u2 u3 u4 u5 u6 u7 u8 u9 u10 u11 u12 u13 u14 u15 u16 := by
  obtain ⟨c0, c1, c2, c3, c4, c5, c6, c7, c8, c9, c10, c11, c12, c13, c14, c15, c16, f0, f1, f2, f3, f4, f5, f6, f7, f8, f9, f10, f11, f12, f13, f14, f15, f16⟩ := h
  unfold put17
  exact ⟨by go_simp, by go_simp, by go_simp, by go_simp, by go_simp, by go_simp, by go_simp, by go_simp, by go_simp, by go_simp, by go_simp, by go_simp, by go_simp, by go_simp, by go_simp, by go_simp, by go_simp, by go_simp, by go_simp, by go_simp, by go_simp, by go_simp, by go_simp, by go_simp, by go_simp, by go_simp, by go_simp, by go_simp, by go_simp, by go_simp, by go_simp, by go_simp, by go_simp, by go_simp⟩
theorem below_put {w U : World} {q : Nat} (u0 u1 u2 u3 u4 u5 u6 u7 u8 u9 u10 u11 u12 u13 u14 u15 u16 : Value) (h : Below w.heap.size w U) (hq : w.heap.size ≤ q) : Below w.heap.size w (put17 U q u0 u1 u2 u3 u4 u5 u6 u7 u8 u9 u10 u11 u12 u13 u14 u15 u16) := by
  unfold put17
  exact ((((((((((((((((h.setCell hq _).setCell hq _).setCell hq _).setCell hq _).setCell hq _).setCell hq _).setCell hq _).setCell hq _).setCell hq _).setCell hq _).setCell hq _).setCell hq _).setCell hq _).setCell hq _).setCell hq _).setCell hq _).setCell hq _
theorem put17_fold (U : World) (q : Nat) (u0 u1 u2 u3 u4 u5 u6 u7 u8 u9 u10 u11 u12 u13 u14 u15 u16 : Value) : (((((((((((((((((U.setCell ⟨q, 0, none⟩ u0).setCell ⟨q, 1, none⟩ u1).setCell ⟨q, 2, none⟩ u2).setCell ⟨q, 3, none⟩ u3).setCell ⟨q, 4, none⟩ u4).setCell ⟨q, 5, none⟩ u5).setCell ⟨q, 6, none⟩ u6).setCell ⟨q, 7, none⟩ u7).setCell ⟨q, 8, none⟩ u8).setCell ⟨q, 9, none⟩ u9).setCell ⟨q, 10, none⟩ u10).setCell ⟨q, 11, none⟩ u11).setCell ⟨q, 12, none⟩ u12).setCell ⟨q, 13, none⟩ u13).setCell ⟨q, 14, none⟩ u14).setCell ⟨q, 15, none⟩ u15).setCell ⟨q, 16, none⟩ u16) = put17 U q u0 u1 u2 u3 u4 u5 u6 u7 u8 u9 u10 u11 u12 u13 u14 u15 u16 := rfl
theorem J17.s8 {U : World} {q : Nat} {v0 v1 v2 v3 v4 v5 v6 v7 v8 v9 v10 v11 v12 v13 v14 v15 v16 : Value} (h : J17 U q v0 v1 v2 v3 v4 v5 v6 v7 v8 v9 v10 v11 v12 v13 v14 v15 v16) (x : Value) : J17 (U.setCell ⟨q, 8, none⟩ x) q v0 v1 v2 v3 v4 v5 v6 v7 x v9 v10 v11 v12 v13 v14 v15 v16 := by
  obtain ⟨c0, c1, c2, c3, c4, c5, c6, c7, c8, c9, c10, c11, c12, c13, c14, c15, c16, f0, f1, f2, f3, f4, f5, f6, f7, f8, f9, f10, f11, f12, f13, f14, f15, f16⟩ := h
  exact ⟨(World.cell?_setCell_other _ _ _ _ (by intro h; cases h)).trans c0, (World.cell?_setCell_other _ _ _ _ (by intro h; cases h)).trans c1, (World.cell?_setCell_other _ _ _ _ (by intro h; cases h)).trans c2, (World.cell?_setCell_other _ _ _ _ (by intro h; cases h)).trans c3, (World.cell?_setCell_other _ _ _ _ (by intro h; cases h)).trans c4, (World.cell?_setCell_other _ _ _ _ (by intro h; cases h)).trans c5, (World.cell?_setCell_other _ _ _ _ (by intro h; cases h)).trans c6, (World.cell?_setCell_other _ _ _ _ (by intro h; cases h)).trans c7, World.cell?_setCell_same _ _ _ c8, (World.cell?_setCell_other _ _ _ _ (by intro h; cases h)).trans c9, (World.cell?_setCell_other _ _ _ _ (by intro h; cases h)).trans c10, (World.cell?_setCell_other _ _ _ _ (by intro h; cases h)).trans c11, (World.cell?_setCell_other _ _ _ _ (by intro h; cases h)).trans c12, (World.cell?_setCell_other _ _ _ _ (by intro h; cases h)).trans c13, (World.cell?_setCell_other _ _ _ _ (by intro h; cases h)).trans c14, (World.cell?_setCell_other _ _ _ _ (by intro h; cases h)).trans c15, (World.cell?_setCell_other _ _ _ _ (by intro h; cases h)).trans c16, (World.frozen?_setCell _ _ _ _).trans f0, (World.frozen?_setCell _ _ _ _).trans f1, (World.frozen?_setCell _ _ _ _).trans f2, (World.frozen?_setCell _ _ _ _).trans f3, (World.frozen?_setCell _ _ _ _).trans f4, (World.frozen?_setCell _ _ _ _).trans f5, (World.frozen?_setCell _ _ _ _).trans f6, (World.frozen?_setCell _ _ _ _).trans f7, (World.frozen?_setCell _ _ _ _).trans f8, (World.frozen?_setCell _ _ _ _).trans f9, (World.frozen?_setCell _ _ _ _).trans f10, (World.frozen?_setCell _ _ _ _).trans f11, (World.frozen?_setCell _ _ _ _).trans f12, (World.frozen?_setCell _ _ _ _).trans f13, (World.frozen?_setCell _ _ _ _).trans f14, (World.frozen?_setCell _ _ _ _).trans f15, (World.frozen?_setCell _ _ _ _).trans f16⟩
theorem J17.s12 {U : World} {q : Nat} {v0 v1 v2 v3 v4 v5 v6 v7 v8 v9 v10 v11 v12 v13 v14 v15 v16 : Value} (h : J17 U q v0 v1 v2 v3 v4 v5 v6 v7 v8 v9 v10 v11 v12 v13 v14 v15 v16) (x : Value) : J17 (U.setCell ⟨q, 12, none⟩ x) q v0 v1 v2 v3 v4 v5 v6 v7 v8 v9 v10 v11 x v13 v14 v15 v16 := by
  obtain ⟨c0, c1, c2, c3, c4, c5, c6, c7, c8, c9, c10, c11, c12, c13, c14, c15, c16, f0, f1, f2, f3, f4, f5, f6, f7, f8, f9, f10, f11, f12, f13, f14, f15, f16⟩ := h
  exact ⟨(World.cell?_setCell_other _ _ _ _ (by intro h; cases h)).trans c0, (World.cell?_setCell_other _ _ _ _ (by intro h; cases h)).trans c1, (World.cell?_setCell_other _ _ _ _ (by intro h; cases h)).trans c2, (World.cell?_setCell_other _ _ _ _ (by intro h; cases h)).trans c3, (World.cell?_setCell_other _ _ _ _ (by intro h; cases h)).trans c4, (World.cell?_setCell_other _ _ _ _ (by intro h; cases h)).trans c5, (World.cell?_setCell_other _ _ _ _ (by intro h; cases h)).trans c6, (World.cell?_setCell_other _ _ _ _ (by intro h; cases h)).trans c7, (World.cell?_setCell_other _ _ _ _ (by intro h; cases h)).trans c8, (World.cell?_setCell_other _ _ _ _ (by intro h; cases h)).trans c9, (World.cell?_setCell_other _ _ _ _ (by intro h; cases h)).trans c10, (World.cell?_setCell_other _ _ _ _ (by intro h; cases h)).trans c11, World.cell?_setCell_same _ _ _ c12, (World.cell?_setCell_other _ _ _ _ (by intro h; cases h)).trans c13, (World.cell?_setCell_other _ _ _ _ (by intro h; cases h)).trans c14, (World.cell?_setCell_other _ _ _ _ (by intro h; cases h)).trans c15, (World.cell?_setCell_other _ _ _ _ (by intro h; cases h)).trans c16, (World.frozen?_setCell _ _ _ _).trans f0, (World.frozen?_setCell _ _ _ _).trans f1, (World.frozen?_setCell _ _ _ _).trans f2, (World.frozen?_setCell _ _ _ _).trans f3, (World.frozen?_setCell _ _ _ _).trans f4, (World.frozen?_setCell _ _ _ _).trans f5, (World.frozen?_setCell _ _ _ _).trans f6, (World.frozen?_setCell _ _ _ _).trans f7, (World.frozen?_setCell _ _ _ _).trans f8, (World.frozen?_setCell _ _ _ _).trans f9, (World.frozen?_setCell _ _ _ _).trans f10, (World.frozen?_setCell _ _ _ _).trans f11, (World.frozen?_setCell _ _ _ _).trans f12, (World.frozen?_setCell _ _ _ _).trans f13, (World.frozen?_setCell _ _ _ _).trans f14, (World.frozen?_setCell _ _ _ _).trans f15, (World.frozen?_setCell _ _ _ _).trans f16⟩
theorem J17.s14 {U : World} {q : Nat} {v0 v1 v2 v3 v4 v5 v6 v7 v8 v9 v10 v11 v12 v13 v14 v15 v16 : Value} (h : J17 U q v0 v1 v2 v3 v4 v5 v6 v7 v8 v9 v10 v11 v12 v13 v14 v15 v16) (x : Value) : J17 (U.setCell ⟨q, 14, none⟩ x) q v0 v1 v2 v3 v4 v5 v6 v7 v8 v9 v10 v11 v12 v13 x v15 v16 := by
  obtain ⟨c0, c1, c2, c3, c4, c5, c6, c7, c8, c9, c10, c11, c12, c13, c14, c15, c16, f0, f1, f2, f3, f4, f5, f6, f7, f8, f9, f10, f11, f12, f13, f14, f15, f16⟩ := h
  exact ⟨(World.cell?_setCell_other _ _ _ _ (by intro h; cases h)).trans c0, (World.cell?_setCell_other _ _ _ _ (by intro h; cases h)).trans c1, (World.cell?_setCell_other _ _ _ _ (by intro h; cases h)).trans c2, (World.cell?_setCell_other _ _ _ _ (by intro h; cases h)).trans c3, (World.cell?_setCell_other _ _ _ _ (by intro h; cases h)).trans c4, (World.cell?_setCell_other _ _ _ _ (by intro h; cases h)).trans c5, (World.cell?_setCell_other _ _ _ _ (by intro h; cases h)).trans c6, (World.cell?_setCell_other _ _ _ _ (by intro h; cases h)).trans c7, (World.cell?_setCell_other _ _ _ _ (by intro h; cases h)).trans c8, (World.cell?_setCell_other _ _ _ _ (by intro h; cases h)).trans c9, (World.cell?_setCell_other _ _ _ _ (by intro h; cases h)).trans c10, (World.cell?_setCell_other _ _ _ _ (by intro h; cases h)).trans c11, (World.cell?_setCell_other _ _ _ _ (by intro h; cases h)).trans c12, (World.cell?_setCell_other _ _ _ _ (by intro h; cases h)).trans c13, World.cell?_setCell_same _ _ _ c14, (World.cell?_setCell_other _ _ _ _ (by intro h; cases h)).trans c15, (World.cell?_setCell_other _ _ _ _ (by intro h; cases h)).trans c16, (World.frozen?_setCell _ _ _ _).trans f0, (World.frozen?_setCell _ _ _ _).trans f1, (World.frozen?_setCell _ _ _ _).trans f2, (World.frozen?_setCell _ _ _ _).trans f3, (World.frozen?_setCell _ _ _ _).trans f4, (World.frozen?_setCell _ _ _ _).trans f5, (World.frozen?_setCell _ _ _ _).trans f6, (World.frozen?_setCell _ _ _ _).trans f7, (World.frozen?_setCell _ _ _ _).trans f8, (World.frozen?_setCell _ _ _ _).trans f9, (World.frozen?_setCell _ _ _ _).trans f10, (World.frozen?_setCell _ _ _ _).trans f11, (World.frozen?_setCell _ _ _ _).trans f12, (World.frozen?_setCell _ _ _ _).trans f13, (World.frozen?_setCell _ _ _ _).trans f14, (World.frozen?_setCell _ _ _ _).trans f15, (World.frozen?_setCell _ _ _ _).trans f16⟩
theorem J17.s15 {U : World} {q : Nat} {v0 v1 v2 v3 v4 v5 v6 v7 v8 v9 v10 v11 v12 v13 v14 v15 v16 : Value} (h : J17 U q v0 v1 v2 v3 v4 v5 v6 v7 v8 v9 v10 v11 v12 v13 v14 v15 v16) (x : Value) : J17 (U.setCell ⟨q, 15, none⟩ x) q v0 v1 v2 v3 v4 v5 v6 v7 v8 v9 v10 v11 v12 v13 v14 x v16 := by
  obtain ⟨c0, c1, c2, c3, c4, c5, c6, c7, c8, c9, c10, c11, c12, c13, c14, c15, c16, f0, f1, f2, f3, f4, f5, f6, f7, f8, f9, f10, f11, f12, f13, f14, f15, f16⟩ := h
  exact ⟨(World.cell?_setCell_other _ _ _ _ (by intro h; cases h)).trans c0, (World.cell?_setCell_other _ _ _ _ (by intro h; cases h)).trans c1, (World.cell?_setCell_other _ _ _ _ (by intro h; cases h)).trans c2, (World.cell?_setCell_other _ _ _ _ (by intro h; cases h)).trans c3, (World.cell?_setCell_other _ _ _ _ (by intro h; cases h)).trans c4, (World.cell?_setCell_other _ _ _ _ (by intro h; cases h)).trans c5, (World.cell?_setCell_other _ _ _ _ (by intro h; cases h)).trans c6, (World.cell?_setCell_other _ _ _ _ (by intro h; cases h)).trans c7, (World.cell?_setCell_other _ _ _ _ (by intro h; cases h)).trans c8, (World.cell?_setCell_other _ _ _ _ (by intro h; cases h)).trans c9, (World.cell?_setCell_other _ _ _ _ (by intro h; cases h)).trans c10, (World.cell?_setCell_other _ _ _ _ (by intro h; cases h)).trans c11, (World.cell?_setCell_other _ _ _ _ (by intro h; cases h)).trans c12, (World.cell?_setCell_other _ _ _ _ (by intro h; cases h)).trans c13, (World.cell?_setCell_other _ _ _ _ (by intro h; cases h)).trans c14, World.cell?_setCell_same _ _ _ c15, (World.cell?_setCell_other _ _ _ _ (by intro h; cases h)).trans c16, (World.frozen?_setCell _ _ _ _).trans f0, (World.frozen?_setCell _ _ _ _).trans f1, (World.frozen?_setCell _ _ _ _).trans f2, (World.frozen?_setCell _ _ _ _).trans f3, (World.frozen?_setCell _ _ _ _).trans f4, (World.frozen?_setCell _ _ _ _).trans f5, (World.frozen?_setCell _ _ _ _).trans f6, (World.frozen?_setCell _ _ _ _).trans f7, (World.frozen?_setCell _ _ _ _).trans f8, (World.frozen?_setCell _ _ _ _).trans f9, (World.frozen?_setCell _ _ _ _).trans f10, (World.frozen?_setCell _ _ _ _).trans f11, (World.frozen?_setCell _ _ _ _).trans f12, (World.frozen?_setCell _ _ _ _).trans f13, (World.frozen?_setCell _ _ _ _).trans f14, (World.frozen?_setCell _ _ _ _).trans f15, (World.frozen?_setCell _ _ _ _).trans f16⟩
theorem J17.s16 {U : World} {q : Nat} {v0 v1 v2 v3 v4 v5 v6 v7 v8 v9 v10 v11 v12 v13 v14 v15 v16 : Value} (h : J17 U q v0 v1 v2 v3 v4 v5 v6 v7 v8 v9 v10 v11 v12 v13 v14 v15 v16) (x : Value) : J17 (U.setCell ⟨q, 16, none⟩ x) q v0 v1 v2 v3 v4 v5 v6 v7 v8 v9 v10 v11 v12 v13 v14 v15 x := by
  obtain ⟨c0, c1, c2, c3, c4, c5, c6, c7, c8, c9, c10, c11, c12, c13, c14, c15, c16, f0, f1, f2, f3, f4, f5, f6, f7, f8, f9, f10, f11, f12, f13, f14, f15, f16⟩ := h
  exact ⟨(World.cell?_setCell_other _ _ _ _ (by intro h; cases h)).trans c0, (World.cell?_setCell_other _ _ _ _ (by intro h; cases h)).trans c1, (World.cell?_setCell_other _ _ _ _ (by intro h; cases h)).trans c2, (World.cell?_setCell_other _ _ _ _ (by intro h; cases h)).trans c3, (World.cell?_setCell_other _ _ _ _ (by intro h; cases h)).trans c4, (World.cell?_setCell_other _ _ _ _ (by intro h; cases h)).trans c5, (World.cell?_setCell_other _ _ _ _ (by intro h; cases h)).trans c6, (World.cell?_setCell_other _ _ _ _ (by intro h; cases h)).trans c7, (World.cell?_setCell_other _ _ _ _ (by intro h; cases h)).trans c8, (World.cell?_setCell_other _ _ _ _ (by intro h; cases h)).trans c9, (World.cell?_setCell_other _ _ _ _ (by intro h; cases h)).trans c10, (World.cell?_setCell_other _ _ _ _ (by intro h; cases h)).trans c11, (World.cell?_setCell_other _ _ _ _ (by intro h; cases h)).trans c12, (World.cell?_setCell_other _ _ _ _ (by intro h; cases h)).trans c13, (World.cell?_setCell_other _ _ _ _ (by intro h; cases h)).trans c14, (World.cell?_setCell_other _ _ _ _ (by intro h; cases h)).trans c15, World.cell?_setCell_same _ _ _ c16, (World.frozen?_setCell _ _ _ _).trans f0, (World.frozen?_setCell _ _ _ _).trans f1, (World.frozen?_setCell _ _ _ _).trans f2, (World.frozen?_setCell _ _ _ _).trans f3, (World.frozen?_setCell _ _ _ _).trans f4, (World.frozen?_setCell _ _ _ _).trans f5, (World.frozen?_setCell _ _ _ _).trans f6, (World.frozen?_setCell _ _ _ _).trans f7, (World.frozen?_setCell _ _ _ _).trans f8, (World.frozen?_setCell _ _ _ _).trans f9, (World.frozen?_setCell _ _ _ _).trans f10, (World.frozen?_setCell _ _ _ _).trans f11, (World.frozen?_setCell _ _ _ _).trans f12, (World.frozen?_setCell _ _ _ _).trans f13, (World.frozen?_setCell _ _ _ _).trans f14, (World.frozen?_setCell _ _ _ _).trans f15, (World.frozen?_setCell _ _ _ _).trans f16⟩
theorem J17.range {U : World} {q : Nat} {v0 v1 v2 v3 v4 v5 v6 v7 v8 v9 v10 v11 v12 v13 v14 v15 v16 : Value} (h : J17 U q v0 v1 v2 v3 v4 v5 v6 v7 v8 v9 v10 v11 v12 v13 v14 v15 v16) : U.rangeAt q 0 [v0, v1, v2, v3, v4, v5, v6, v7, v8, v9, v10, v11, v12, v13, v14, v15, v16] := by
  intro j v hv
  rw [Nat.zero_add]
  match j, hv with
  | 0, hv => exact Option.some.inj hv ▸ h.c0
  | 1, hv => exact Option.some.inj hv ▸ h.c1
  | 2, hv => exact Option.some.inj hv ▸ h.c2
  | 3, hv => exact Option.some.inj hv ▸ h.c3
  | 4, hv => exact Option.some.inj hv ▸ h.c4
  | 5, hv => exact Option.some.inj hv ▸ h.c5
  | 6, hv => exact Option.some.inj hv ▸ h.c6
  | 7, hv => exact Option.some.inj hv ▸ h.c7
  | 8, hv => exact Option.some.inj hv ▸ h.c8
  | 9, hv => exact Option.some.inj hv ▸ h.c9
  | 10, hv => exact Option.some.inj hv ▸ h.c10
  | 11, hv => exact Option.some.inj hv ▸ h.c11
  | 12, hv => exact Option.some.inj hv ▸ h.c12
  | 13, hv => exact Option.some.inj hv ▸ h.c13
  | 14, hv => exact Option.some.inj hv ▸ h.c14
  | 15, hv => exact Option.some.inj hv ▸ h.c15
  | 16, hv => exact Option.some.inj hv ▸ h.c16
  | n + 17, hv => exact absurd hv (by simp)
theorem J17.there {U : World} {q : Nat} {v0 v1 v2 v3 v4 v5 v6 v7 v8 v9 v10 v11 v12 v13 v14 v15 v16 : Value} (h : J17 U q v0 v1 v2 v3 v4 v5 v6 v7 v8 v9 v10 v11 v12 v13 v14 v15 v16) : U.there q 0 17 := by
  intro j hv
  rw [Nat.zero_add]
  match j, hv with
  | 0, _ => exact ⟨by rw [h.c0]; rfl, h.f0⟩
  | 1, _ => exact ⟨by rw [h.c1]; rfl, h.f1⟩
  | 2, _ => exact ⟨by rw [h.c2]; rfl, h.f2⟩
  | 3, _ => exact ⟨by rw [h.c3]; rfl, h.f3⟩
  | 4, _ => exact ⟨by rw [h.c4]; rfl, h.f4⟩
  | 5, _ => exact ⟨by rw [h.c5]; rfl, h.f5⟩
  | 6, _ => exact ⟨by rw [h.c6]; rfl, h.f6⟩
  | 7, _ => exact ⟨by rw [h.c7]; rfl, h.f7⟩
  | 8, _ => exact ⟨by rw [h.c8]; rfl, h.f8⟩
  | 9, _ => exact ⟨by rw [h.c9]; rfl, h.f9⟩
  | 10, _ => exact ⟨by rw [h.c10]; rfl, h.f10⟩
  | 11, _ => exact ⟨by rw [h.c11]; rfl, h.f11⟩
  | 12, _ => exact ⟨by rw [h.c12]; rfl, h.f12⟩
  | 13, _ => exact ⟨by rw [h.c13]; rfl, h.f13⟩
  | 14, _ => exact ⟨by rw [h.c14]; rfl, h.f14⟩
  | 15, _ => exact ⟨by rw [h.c15]; rfl, h.f15⟩
  | 16, _ => exact ⟨by rw [h.c16]; rfl, h.f16⟩
  | n + 17, hv => exact absurd hv (by omega)
theorem below_setCells {n b : Nat} {w : World} (hn : n ≤ b) : ∀ (l : List Value) (o : Nat) (w' : World), Below n w w' → Below n w (w'.setCells b o l)
  | [], _, _, h => h
  | v :: l, o, _, h => below_setCells hn l (o + 1) _ (h.setCell hn v)
theorem results_cell_tmp {P : Program} {fn : Func} {p t : Tmp} {ty : TypeId} {tmps : Array Value} {w : World} {ad : Addr} {x y : Value} (h : fn.results = #[.cell p ty, .tmp t]) (hp : tmps.getD p undef = .pointer (some ad)) (ht : tmps.getD t undef = y)
    (hl : (loadVar ty ad).run P w = .ok x w) : (results fn tmps).run P w = .ok (.tuple #[x, y]) w := by
  have hp' : tmps[p]?.getD undef = .pointer (some ad) := by simpa using hp
  have ht' : tmps[t]?.getD undef = y := by simpa using ht
  simp [results, h, hp', ht', asAddr, hl]
theorem J17.ne {U : World} {q p o : Nat} {v0 v1 v2 v3 v4 v5 v6 v7 v8 v9 v10 v11 v12 v13 v14 v15 v16 : Value} (h : J17 U q v0 v1 v2 v3 v4 v5 v6 v7 v8 v9 v10 v11 v12 v13 v14 v15 v16) (x : Value) (hp : p ≠ q) : J17 (U.setCell ⟨p, o, none⟩ x) q v0 v1 v2 v3 v4 v5 v6 v7 v8 v9 v10 v11 v12 v13 v14 v15 v16 := by
  obtain ⟨c0, c1, c2, c3, c4, c5, c6, c7, c8, c9, c10, c11, c12, c13, c14, c15, c16, f0, f1, f2, f3, f4, f5, f6, f7, f8, f9, f10, f11, f12, f13, f14, f15, f16⟩ := h
  have k : ∀ m, (⟨p, o, none⟩ : Addr) ≠ ⟨q, m, none⟩ := fun m e => hp (congrArg Addr.block e)
  exact ⟨(World.cell?_setCell_other _ _ _ _ (k 0)).trans c0, (World.cell?_setCell_other _ _ _ _ (k 1)).trans c1, (World.cell?_setCell_other _ _ _ _ (k 2)).trans c2, (World.cell?_setCell_other _ _ _ _ (k 3)).trans c3, (World.cell?_setCell_other _ _ _ _ (k 4)).trans c4, (World.cell?_setCell_other _ _ _ _ (k 5)).trans c5, (World.cell?_setCell_other _ _ _ _ (k 6)).trans c6, (World.cell?_setCell_other _ _ _ _ (k 7)).trans c7, (World.cell?_setCell_other _ _ _ _ (k 8)).trans c8, (World.cell?_setCell_other _ _ _ _ (k 9)).trans c9, (World.cell?_setCell_other _ _ _ _ (k 10)).trans c10, (World.cell?_setCell_other _ _ _ _ (k 11)).trans c11, (World.cell?_setCell_other _ _ _ _ (k 12)).trans c12, (World.cell?_setCell_other _ _ _ _ (k 13)).trans c13, (World.cell?_setCell_other _ _ _ _ (k 14)).trans c14, (World.cell?_setCell_other _ _ _ _ (k 15)).trans c15, (World.cell?_setCell_other _ _ _ _ (k 16)).trans c16, (World.frozen?_setCell _ _ _ _).trans f0, (World.frozen?_setCell _ _ _ _).trans f1, (World.frozen?_setCell _ _ _ _).trans f2, (World.frozen?_setCell _ _ _ _).trans f3, (World.frozen?_setCell _ _ _ _).trans f4, (World.frozen?_setCell _ _ _ _).trans f5, (World.frozen?_setCell _ _ _ _).trans f6, (World.frozen?_setCell _ _ _ _).trans f7, (World.frozen?_setCell _ _ _ _).trans f8, (World.frozen?_setCell _ _ _ _).trans f9, (World.frozen?_setCell _ _ _ _).trans f10, (World.frozen?_setCell _ _ _ _).trans f11, (World.frozen?_setCell _ _ _ _).trans f12, (World.frozen?_setCell _ _ _ _).trans f13, (World.frozen?_setCell _ _ _ _).trans f14, (World.frozen?_setCell _ _ _ _).trans f15, (World.frozen?_setCell _ _ _ _).trans f16⟩
def jJ : JobV := ⟨1, 1, 0, 2, 5, 0, 0, false, 0, 0, 3, 0, 0, 0#64, 0#64, 0, 0⟩
def jK : JobV := ⟨1, 1, 0, 2, 5, 0, 0, false, 1, 0, 3, 0, 1, 0#64, 17#64, 3, 0⟩
def jD : JobV := ⟨1, 1, 0, 2, 5, 0, 0, false, 2, 0, 3, 0, 1, 0#64, 17#64, 3, 7⟩
theorem begin_j (w : World) : Calls Tryd.prog 12 #[.agg #[.int .i64 1, .int .i64 1, .int .i64 0, .int .i64 2, .int .i64 5, .int .i64 0, .int .i64 0, .bool false, .int .i64 0, .int .i64 0, .int .i64 3, .int .i64 0, .int .i64 0, .int .u64 0, .int .u64 0, .int .i64 0, .int .i64 0], .int .i64 3, .int .u64 (nv 17#64)] w fun e w' => e = .returned (.tuple #[.agg #[.int .i64 1, .int .i64 1, .int .i64 0, .int .i64 2, .int .i64 5, .int .i64 0, .int .i64 0, .bool false, .int .i64 1, .int .i64 0, .int .i64 3, .int .i64 0, .int .i64 1, .int .u64 0, .int .u64 (nv 17#64), .int .i64 3, .int .i64 0], .int .i64 0]) ∧ Below w.heap.size w w' := by
  have h := begin_any jJ 3 17#64 w
  rw [show beginJ jJ 3 17#64 = (jK, 0) by kernel_rfl] at h
  exact h
theorem stop_k (w : World) : Calls Tryd.prog 13 #[.agg #[.int .i64 1, .int .i64 1, .int .i64 0, .int .i64 2, .int .i64 5, .int .i64 0, .int .i64 0, .bool false, .int .i64 1, .int .i64 0, .int .i64 3, .int .i64 0, .int .i64 1, .int .u64 0, .int .u64 (nv 17#64), .int .i64 3, .int .i64 0], .int .i64 7, .int .i64 2] w fun e w' => e = .returned (.tuple #[.agg #[.int .i64 1, .int .i64 1, .int .i64 0, .int .i64 2, .int .i64 5, .int .i64 0, .int .i64 0, .bool false, .int .i64 2, .int .i64 0, .int .i64 3, .int .i64 0, .int .i64 1, .int .u64 0, .int .u64 (nv 17#64), .int .i64 3, .int .i64 7], .int .i64 0]) ∧ Below w.heap.size w w' := by
  have h := stop_any jK 7 2 w
  rw [show stopJ jK 7 2 = (jD, 0) by kernel_rfl] at h
  exact h
theorem until_k (w : World) : Calls Tryd.prog 31 #[.agg #[.int .i64 1, .int .i64 1, .int .i64 0, .int .i64 2, .int .i64 5, .int .i64 0, .int .i64 0, .bool false, .int .i64 1, .int .i64 0, .int .i64 3, .int .i64 0, .int .i64 1, .int .u64 0, .int .u64 (nv 17#64), .int .i64 3, .int .i64 0]] w fun e w' => e = .returned (.int .i64 8) ∧ Below w.heap.size w w' := by
  have h := until_any jK w
  rw [show untilJ jK = 8 by kernel_rfl] at h
  exact h
theorem over_d (w : World) : Calls Tryd.prog 17 #[.agg #[.int .i64 1, .int .i64 1, .int .i64 0, .int .i64 2, .int .i64 5, .int .i64 0, .int .i64 0, .bool false, .int .i64 2, .int .i64 0, .int .i64 3, .int .i64 0, .int .i64 1, .int .u64 0, .int .u64 (nv 17#64), .int .i64 3, .int .i64 7]] w fun e w' => e = .returned (.bool true) ∧ Below w.heap.size w w' := by
  have h := over_any jD w
  rw [show overB jD = true by kernel_rfl] at h
  exact h
theorem right_j (w : World) : Calls Tryd.prog 11 #[.agg #[.int .i64 1, .int .i64 1, .int .i64 0, .int .i64 2, .int .i64 5, .int .i64 0, .int .i64 0, .bool false, .int .i64 0, .int .i64 0, .int .i64 3, .int .i64 0, .int .i64 0, .int .u64 0, .int .u64 0, .int .i64 0, .int .i64 0]] w fun e w' => e = .returned (.bool true) ∧ Below w.heap.size w w' := by
  have h := right_any jJ w
  rw [show rightB jJ = true by kernel_rfl] at h
  exact h
end Go.Proofs.YtgeldpfojmkdbaaDoor
namespace Go.Proofs.YtgeldpfojmkdbaaDoor
set_option linter.unusedVariables false
open Go.ChangeShapes Go.WideShapes Go.ChangeAt Go.RowKit
attribute [local go_sem ↓] Go.wp_at_zero Go.wp_at_succ comesTo_value_eq comesTo_skip_eq comesTo_enter_eq

theorem wrote_cells {w0 : World} {b : Nat} {T : TypeId} : ∀ (l : List Value) (o : Nat) (w' : World) (cs : List Value), WroteTo b T cs.toArray w0 w' → o + l.length = cs.length → WroteTo b T (cs.take o ++ l).toArray w0 (w'.setCells b o l)
  | [], o, w', cs, h, hl => by
    rw [List.append_nil, List.take_of_length_le (by simpa using Nat.le_of_eq hl.symm)]
    exact h
  | v :: l, o, w', cs, h, hl => by
    have h1 := h.set o v
    rw [List.setIfInBounds_toArray] at h1
    have h2 := wrote_cells l (o + 1) _ _ h1 (by simp at hl ⊢; omega)
    have ho : o < cs.length := by simp at hl; omega
    have e : (cs.set o v).take (o + 1) ++ l = cs.take o ++ v :: l := by
      rw [List.take_succ_eq_append_getElem (by simpa using ho), List.take_set_of_le (Nat.le_refl _), List.getElem_set_self, List.append_assoc]
      rfl
    rw [e] at h2
    exact h2
theorem wrote_17 {w : World} {b : Nat} {T : TypeId} {v0 v1 v2 v3 v4 v5 v6 v7 v8 v9 v10 v11 v12 v13 v14 v15 v16 u0 u1 u2 u3 u4 u5 u6 u7 u8 u9 u10 u11 u12 u13 u14 u15 u16 : Value} (h : w.heap[b]? = some (.cells #[v0, v1, v2, v3, v4, v5, v6, v7, v8, v9, v10, v11, v12, v13, v14, v15, v16] T (0, 0))) : WroteTo b T #[u0, u1, u2, u3, u4, u5, u6, u7, u8, u9, u10, u11, u12, u13, u14, u15, u16] w (w.setCells b 0 [u0, u1, u2, u3, u4, u5, u6, u7, u8, u9, u10, u11, u12, u13, u14, u15, u16]) :=
  wrote_cells [u0, u1, u2, u3, u4, u5, u6, u7, u8, u9, u10, u11, u12, u13, u14, u15, u16] 0 w [v0, v1, v2, v3, v4, v5, v6, v7, v8, v9, v10, v11, v12, v13, v14, v15, v16] (wrote_refl h) rfl
theorem exec_store_mid {P : Program} {op : Oper} {ρ : Operand → Value} {w : World} (ty : TypeId) (x y : Operand) (ho : op.op = .store ty x y) (b o : Nat) (cells : Array Value) (hx : ρ x = .pointer (some ⟨b, o, none⟩)) (hy : ρ y = .agg cells)
    (ht : w.there b o cells.size) (hi : (P.info? ty).map (·.size) = some cells.size) (h1 : cells.all (·.oneCell') = true) : (execOp ρ op).run P w = .ok .skip (w.setCells b o cells.toList) := by
  unfold execOp
  simp only [ho, hx, hy, Instr.storeAt, Instr.sureAddr, Sem.run_bind, Sem.run_pure, Result.andThen_ok, run_storeVar_mid w b o ty cells ht hi h1]
theorem wpList_val {P : Program} {ops : Array Oper} {rest : List Oper} {o : Oper} {a : Act} {w w' : World} {v : Value} {Q : Exit → Act → World → Prop} (hgd : o.guard = none) (h : (execOp a.eval o).run P w = .ok (.value v) w') (hr : wpList P ops Q rest (a.put o.dst v) w') : wpList P ops Q (o :: rest) a w :=
  wpList_plain hgd fun _ hK => by unfold Oper.wp; rw [h]; exact hK _ _ hr
theorem of04 (b : Nat) (W : World) (hb : W.heap[b]? = some (.cells #[.int .i64 0, .int .i64 4] 3 (0, 0))) : Calls Tryd.prog 30 #[.slice (some ⟨b, 0, none⟩) 2 2] W fun e w' => e = .returned (.int .u64 (nv 17#64)) ∧ Below W.heap.size W w' := of_block [0, 4] 17#64 (by decide) (by decide) b W hb
set_option maxRecDepth 100000 in
set_option maxHeartbeats 4000000 in
theorem job_one (w : World) : Calls Tryd.prog 10 #[] w fun e w' => e = .returned (.bool true) ∧ Below w.heap.size w w' := by
  go_enter Tryd.func10, Tryd.ntmps10
  go_upto_region 2 with fail
  generalize hW : w.alloc (.cells #[.int .i64 1, .int .i64 1, .int .i64 0, .int .i64 2, .int .i64 5, .int .i64 0, .int .i64 0, .bool false, .int .i64 0, .int .i64 0, .int .i64 3, .int .i64 0, .int .i64 0, .int .u64 0, .int .u64 0, .int .i64 0, .int .i64 0] 26) = U
  have hJ : J17 U w.heap.size (.int .i64 1) (.int .i64 1) (.int .i64 0) (.int .i64 2) (.int .i64 5) (.int .i64 0) (.int .i64 0) (.bool false) (.int .i64 0) (.int .i64 0) (.int .i64 3) (.int .i64 0) (.int .i64 0) (.int .u64 0) (.int .u64 0) (.int .i64 0) (.int .i64 0) := by rw [← hW]; exact J17.new (blk_new _ _ _)
  have HB := Lib.hid (show Below w.heap.size w U by rw [← hW]; exact (by repeat (first | exact Below.refl _ _ | assumption | refine below_drewN ?_ _ | refine Below.drew ?_ | refine below_alloc ?_ _ | refine Below.alloc ?_ (by first | omega | (simp; done) | (simp; omega)) _ | refine Below.setCell ?_ (Below.size (by assumption)) _ | refine Below.setCell ?_ (by first | omega | (simp; done) | (simp; omega)) _ | (refine Below.trans ?_ (Below.mono (by assumption) (by first | omega | (simp; done) | (simp; omega)))) | refine below_next ?_ (by assumption))))
  clear hW
  have l0 := hJ.lt
  have HJ := Lib.hid hJ
  obtain ⟨c0, c1, c2, c3, c4, c5, c6, c7, c8, c9, c10, c11, c12, c13, c14, c15, c16, f0, f1, f2, f3, f4, f5, f6, f7, f8, f9, f10, f11, f12, f13, f14, f15, f16⟩ := hJ
  refine Bld.wp_region_build U (by kernel_rfl) (by kernel_rfl) (Below.refl _ _) ?_
  (refine Bld.textB_det ?_ rfl rfl rfl ?_ (fun W hS => ?_) ?_; rotate_left; (focus go_simp); (focus (obtain ⟨hc, hf⟩ := bcell hS; go_simp; first | (refine ⟨?_, Below.refl _ _⟩; rfl) | rfl | exact Below.refl _ _)); (try go_simp))
  clear c0 c1 c2 c3 c4 c5 c6 c7 c8 c9 c10 c11 c12 c13 c14 c15 c16 f0 f1 f2 f3 f4 f5 f6 f7 f8 f9 f10 f11 f12 f13 f14 f15 f16
  (refine Bld.textB_al _ ((3), (#[.int .i64 0, .int .i64 4]), (some 2)) rfl rfl rfl rfl (fun W => ?_) ?_; (focus (first | rfl | (go_simp; done) | (go_simp; rfl))); (try go_simp))
  (refine Bld.textB_use ?_ (9) _ rfl rfl rfl rfl (fun b => ?_) (fun b W hS hB hb => ?_) ?_; rotate_left; (focus go_simp); (focus (go_simp; refine (of04 b W hb).mono ?_; rintro e w1 ⟨rfl, hbb⟩; refine ⟨?_, hbb⟩; rfl)); (try go_simp))
  (refine Bld.textB_det ?_ rfl rfl rfl ?_ (fun W hS => ?_) ?_; rotate_left; (focus go_simp); (focus (obtain ⟨hc, hf⟩ := bcell hS; go_simp; refine (begin_j _).mono ?_; rintro e w1 ⟨rfl, hb⟩; refine ⟨?_, hb⟩; rfl)); (try go_simp))
  (refine Bld.textB_det ?_ rfl rfl rfl ?_ (fun W hS => ?_) ?_; rotate_left; (focus go_simp); (focus (obtain ⟨hc, hf⟩ := bcell hS; go_simp; first | (refine ⟨?_, Below.refl _ _⟩; rfl) | rfl | exact Below.refl _ _)); (try go_simp))
  (refine Bld.textB_det ?_ rfl rfl rfl ?_ (fun W hS => ?_) ?_; rotate_left; (focus go_simp); (focus (obtain ⟨hc, hf⟩ := bcell hS; go_simp; first | (refine ⟨?_, Below.refl _ _⟩; rfl) | rfl | exact Below.refl _ _)); (try go_simp))
  (refine Bld.textB_det ?_ rfl rfl rfl ?_ (fun W hS => ?_) ?_; rotate_left; (focus go_simp); (focus (obtain ⟨hc, hf⟩ := bcell hS; go_simp; first | (refine ⟨?_, Below.refl _ _⟩; rfl) | rfl | exact Below.refl _ _)); (try go_simp))
  (refine Bld.textB_al _ ((26), (#[.int .i64 0, .int .i64 0, .int .i64 0, .int .i64 0, .int .i64 0, .int .i64 0, .int .i64 0, .bool false, .int .i64 0, .int .i64 0, .int .i64 0, .int .i64 0, .int .i64 0, .int .u64 0, .int .u64 0, .int .i64 0, .int .i64 0]), (none)) rfl rfl rfl rfl (fun W => ?_) ?_; (focus (first | rfl | (go_simp; done) | (go_simp; rfl))); (try go_simp))
  (refine Bld.textB_st _ _ (#[.int .i64 1, .int .i64 1, .int .i64 0, .int .i64 2, .int .i64 5, .int .i64 0, .int .i64 0, .bool false, .int .i64 1, .int .i64 0, .int .i64 3, .int .i64 0, .int .i64 1, .int .u64 0, .int .u64 (nv 17#64), .int .i64 3, .int .i64 0]) rfl rfl rfl rfl rfl (fun b W hb => ?_) ?_; (focus (refine ⟨_, ?_, wrote_17 hb⟩; exact exec_store_mid 26 _ _ rfl b 0 #[.int .i64 1, .int .i64 1, .int .i64 0, .int .i64 2, .int .i64 5, .int .i64 0, .int .i64 0, .bool false, .int .i64 1, .int .i64 0, .int .i64 3, .int .i64 0, .int .i64 1, .int .u64 0, .int .u64 (nv 17#64), .int .i64 3, .int .i64 0] (by first | (go_simp; done) | (go_simp; rfl)) (by first | (go_simp; done) | (go_simp; rfl)) (J17.there (J17.new hb)) (by kernel_rfl) (by first | kernel_rfl | (simp [Value.oneCell']; done)))); (try go_simp))
  (refine Bld.textB_det ?_ rfl rfl rfl ?_ (fun W hS => ?_) ?_; rotate_left; (focus go_simp); (focus (obtain ⟨hc, hf⟩ := bcell hS; go_simp; first | (refine ⟨?_, Below.refl _ _⟩; rfl) | rfl | exact Below.refl _ _)); (try go_simp))
  intro blk w1 hb1 hbx hbd
  have hk : J17 w1 (blk 2) (.int .i64 1) (.int .i64 1) (.int .i64 0) (.int .i64 2) (.int .i64 5) (.int .i64 0) (.int .i64 0) (.bool false) (.int .i64 1) (.int .i64 0) (.int .i64 3) (.int .i64 0) (.int .i64 1) (.int .u64 0) (.int .u64 (nv 17#64)) (.int .i64 3) (.int .i64 0) := J17.new (hbx _ List.mem_cons_self).2
  clear hbx hbd
  simp only [Bld.putZ, Bld.mkVal]
  generalize blk 2 = q2 at *
  generalize blk 9 = z9 at *
  clear blk l0
  have tJ := J17.below HJ.out hb1
  have HB1 := Lib.hid (below_next HB.out hb1)
  clear HJ hb1 HB
  have HJ := Lib.hid tJ
  have HK := Lib.hid hk
  clear tJ hk
  go_upto_region 3 with fail
  as_aux_lemma =>
  refine wp_region_lit ?_
  refine wpList_load_mid rfl 26 _ rfl q2 0 (by go_simp) [.int .i64 1, .int .i64 1, .int .i64 0, .int .i64 2, .int .i64 5, .int .i64 0, .int .i64 0, .bool false, .int .i64 1, .int .i64 0, .int .i64 3, .int .i64 0, .int .i64 1, .int .u64 0, .int .u64 (nv 17#64), .int .i64 3, .int .i64 0] _ (J17.range HK.out) Tryd.underlying26 rfl (by kernel_rfl) ?_
  go_wp2_with fail
  refine (stop_k _).mono ?_
  rintro e w2 ⟨rfl, hb2⟩
  have tHJ := J17.below HJ.out hb2
  have tHK := J17.below HK.out hb2
  have HB2 := Lib.hid (below_next HB1.out hb2)
  clear HJ HK hb2 HB1
  have HJ := Lib.hid tHJ
  clear tHJ
  have HK := Lib.hid tHK
  clear tHK
  rename_i hK
  refine hK _ _ ?_
  as_aux_lemma =>
  refine wpList_val (w' := w2) (v := .tuple #[.agg #[.int .i64 1, .int .i64 1, .int .i64 0, .int .i64 2, .int .i64 5, .int .i64 0, .int .i64 0, .bool false, .int .i64 2, .int .i64 0, .int .i64 3, .int .i64 0, .int .i64 1, .int .u64 0, .int .u64 (nv 17#64), .int .i64 3, .int .i64 7], .int .i64 0]) rfl (by first | (go_simp; done) | (go_simp; rfl)) ?_
  refine wpList_val (w' := w2) (v := .agg #[.int .i64 1, .int .i64 1, .int .i64 0, .int .i64 2, .int .i64 5, .int .i64 0, .int .i64 0, .bool false, .int .i64 2, .int .i64 0, .int .i64 3, .int .i64 0, .int .i64 1, .int .u64 0, .int .u64 (nv 17#64), .int .i64 3, .int .i64 7]) rfl (by first | (go_simp; done) | (go_simp; rfl)) ?_
  refine wpList_val (w' := w2) (v := .int .i64 0) rfl (by first | (go_simp; done) | (go_simp; rfl)) ?_
  refine wpList_val (w' := w2.alloc (.cells #[.int .i64 0, .int .i64 0, .int .i64 0, .int .i64 0, .int .i64 0, .int .i64 0, .int .i64 0, .bool false, .int .i64 0, .int .i64 0, .int .i64 0, .int .i64 0, .int .i64 0, .int .u64 0, .int .u64 0, .int .i64 0, .int .i64 0] 26)) (v := .pointer (some ⟨w2.heap.size, 0, none⟩)) rfl (by first | rfl | (go_simp; done) | (go_simp; rfl)) ?_
  have hn : (w2.alloc (.cells #[.int .i64 0, .int .i64 0, .int .i64 0, .int .i64 0, .int .i64 0, .int .i64 0, .int .i64 0, .bool false, .int .i64 0, .int .i64 0, .int .i64 0, .int .i64 0, .int .i64 0, .int .u64 0, .int .u64 0, .int .i64 0, .int .i64 0] 26)).heap[w2.heap.size]? = some (.cells #[.int .i64 0, .int .i64 0, .int .i64 0, .int .i64 0, .int .i64 0, .int .i64 0, .int .i64 0, .bool false, .int .i64 0, .int .i64 0, .int .i64 0, .int .i64 0, .int .i64 0, .int .u64 0, .int .u64 0, .int .i64 0, .int .i64 0] 26 (0, 0)) := blk_new _ _ _
  have hba : Below w2.heap.size w2 (w2.alloc (.cells #[.int .i64 0, .int .i64 0, .int .i64 0, .int .i64 0, .int .i64 0, .int .i64 0, .int .i64 0, .bool false, .int .i64 0, .int .i64 0, .int .i64 0, .int .i64 0, .int .i64 0, .int .u64 0, .int .u64 0, .int .i64 0, .int .i64 0] 26)) := below_alloc (Below.refl _ _) _
  generalize w2.alloc (.cells #[.int .i64 0, .int .i64 0, .int .i64 0, .int .i64 0, .int .i64 0, .int .i64 0, .int .i64 0, .bool false, .int .i64 0, .int .i64 0, .int .i64 0, .int .i64 0, .int .i64 0, .int .u64 0, .int .u64 0, .int .i64 0, .int .i64 0] 26) = w3 at *
  refine wpList_store_mid rfl 26 _ _ rfl w2.heap.size 0 #[.int .i64 1, .int .i64 1, .int .i64 0, .int .i64 2, .int .i64 5, .int .i64 0, .int .i64 0, .bool false, .int .i64 2, .int .i64 0, .int .i64 3, .int .i64 0, .int .i64 1, .int .u64 0, .int .u64 (nv 17#64), .int .i64 3, .int .i64 7] (by go_simp) (by go_simp) (J17.there (J17.new hn)) (by kernel_rfl) (by first | kernel_rfl | (simp [Value.oneCell']; done)) ?_
  have hd : J17 (w3.setCells w2.heap.size 0 [.int .i64 1, .int .i64 1, .int .i64 0, .int .i64 2, .int .i64 5, .int .i64 0, .int .i64 0, .bool false, .int .i64 2, .int .i64 0, .int .i64 3, .int .i64 0, .int .i64 1, .int .u64 0, .int .u64 (nv 17#64), .int .i64 3, .int .i64 7]) w2.heap.size (.int .i64 1) (.int .i64 1) (.int .i64 0) (.int .i64 2) (.int .i64 5) (.int .i64 0) (.int .i64 0) (.bool false) (.int .i64 2) (.int .i64 0) (.int .i64 3) (.int .i64 0) (.int .i64 1) (.int .u64 0) (.int .u64 (nv 17#64)) (.int .i64 3) (.int .i64 7) := J17.new (wrote_17 hn).there
  have hb3 := below_setCells (Nat.le_refl _) [.int .i64 1, .int .i64 1, .int .i64 0, .int .i64 2, .int .i64 5, .int .i64 0, .int .i64 0, .bool false, .int .i64 2, .int .i64 0, .int .i64 3, .int .i64 0, .int .i64 1, .int .u64 0, .int .u64 (nv 17#64), .int .i64 3, .int .i64 7] 0 _ hba
  change wpList _ _ _ _ _ (w3.setCells w2.heap.size 0 [.int .i64 1, .int .i64 1, .int .i64 0, .int .i64 2, .int .i64 5, .int .i64 0, .int .i64 0, .bool false, .int .i64 2, .int .i64 0, .int .i64 3, .int .i64 0, .int .i64 1, .int .u64 0, .int .u64 (nv 17#64), .int .i64 3, .int .i64 7])
  generalize w3.setCells w2.heap.size 0 [.int .i64 1, .int .i64 1, .int .i64 0, .int .i64 2, .int .i64 5, .int .i64 0, .int .i64 0, .bool false, .int .i64 2, .int .i64 0, .int .i64 3, .int .i64 0, .int .i64 1, .int .u64 0, .int .u64 (nv 17#64), .int .i64 3, .int .i64 7] = w4 at *
  clear hn hba
  have HD := Lib.hid hd
  clear hd
  generalize hq4 : w2.heap.size = q4 at *
  have hb3' : Below w2.heap.size w2 w4 := by rw [hq4]; exact hb3
  have tJ := J17.below HJ.out hb3'
  have tK := J17.below HK.out hb3'
  have HB4 := Lib.hid (below_next HB2.out hb3')
  clear HJ HK HB2 hb3 hb3' hq4
  have HJ := Lib.hid tJ
  have HK := Lib.hid tK
  clear tJ tK w3
  go_upto_region 4 with fail
  as_aux_lemma =>
  obtain ⟨c0, c1, c2, c3, c4, c5, c6, c7, c8, c9, c10, c11, c12, c13, c14, c15, c16, f0, f1, f2, f3, f4, f5, f6, f7, f8, f9, f10, f11, f12, f13, f14, f15, f16⟩ := HK.out
  go_wp2_with fail
  as_aux_lemma =>
  clear c0 c1 c2 c3 c4 c5 c6 c7 c8 c9 c10 c11 c12 c13 c14 c15 c16 f0 f1 f2 f3 f4 f5 f6 f7 f8 f9 f10 f11 f12 f13 f14 f15 f16
  refine (until_k _).mono ?_
  rintro e w5 ⟨rfl, hb5⟩
  have tHJ := J17.below HJ.out hb5
  have tHK := J17.below HK.out hb5
  have tHD := J17.below HD.out hb5
  have HB5 := Lib.hid (below_next HB4.out hb5)
  clear HJ HK HD hb5 HB4
  have HJ := Lib.hid tHJ
  clear tHJ
  have HK := Lib.hid tHK
  clear tHK
  have HD := Lib.hid tHD
  clear tHD
  rename_i hK
  refine hK _ _ ?_
  as_aux_lemma =>
  obtain ⟨c0, c1, c2, c3, c4, c5, c6, c7, c8, c9, c10, c11, c12, c13, c14, c15, c16, f0, f1, f2, f3, f4, f5, f6, f7, f8, f9, f10, f11, f12, f13, f14, f15, f16⟩ := HD.out
  go_wp2_with fail
  as_aux_lemma =>
  clear c0 c1 c2 c3 c4 c5 c6 c7 c8 c9 c10 c11 c12 c13 c14 c15 c16 f0 f1 f2 f3 f4 f5 f6 f7 f8 f9 f10 f11 f12 f13 f14 f15 f16
  refine (over_d _).mono ?_
  rintro e w6 ⟨rfl, hb6⟩
  have tHJ := J17.below HJ.out hb6
  have tHK := J17.below HK.out hb6
  have tHD := J17.below HD.out hb6
  have HB6 := Lib.hid (below_next HB5.out hb6)
  clear HJ HK HD hb6 HB5
  have HJ := Lib.hid tHJ
  clear tHJ
  have HK := Lib.hid tHK
  clear tHK
  have HD := Lib.hid tHD
  clear tHD
  rename_i hK
  refine hK _ _ ?_
  as_aux_lemma =>
  obtain ⟨c0, c1, c2, c3, c4, c5, c6, c7, c8, c9, c10, c11, c12, c13, c14, c15, c16, f0, f1, f2, f3, f4, f5, f6, f7, f8, f9, f10, f11, f12, f13, f14, f15, f16⟩ := HJ.out
  go_wp2_with fail
  as_aux_lemma =>
  clear c0 c1 c2 c3 c4 c5 c6 c7 c8 c9 c10 c11 c12 c13 c14 c15 c16 f0 f1 f2 f3 f4 f5 f6 f7 f8 f9 f10 f11 f12 f13 f14 f15 f16
  refine (right_j _).mono ?_
  rintro e w7 ⟨rfl, hb7⟩
  have tHJ := J17.below HJ.out hb7
  have tHK := J17.below HK.out hb7
  have tHD := J17.below HD.out hb7
  have HB7 := Lib.hid (below_next HB6.out hb7)
  clear HJ HK HD hb7 HB6
  have HJ := Lib.hid tHJ
  clear tHJ
  have HK := Lib.hid tHK
  clear tHK
  have HD := Lib.hid tHD
  clear tHD
  rename_i hK
  refine hK _ _ ?_
  go_wp2
  go_ret
  exact ⟨rfl, HB7.out⟩
end Go.Proofs.YtgeldpfojmkdbaaDoor
namespace Go.Proofs.YtgeldpfojmkdbaaDoor
set_option linter.unusedVariables false
open Go.ChangeShapes Go.WideShapes Go.ChangeAt Go.RowKit
attribute [local go_sem ↓] Go.wp_at_zero Go.wp_at_succ comesTo_value_eq comesTo_skip_eq comesTo_enter_eq Rl.comesToR_value_eq Rl.comesToR_skip_eq Rl.comesToR_enter_eq

theorem fieldsJR : (Tryd.prog.fieldsOf 32).toList.map (fun f => (f.name != "_", f.offset)) = (List.range 17).map fun i => (true, i) := by kernel_rfl
theorem ftJR : (Tryd.prog.fieldsOf 32).toList.all (fun f => if f.offset = 7 then (match Tryd.prog.underlying f.type with | some .bool => true | _ => false) else (match Tryd.prog.underlying f.type with | some (.int _) => true | _ => false)) = true := by kernel_rfl
theorem eqinJR (a b : JobV) (w : World) : (Op.equalIn 10000 32 (.agg (jobC a).toArray) (.agg (jobC b).toArray)).run Tryd.prog w = .ok (keyJ a == keyJ b) w := by
  have hS : Tryd.prog.underlying 32 = some (.struct (Tryd.prog.fieldsOf 32)) := by kernel_rfl
  have hp : Tryd.prog.stoodInHeld 32 = false := by kernel_rfl
  refine (run_equalIn_struct w 9999 _ _ _ hS hp).trans ?_
  have hall : (Tryd.prog.fieldsOf 32).toList.all (fun f => (keyJ a).getD f.offset 0 == (keyJ b).getD f.offset 0) = (keyJ a == keyJ b) := by
    rw [← all_range_ints (keyJ a) (keyJ b) rfl, show (keyJ a).length = 17 from rfl]
    have h1 : (Tryd.prog.fieldsOf 32).toList.map (fun f => f.offset) = List.range 17 := by
      have := congrArg (List.map Prod.snd) fieldsJR
      rw [List.map_map, List.map_map] at this
      exact this.trans rfl
    rw [← h1, List.all_map]
    rfl
  rw [run_eqFields_all w (fun f => (keyJ a).getD f.offset 0 == (keyJ b).getD f.offset 0), hall]
  · intro f hf
    have hm : (f.name != "_", f.offset) ∈ (List.range 17).map fun i => (true, i) := by
      rw [← fieldsJR]; exact List.mem_map.2 ⟨f, hf, rfl⟩
    obtain ⟨i, hi, he⟩ := List.mem_map.1 hm
    rw [List.mem_range] at hi
    injection he with he1 he2
    refine ⟨by simpa using he1.symm, ?_⟩
    have ht := List.all_eq_true.1 ftJR f hf
    by_cases h7 : f.offset = 7
    · rw [if_pos h7] at ht
      have hu : Tryd.prog.underlying f.type = some .bool := by
        revert ht
        cases Tryd.prog.underlying f.type with
        | none => intro h; cases h
        | some d => cases d <;> intro h <;> first | rfl | cases h
      refine ⟨.bool a.hold, .bool b.hold, ?_, ?_, ?_⟩
      · have := jobC_at7 a
        simp only [part, isAgg, Sem.run_bind, run_underlying hu, Result.andThen_ok, h7, this]
        simp
      · have := jobC_at7 b
        simp only [part, isAgg, Sem.run_bind, run_underlying hu, Result.andThen_ok, h7, this]
        simp
      · refine (run_equalIn_bool w 9998 _ _ _ hu).trans ?_
        rw [h7, show (a.hold == b.hold) = ((keyJ a).getD 7 0 == (keyJ b).getD 7 0) by
          show (a.hold == b.hold) = (holdN a.hold == holdN b.hold)
          cases a.hold <;> cases b.hold <;> decide]
    · rw [if_neg h7] at ht
      obtain ⟨k, hu⟩ : ∃ k, Tryd.prog.underlying f.type = some (.int k) := by
        revert ht
        cases Tryd.prog.underlying f.type with
        | none => intro h; cases h
        | some d => cases d <;> intro h <;> first | exact ⟨_, rfl⟩ | cases h
      have hlt : f.offset < 17 := by omega
      refine ⟨.int (kindJ f.offset) ((keyJ a).getD f.offset 0), .int (kindJ f.offset) ((keyJ b).getD f.offset 0), ?_, ?_, ?_⟩
      · have := jobC_at a hlt h7
        simp only [part, isAgg, Sem.run_bind, run_underlying hu, Result.andThen_ok, this]
        simp
      · have := jobC_at b hlt h7
        simp only [part, isAgg, Sem.run_bind, run_underlying hu, Result.andThen_ok, this]
        simp
      · exact run_equalIn_int w 9998 _ _ k _ _ hu
set_option maxRecDepth 100000 in
set_option maxHeartbeats 4000000 in
theorem jobreads_no (j : JobV) (ad : Option Addr) (n c : Nat) (hn : 1000 < n) (w : World) : Calls Tryd.prog 3 #[.agg (jobC j).toArray, .slice ad n c] w fun e w' => e = .returned (.bool true) ∧ Below w.heap.size w w' := by
  have hd : decide ((n : Int) > 1000) = true := decide_eq_true (by omega)
  generalize jobC j = l at *
  have HB := Lib.hid (below_alloc (Below.refl _ w) (.cells l.toArray 26))
  go_enter Tryd.func3, Tryd.ntmps3
  go_upto_region 1 with fail
  generalize w.alloc (.cells l.toArray 26) = U at *
  go_wp2_with fail
  go_ret
  exact ⟨rfl, HB.out⟩
set_option maxRecDepth 100000 in
set_option maxHeartbeats 16000000 in
theorem jobreads_yes (j : JobV) (hj : j.Ok) (ad : Option Addr) (n c : Nat) (bs : List Int) (hn : n ≤ 1000) (w : World) (ht : TxtAt w (.slice ad n c) bs) (hE : ErrAt w) : Calls Tryd.prog 3 #[.agg (jobC j).toArray, .slice ad n c] w fun e w' => e = .returned (.bool true) ∧ Below w.heap.size w w' := by
  have hmx : Tryd.prog.follows .mixedOrders = true := by kernel_rfl
  have hd0 : decide ((n : Int) > 1000) = false := decide_eq_false (by omega)
  have hnb : n = bs.length := ht.form.1
  have HCV := Lib.hid (fun W (hb : Below w.heap.size w W) => txt_conv ht W hb)
  have KP := Lib.hid (fun (W : World) (hb : Below w.heap.size w W) => put_any j hj (ht.below hb) (by omega))
  have KJ := Lib.hid (fun (W : World) (hb : Below w.heap.size w W) => jread_any (ht.below hb) (by omega) (hE.below hb))
  have hbb : ∀ x ∈ bs, 0 ≤ x ∧ x ≤ 255 := by
    intro x hx
    obtain ⟨i, hi, rfl⟩ := List.getElem_of_mem hx
    have h1 := ht.bytes.1 i hi
    have h2 := ht.bytes.2 i hi
    simp only [List.getD, List.getElem?_eq_getElem hi, Option.getD_some] at h1 h2
    omega
  have KR := Lib.hid (fun (W : World) => rread_any bs hbb (by omega) W)
  have KQ := Lib.hid (fun (W : World) => rput15_any j hj bs (by omega) W)
  have KO := Lib.hid (fun (W : World) => own15_any j W)
  have KG := Lib.hid (fun (W : World) => own15_any (gotJ bs) W)
  have K1 := Lib.hid (fun (W : World) => job_one W)
  have HLJ := Lib.hid (jobC_len j)
  have HLG := Lib.hid (jobC_len (gotJ bs))
  have HJ1 := Lib.hid (jobC_one j)
  have HG1 := Lib.hid (jobC_one (gotJ bs))
  have KEQ := Lib.hid (fun (W : World) => show (Op.equalIn 10000 32 (.agg (jobC (gotJ bs)).toArray) (.agg (jobC (gotJ bs)).toArray)).run Tryd.prog W = .ok true W from (eqinJR _ _ W).trans (by rw [(keyJ_eq _ _).2 rfl]))
  have HN0 := Lib.hid ht.form.1
  clear ht hE hn hj hnb hbb
  generalize hS : strOfNums bs = S at *
  clear hS
  generalize hS1 : strOfNums (bs ++ putJ j) = S1 at *
  have HS1 := Lib.hid hS1
  clear hS1
  generalize jobC j = lj at *
  generalize jobC (gotJ bs) = lg at *
  generalize cntJ bs = cnt at *
  generalize codeJ bs = code at *
  have HB0 := Lib.hid (below_alloc (Below.refl _ w) (.cells lj.toArray 26))
  have HC0 := Lib.hid (World.alloc_heap_new w (.cells lj.toArray 26))
  go_enter Tryd.func3, Tryd.ntmps3
  go_upto_region 1 with fail
  generalize w.alloc (.cells lj.toArray 26) = U at *
  go_upto_region 3 with fail
  refine wp_region_lit ?_
  refine wpList_yield (w' := U) (v := .slice ad n c) rfl (by first | (go_simp; done) | (go_simp; rfl)) ?_
  refine wpList_enter rfl (by go_simp) (KJ.out U HB0.out) ?_
  rintro e W1 ⟨rfl, hb1⟩
  refine ⟨_, rfl, ?_⟩
  have HC1 := Lib.hid ((hb1.block _ (Array.getElem?_eq_some_iff.1 HC0.out).1).trans HC0.out)
  have HB1 := Lib.hid (below_next HB0.out hb1)
  clear hb1 HB0 HC0
  refine wpList_yield (w' := W1) (v := .tuple #[.agg lg.toArray, .int .i64 cnt, .int .i64 code]) rfl (by first | (go_simp; done) | (go_simp; rfl)) ?_
  refine wpList_yield (w' := W1) (v := .agg lg.toArray) rfl (by first | (go_simp; done) | (go_simp; rfl)) ?_
  refine wpList_yield (w' := W1) (v := .int .i64 cnt) rfl (by first | (go_simp; done) | (go_simp; rfl)) ?_
  refine wpList_yield (w' := W1) (v := .int .i64 code) rfl (by first | (go_simp; done) | (go_simp; rfl)) ?_
  refine wpList_yield (w' := W1.alloc (.cells #[.int .i64 0, .int .i64 0, .int .i64 0, .int .i64 0, .int .i64 0, .int .i64 0, .int .i64 0, .bool false, .int .i64 0, .int .i64 0, .int .i64 0, .int .i64 0, .int .i64 0, .int .u64 0, .int .u64 0, .int .i64 0, .int .i64 0] 26)) (v := .pointer (some ⟨W1.heap.size, 0, none⟩)) rfl (by first | (go_simp; done) | (go_simp; rfl)) ?_
  have HBa := Lib.hid (below_next HB1.out (below_alloc (Below.refl _ W1) (.cells #[.int .i64 0, .int .i64 0, .int .i64 0, .int .i64 0, .int .i64 0, .int .i64 0, .int .i64 0, .bool false, .int .i64 0, .int .i64 0, .int .i64 0, .int .i64 0, .int .i64 0, .int .u64 0, .int .u64 0, .int .i64 0, .int .i64 0] 26)))
  have HCa := Lib.hid (((below_alloc (Below.refl _ W1) (.cells #[.int .i64 0, .int .i64 0, .int .i64 0, .int .i64 0, .int .i64 0, .int .i64 0, .int .i64 0, .bool false, .int .i64 0, .int .i64 0, .int .i64 0, .int .i64 0, .int .i64 0, .int .u64 0, .int .u64 0, .int .i64 0, .int .i64 0] 26)).block _ (Array.getElem?_eq_some_iff.1 HC1.out).1).trans HC1.out)
  have hN := World.alloc_heap_new W1 (.cells #[.int .i64 0, .int .i64 0, .int .i64 0, .int .i64 0, .int .i64 0, .int .i64 0, .int .i64 0, .bool false, .int .i64 0, .int .i64 0, .int .i64 0, .int .i64 0, .int .i64 0, .int .u64 0, .int .u64 0, .int .i64 0, .int .i64 0] 26)
  generalize W1.alloc (.cells #[.int .i64 0, .int .i64 0, .int .i64 0, .int .i64 0, .int .i64 0, .int .i64 0, .int .i64 0, .bool false, .int .i64 0, .int .i64 0, .int .i64 0, .int .i64 0, .int .i64 0, .int .u64 0, .int .u64 0, .int .i64 0, .int .i64 0] 26) = Wa at *
  obtain ⟨q, hq⟩ : ∃ q, q = W1.heap.size := ⟨_, rfl⟩
  have hqw : w.heap.size < q := by rw [hq]; exact (Array.getElem?_eq_some_iff.1 HC1.out).1
  rw [← hq] at hN ⊢
  clear hq HB1 HC1
  refine wpList_store_all rfl 26 _ _ rfl q (T := 26) lg (by go_simp) (by go_simp) hN (by rw [HLG.out]; rfl) (by rw [HLG.out]; kernel_rfl) HG1.out ?_
  intro W2 hw2
  have HQ2 := Lib.hid hw2.there
  have HC2 := Lib.hid ((hw2.rest _ (by omega)).trans HCa.out)
  have HB2 := Lib.hid (hw2.below HBa.out (by omega))
  clear hw2 hN HCa HBa
  go_upto_region 4 with fail
  refine wp_region_lit ?_
  have hcv := HCV.out W2 HB2.out
  refine wpList_yield (w' := W2) (v := .slice ad n c) rfl (by first | (go_simp; done) | (go_simp; rfl)) ?_
  refine wpList_yield (w' := W2) (v := .string S) rfl (by first | (go_simp; done) | (go_simp; rfl)) ?_
  refine wpList_enter rfl (by go_simp) (KR.out W2) ?_
  rintro e W3 ⟨rfl, hb3⟩
  refine ⟨_, rfl, ?_⟩
  clear hcv
  have HQ3 := Lib.hid ((hb3.block _ (Array.getElem?_eq_some_iff.1 HQ2.out).1).trans HQ2.out)
  have HC3 := Lib.hid ((hb3.block _ (Array.getElem?_eq_some_iff.1 HC2.out).1).trans HC2.out)
  have HB3 := Lib.hid (below_next HB2.out hb3)
  clear hb3 HB2 HQ2 HC2
  refine wpList_yield (w' := W3) (v := .tuple #[.agg lg.toArray, .int .i64 cnt, .int .i64 code]) rfl (by first | (go_simp; done) | (go_simp; rfl)) ?_
  refine wpList_yield (w' := W3) (v := .agg lg.toArray) rfl (by first | (go_simp; done) | (go_simp; rfl)) ?_
  refine wpList_yield (w' := W3) (v := .int .i64 cnt) rfl (by first | (go_simp; done) | (go_simp; rfl)) ?_
  refine wpList_yield (w' := W3) (v := .int .i64 code) rfl (by first | (go_simp; done) | (go_simp; rfl)) ?_
  refine wpList_yield (w' := W3.alloc (.cells #[.int .i64 0, .int .i64 0, .int .i64 0, .int .i64 0, .int .i64 0, .int .i64 0, .int .i64 0, .bool false, .int .i64 0, .int .i64 0, .int .i64 0, .int .i64 0, .int .i64 0, .int .u64 0, .int .u64 0, .int .i64 0, .int .i64 0] 32)) (v := .pointer (some ⟨W3.heap.size, 0, none⟩)) rfl (by first | (go_simp; done) | (go_simp; rfl)) ?_
  have HBa := Lib.hid (below_next HB3.out (below_alloc (Below.refl _ W3) (.cells #[.int .i64 0, .int .i64 0, .int .i64 0, .int .i64 0, .int .i64 0, .int .i64 0, .int .i64 0, .bool false, .int .i64 0, .int .i64 0, .int .i64 0, .int .i64 0, .int .i64 0, .int .u64 0, .int .u64 0, .int .i64 0, .int .i64 0] 32)))
  have HCa := Lib.hid (((below_alloc (Below.refl _ W3) (.cells #[.int .i64 0, .int .i64 0, .int .i64 0, .int .i64 0, .int .i64 0, .int .i64 0, .int .i64 0, .bool false, .int .i64 0, .int .i64 0, .int .i64 0, .int .i64 0, .int .i64 0, .int .u64 0, .int .u64 0, .int .i64 0, .int .i64 0] 32)).block _ (Array.getElem?_eq_some_iff.1 HC3.out).1).trans HC3.out)
  have HQa := Lib.hid (((below_alloc (Below.refl _ W3) (.cells #[.int .i64 0, .int .i64 0, .int .i64 0, .int .i64 0, .int .i64 0, .int .i64 0, .int .i64 0, .bool false, .int .i64 0, .int .i64 0, .int .i64 0, .int .i64 0, .int .i64 0, .int .u64 0, .int .u64 0, .int .i64 0, .int .i64 0] 32)).block _ (Array.getElem?_eq_some_iff.1 HQ3.out).1).trans HQ3.out)
  have hN := World.alloc_heap_new W3 (.cells #[.int .i64 0, .int .i64 0, .int .i64 0, .int .i64 0, .int .i64 0, .int .i64 0, .int .i64 0, .bool false, .int .i64 0, .int .i64 0, .int .i64 0, .int .i64 0, .int .i64 0, .int .u64 0, .int .u64 0, .int .i64 0, .int .i64 0] 32)
  generalize W3.alloc (.cells #[.int .i64 0, .int .i64 0, .int .i64 0, .int .i64 0, .int .i64 0, .int .i64 0, .int .i64 0, .bool false, .int .i64 0, .int .i64 0, .int .i64 0, .int .i64 0, .int .i64 0, .int .u64 0, .int .u64 0, .int .i64 0, .int .i64 0] 32) = Wa3 at *
  obtain ⟨p, hp⟩ : ∃ p, p = W3.heap.size := ⟨_, rfl⟩
  have hqp : q < p := by rw [hp]; exact (Array.getElem?_eq_some_iff.1 HQ3.out).1
  rw [← hp] at hN ⊢
  clear hp HB3 HC3 HQ3
  refine wpList_store_all rfl 32 _ _ rfl p (T := 32) lg (by go_simp) (by go_simp) hN (by rw [HLG.out]; rfl) (by rw [HLG.out]; kernel_rfl) HG1.out ?_
  intro W4 hw4
  have HP4 := Lib.hid hw4.there
  have HQ4 := Lib.hid ((hw4.rest _ (by omega)).trans HQa.out)
  have HC4 := Lib.hid ((hw4.rest _ (by omega)).trans HCa.out)
  have HB4 := Lib.hid (hw4.below HBa.out (by omega))
  clear hw4 hN HCa HBa HQa
  go_upto_region 5 with fail
  have FP := Lib.hid (fun (W : World) (h : Below W4.heap.size W4 W) => (h.block _ (Array.getElem?_eq_some_iff.1 HP4.out).1).trans HP4.out)
  have FQ := Lib.hid (fun (W : World) (h : Below W4.heap.size W4 W) => (h.block _ (Array.getElem?_eq_some_iff.1 HQ4.out).1).trans HQ4.out)
  have FC := Lib.hid (fun (W : World) (h : Below W4.heap.size W4 W) => (h.block _ (Array.getElem?_eq_some_iff.1 HC4.out).1).trans HC4.out)
  have FB := Lib.hid (fun (W : World) (h : Below W4.heap.size W4 W) => below_next HB4.out h)
  refine Rl.wp_region_rel (fun a b => Below a.heap.size a b) W4 (fun a b c h h' => below_next h h') (fun a => Below.refl _ _) hmx (by kernel_rfl) (Below.refl _ _).drew ?_
  (refine Rl.textR_run ?_ (fun ρ => ?_) (fun ρ W hS hd => ?_) ?_; rotate_left; (focus go_simp); (focus (obtain ⟨hc, hf⟩ := bcell hS; go_simp; first | exact ⟨rfl, Below.refl _ _⟩ | (refine ⟨?_, Below.refl _ _⟩; rfl))); (try go_simp))
  refine Rl.textR_run (.agg lj.toArray) (fun ρ => ?_) (fun ρ W hS hd => ?_) ?_
  · go_simp
  · exact Rl.comesToR_load 26 _ rfl w.heap.size (by go_simp) _ _ (FC.out W hS) Tryd.underlying26 rfl (by rw [HLJ.out]; kernel_rfl) ⟨rfl, Below.refl _ _⟩
  (try go_simp)
  refine Rl.textR_rel 29 (fun v w => TxtAt w v (bs ++ putJ j)) rfl (fun v w w' hg h => h.below hg) (fun ρ => ?_) (fun ρ W hS hd => ?_) ?_
  · go_simp
  · go_simp
    refine (KP.out W (FB.out W hS)).mono ?_
    rintro e w1 ⟨u, rfl, ho, hb⟩
    exact ⟨u, rfl, ho.at, hb⟩
  (try go_simp)
  refine Rl.textR_run (.string S1) (fun ρ => ?_) (fun ρ W hS hd => ?_) ?_
  · go_simp
  · have hcv := txt_conv (hd (29, fun v w => TxtAt w v (bs ++ putJ j)) List.mem_cons_self (show (29 : Nat) ∈ _ by decide)) W (Below.refl _ _)
    simp only at hcv
    rw [HS1.out] at hcv
    go_simp
    first | exact ⟨rfl, Below.refl _ _⟩ | exact Below.refl _ _
  (try go_simp)
  (refine Rl.textR_run ?_ (fun ρ => ?_) (fun ρ W hS hd => ?_) ?_; rotate_left; (focus go_simp); (focus (obtain ⟨hc, hf⟩ := bcell hS; go_simp; first | exact ⟨rfl, Below.refl _ _⟩ | (refine ⟨?_, Below.refl _ _⟩; rfl))); (try go_simp))
  refine Rl.textR_run (.string S) (fun ρ => ?_) (fun ρ W hS hd => ?_) ?_
  · go_simp
  · have hcv := HCV.out W (FB.out W hS)
    go_simp
    first | exact ⟨rfl, Below.refl _ _⟩ | exact Below.refl _ _
  (try go_simp)
  refine Rl.textR_run (.agg lj.toArray) (fun ρ => ?_) (fun ρ W hS hd => ?_) ?_
  · go_simp
  · exact Rl.comesToR_load 26 _ rfl w.heap.size (by go_simp) _ _ (FC.out W hS) Tryd.underlying26 rfl (by rw [HLJ.out]; kernel_rfl) ⟨rfl, Below.refl _ _⟩
  (try go_simp)
  (refine Rl.textR_run ?_ (fun ρ => ?_) (fun ρ W hS hd => ?_) ?_; rotate_left; (focus go_simp); (focus (obtain ⟨hc, hf⟩ := bcell hS; go_simp; refine (KO.out W).mono ?_; rintro e w1 ⟨rfl, hb⟩; refine ⟨_, rfl, ?_, hb⟩; rfl)); (try go_simp))
  (refine Rl.textR_run ?_ (fun ρ => ?_) (fun ρ W hS hd => ?_) ?_; rotate_left; (focus go_simp); (focus (obtain ⟨hc, hf⟩ := bcell hS; go_simp; refine (KQ.out W).mono ?_; rintro e w1 ⟨rfl, hb⟩; refine ⟨_, rfl, ?_, hb⟩; rfl)); (try go_simp))
  iterate 2 (refine Rl.textR_run ?_ (fun ρ => ?_) (fun ρ W hS hd => ?_) ?_; rotate_left; (focus go_simp); (focus (obtain ⟨hc, hf⟩ := bcell hS; go_simp; first | exact ⟨rfl, Below.refl _ _⟩ | (refine ⟨?_, Below.refl _ _⟩; rfl))); (try go_simp))
  refine Rl.textR_run (.agg lg.toArray) (fun ρ => ?_) (fun ρ W hS hd => ?_) ?_
  · go_simp
  · exact Rl.comesToR_load 26 _ rfl q (by go_simp) _ _ (FQ.out W hS) Tryd.underlying26 rfl (by rw [HLG.out]; kernel_rfl) ⟨rfl, Below.refl _ _⟩
  (try go_simp)
  (refine Rl.textR_run ?_ (fun ρ => ?_) (fun ρ W hS hd => ?_) ?_; rotate_left; (focus go_simp); (focus (obtain ⟨hc, hf⟩ := bcell hS; go_simp; refine (KG.out W).mono ?_; rintro e w1 ⟨rfl, hb⟩; refine ⟨_, rfl, ?_, hb⟩; rfl)); (try go_simp))
  refine Rl.textR_run (.agg lg.toArray) (fun ρ => ?_) (fun ρ W hS hd => ?_) ?_
  · go_simp
  · exact Rl.comesToR_load 32 _ rfl p (by go_simp) _ _ (FP.out W hS) Tryd.underlying32 rfl (by rw [HLG.out]; kernel_rfl) ⟨rfl, Below.refl _ _⟩
  (try go_simp)
  refine Rl.textR_run (.bool true) (fun ρ => ?_) (fun ρ W hS hd => ?_) ?_
  · go_simp
  · exact Rl.comesToR_eql 32 _ _ _ rfl _ _ (by go_simp) (by go_simp) (by kernel_rfl) (KEQ.out W) ⟨rfl, Below.refl _ _⟩
  (try go_simp)
  iterate 12 (refine Rl.textR_run ?_ (fun ρ => ?_) (fun ρ W hS hd => ?_) ?_; rotate_left; (focus go_simp); (focus (obtain ⟨hc, hf⟩ := bcell hS; go_simp; first | exact ⟨rfl, Below.refl _ _⟩ | (refine ⟨?_, Below.refl _ _⟩; rfl))); (try go_simp))
  (refine Rl.textR_run ?_ (fun ρ => ?_) (fun ρ W hS hd => ?_) ?_; rotate_left; (focus go_simp); (focus (obtain ⟨hc, hf⟩ := bcell hS; go_simp; refine (K1.out W).mono ?_; rintro e w1 ⟨rfl, hb⟩; refine ⟨_, rfl, ?_, hb⟩; rfl)); (try go_simp))
  iterate 2 (refine Rl.textR_run ?_ (fun ρ => ?_) (fun ρ W hS hd => ?_) ?_; rotate_left; (focus go_simp); (focus (obtain ⟨hc, hf⟩ := bcell hS; go_simp; first | exact ⟨rfl, Below.refl _ _⟩ | (refine ⟨?_, Below.refl _ _⟩; rfl))); (try go_simp))
  refine Rl.textR_nil ?_
  intro ρ w9 hg hk1
  have HG := Lib.hid (FB.out _ hg)
  clear hg hk1
  dsimp only
  generalize ρ 29 = z1
  go_wp2_with fail
  go_ret
  exact ⟨rfl, HG.out⟩
theorem jobreads_any (j : JobV) (hj : j.Ok) (ad : Option Addr) (n c : Nat) (bs : List Int) (w : World) (ht : TxtAt w (.slice ad n c) bs) (hE : ErrAt w) : Calls Tryd.prog 3 #[.agg (jobC j).toArray, .slice ad n c] w fun e w' => e = .returned (.bool true) ∧ Below w.heap.size w w' := by
  by_cases hn : 1000 < n
  · exact jobreads_no j ad n c hn w
  · exact jobreads_yes j hj ad n c bs (by omega) w ht hE
end Go.Proofs.YtgeldpfojmkdbaaDoor
namespace Go.Proofs.YtgeldpfojmkdbaaDoor
set_option linter.unusedVariables false
open Go.ChangeShapes Go.WideShapes Go.ChangeAt Go.RowKit

structure ActV where
  kind : Int
  now : Int
  nodes : NSet
  n : Int
structure ActV.Ok (a : ActV) : Prop where
  now : -9223372036854775808 ≤ a.now ∧ a.now ≤ 9223372036854775807
  n : -9223372036854775808 ≤ a.n ∧ a.n ≤ 9223372036854775807
def actC (a : ActV) : List Value := [.int .i64 a.kind, .int .i64 a.now, .int .u64 (nv a.nodes), .int .i64 a.n]
/-- what an act makes of a job, and its error -/
def actJ (j : JobV) (a : ActV) (r : Int) : JobV × Int :=
  if a.kind == 0 then beginJ j a.now a.nodes else if a.kind == 1 then stopJ j a.now a.n else if a.kind == 2 then loseJ j a.now a.n r else (j, 0)
/-- the job behind an act -/
def nextJ (j : JobV) (a : ActV) (r : Int) : JobV := if (actJ j a r).2 == 0 then (actJ j a r).1 else j
/-- how often it is tried -/
def InvT (r : Int) (j : JobV) : Prop := (j.state = 0 → j.tries ≤ r) ∧ j.tries ≤ r + 1
theorem begin_wait {j : JobV} {now : Int} {n : NSet} (h : (beginJ j now n).2 = 0) : j.state = 0 ∧ (beginJ j now n).1.state = 1 := by
  unfold beginJ at h ⊢
  cases hr : rightB j with
  | false => rw [hr] at h; exact absurd h (by simp)
  | true =>
    rw [hr] at h
    cases hs : (j.state == 0) with
    | false => rw [hs] at h; exact absurd h (by simp)
    | true =>
      have hs' : j.state = 0 := by simpa using hs
      rw [hs] at h
      refine ⟨hs', ?_⟩
      generalize (!true || j.hold) = c1 at *
      generalize (!timeB now || (now == 1099511627776)) = c2 at *
      generalize (!fitsB j n) = c3 at *
      generalize (j.tries == 9) = c4 at *
      cases c1
      · cases c2
        · cases c3
          · cases c4
            · rfl
            · exact absurd h (by simp)
          · exact absurd h (by simp)
        · exact absurd h (by simp)
      · exact absurd h (by simp)
theorem act_ok {j : JobV} {a : ActV} {r : Int} (h : j.Ok) (ha : a.Ok) : (actJ j a r).1.Ok := by
  unfold actJ
  split
  · exact begin_ok h ha.now _
  · split
    · exact stop_ok h ha.now ha.n
    · split
      · exact lose_ok h ha.now
      · exact h
/-- what the law asks of each act that answers with no error: the job is right; where it runs its nodes are as many as it needs, none barred; one that was over is as it was -/
theorem act_right {j : JobV} {a : ActV} {r : Int} (hj : rightB j = true) (h : (actJ j a r).2 = 0) :
    rightB (actJ j a r).1 = true ∧ (((actJ j a r).1.state == 1) = true → fitsB (actJ j a r).1 (actJ j a r).1.nodes = true) ∧ (overB j = true → (actJ j a r).1 = j) := by
  have key : rightB (actJ j a r).1 = true → (((actJ j a r).1.state == 1) = true → fitsB (actJ j a r).1 (actJ j a r).1.nodes = true) := fun hr hs => (state_run (rightB_iff.1 hr).st hs).2.1
  suffices H : rightB (actJ j a r).1 = true ∧ (overB j = true → (actJ j a r).1 = j) from ⟨H.1, key H.1, H.2⟩
  clear key
  unfold actJ at h ⊢
  split
  · rename_i hk
    rw [if_pos hk] at h
    obtain ⟨e1, _, e3, _⟩ := begin_right h
    exact ⟨e1, fun ho => absurd (ho.symm.trans e3) (by decide)⟩
  · rename_i hk
    rw [if_neg hk] at h
    split
    · rename_i hk1
      rw [if_pos hk1] at h
      obtain ⟨e1, e2, _, _⟩ := stop_right h
      exact ⟨e1, fun ho => absurd (ho.symm.trans e2) (by decide)⟩
    · rename_i hk1
      rw [if_neg hk1] at h
      split
      · rename_i hk2
        rw [if_pos hk2] at h
        obtain ⟨e1, e2, _⟩ := lose_right h
        exact ⟨e1, fun ho => absurd (ho.symm.trans e2) (by decide)⟩
      · exact ⟨hj, fun _ => rfl⟩
theorem act_tries {j : JobV} {a : ActV} {r : Int} (hr0 : 0 ≤ r) (hj : rightB j = true) (hT : InvT r j) (h : (actJ j a r).2 = 0) : InvT r (actJ j a r).1 := by
  unfold actJ at h ⊢
  split
  · rename_i hk
    rw [if_pos hk] at h
    obtain ⟨_, _, _, e4⟩ := begin_right h
    obtain ⟨w0, w1⟩ := begin_wait h
    refine ⟨fun h0 => by rw [w1] at h0; exact absurd h0 (by decide), ?_⟩
    rw [e4]
    have := hT.1 w0
    omega
  · rename_i hk
    rw [if_neg hk] at h
    split
    · rename_i hk1
      rw [if_pos hk1] at h
      obtain ⟨e1, e2, e3, e4⟩ := stop_right h
      have hst : (stopJ j a.now a.n).1.state = 0 → (stopJ j a.now a.n).1.tries ≤ r := fun h0 => by
        refine absurd h0 ?_
        unfold stopJ at h ⊢
        cases hrj : rightB j with
        | false => rw [hrj] at h; exact absurd h (by simp)
        | true =>
          rw [hrj] at h
          cases hw : inI a.n 2 5 with
          | false => rw [hw] at h; exact absurd h (by simp)
          | true =>
            rw [hw] at h
            cases ho : (overB j || ((j.state == 0) && ((a.n == 2) || (a.n == 5)))) with
            | true => rw [ho] at h; exact absurd h (by simp)
            | false =>
              rw [ho] at h
              cases hl : lateB j a.now with
              | true => rw [hl] at h; exact absurd h (by simp)
              | false =>
                simp only [Bool.not_true, Bool.false_eq_true, if_false]
                have hwi := inI_yes hw
                unfold endJ
                split
                · show ¬ a.n = 0; omega
                · split
                  · show ¬ a.n = 0; omega
                  · rename_i hz _
                    simpa using hz
      exact ⟨hst, by have := hT.2; omega⟩
    · rename_i hk1
      rw [if_neg hk1] at h
      split
      · rename_i hk2
        rw [if_pos hk2] at h
        obtain ⟨_, _, e3, _, e5⟩ := lose_right h
        exact ⟨fun h0 => e5 (by rw [h0]; rfl), by have := hT.2; omega⟩
      · exact hT
theorem next_ok {j : JobV} {a : ActV} {r : Int} (h : j.Ok) (ha : a.Ok) : (nextJ j a r).Ok := by
  unfold nextJ
  split
  · exact act_ok h ha
  · exact h
theorem next_right {j : JobV} {a : ActV} {r : Int} (h : rightB j = true) : rightB (nextJ j a r) = true := by
  unfold nextJ
  split
  · rename_i he
    exact (act_right h (by simpa using he)).1
  · exact h
theorem next_tries {j : JobV} {a : ActV} {r : Int} (hr0 : 0 ≤ r) (hj : rightB j = true) (hT : InvT r j) : InvT r (nextJ j a r) := by
  unfold nextJ
  split
  · rename_i he
    exact act_tries hr0 hj hT (by simpa using he)
  · exact hT
end Go.Proofs.YtgeldpfojmkdbaaDoor
namespace Go.Proofs.YtgeldpfojmkdbaaDoor
set_option linter.unusedVariables false
open Go.ChangeShapes Go.WideShapes Go.RowKit
namespace ErrTy
theorem et : Tryd.prog.globalNamed "errors.errorType" = some 0 := by kernel_rfl
theorem rt : (Tryd.prog.cutTypes.find? (·.1 == "internal/reflectlite.rtype")).map (·.2) = some 107 := by kernel_rfl
theorem oneRow : ((List.range 150).filter fun t => Tryd.prog.rowNamed t [101, 114, 114, 111, 114]) = [76] := by kernel_rfl
theorem size : Tryd.prog.types.size = 150 := by kernel_rfl
end ErrTy
theorem errat_at {W : World} (h : laidMetH Tryd.prog [("errors.errorType", Rows.laid_errors_errorType)] W) : ErrAt W := by
  have h' : laidMet Tryd.prog [] W ∧ handlesMet Tryd.prog [("errors.errorType", Rows.laid_errors_errorType)] W := h
  obtain ⟨name, u, ty, e1, e2, e3, e4, e5⟩ := h'.2 _ (List.mem_singleton.2 rfl)
  have en : name = [101, 114, 114, 111, 114] := (Option.some.inj e1).symm
  subst en
  obtain rfl := Option.some.inj (ErrTy.rt.symm.trans e2)
  have hm : ty ∈ (List.range 150).filter fun t => Tryd.prog.rowNamed t [101, 114, 114, 111, 114] := List.mem_filter.2 ⟨List.mem_range.2 (by rw [← ErrTy.size]; exact e3), e4⟩
  rw [ErrTy.oneRow] at hm
  obtain rfl := List.mem_singleton.1 hm
  have hh : typeHandle Tryd.prog 76 = .pointer (some ⟨1, 76, none⟩) := by kernel_rfl
  rw [hh] at e5
  unfold ErrAt
  simpa using World.var?_cell ErrTy.et e5 0
end Go.Proofs.YtgeldpfojmkdbaaDoor
namespace Go.Proofs.YtgeldpfojmkdbaaDoor
set_option linter.unusedVariables false
open Go.ChangeShapes Go.WideShapes Go.RowKit Go.Deep
/-- a struct whose fields are one cell each, field by field -/
theorem open_flat {H : Type} {enc : TypeId × Value → H} {P : Program} {w : World} {base b0 : Nat} {spare : Nat → Bool} {held : Bool} {r : Reach} {t : TypeId} {fs : Array Field} {v : Value} {d : DataW H} {p : List MemPlace} (hs : P.underlying t = some (.struct fs)) (hone : oneCellFields P fs = true)
    (hv : Value.okWide P w r b0 t v) (h : DataW.Trod enc P w base spare held t v d p) :
    ∃ cs : Array Value, v = .agg cs ∧ cs.size = P.cellsOf t ∧ ∀ (i : Nat) (f : Field), fs[i]? = some f → i < cs.size → ∃ (n : Nat) (c : Value) (y : DataW H × List MemPlace), cs[i]? = some c ∧ DataW.trod enc P w base spare held n f.type [c] = some y := by
  obtain ⟨cs, rfl, hsz⟩ := okWide_struct hs hv
  obtain ⟨fuel, hf⟩ := h
  obtain ⟨xs, n, _, _, hl, hlen, hfs⟩ := DataW.trod_struct hs hf
  refine ⟨cs, rfl, hsz, fun i f hi hlt => ?_⟩
  obtain ⟨o, k⟩ := hone_of hone i f hi
  have hif : i < fs.size := (Array.getElem?_eq_some_iff.1 hi).1
  have hx := hfs i f hi
  rw [o, k, List.getElem?_eq_getElem (by omega)] at hx
  refine ⟨n, cs[i], xs[i], Array.getElem?_eq_getElem hlt, ?_⟩
  rw [← hx]
  congr 1
  have : (Value.agg cs).cells.toList = cs.toList := rfl
  rw [this, List.drop_eq_getElem_cons (by simpa using hlt), List.take_succ_cons, List.take_zero]
  simp
theorem fldsJ : ∃ fs : Array Field, Tryd.prog.underlying 26 = some (.struct fs) ∧ oneCellFields Tryd.prog fs = true ∧ fs.toList.map (fun f => Tryd.prog.underlying f.type) = [some (TypeDesc.int .i64), some (TypeDesc.int .i64), some (TypeDesc.int .i64), some (TypeDesc.int .i64), some (TypeDesc.int .i64), some (TypeDesc.int .i64), some (TypeDesc.int .i64), some .bool, some (TypeDesc.int .i64), some (TypeDesc.int .i64), some (TypeDesc.int .i64), some (TypeDesc.int .i64), some (TypeDesc.int .i64), some (TypeDesc.int .u64), some (TypeDesc.int .u64), some (TypeDesc.int .i64), some (TypeDesc.int .i64)] ∧ fs.size = 17 :=
  ⟨Tryd.prog.fieldsOf 26, by kernel_rfl, by kernel_rfl, by kernel_rfl, by kernel_rfl⟩
theorem cellsJ : Tryd.prog.cellsOf 26 = 17 := by kernel_rfl
set_option maxRecDepth 10000 in
theorem job_open {H : Type} {enc : TypeId × Value → H} {W : World} {base b0 : Nat} {spare : Nat → Bool} {held : Bool} {r : Reach} {v : Value} {d : DataW H} {p : List MemPlace}
    (hv : Value.okWide Tryd.prog W r b0 26 v) (h : DataW.Trod enc Tryd.prog W base spare held 26 v d p) : ∃ j : JobV, j.Ok ∧ v = .agg (jobC j).toArray := by
  obtain ⟨fs, hS, hone, htyp, hfz⟩ := fldsJ
  obtain ⟨cs, rfl, hsz, hall⟩ := open_flat (P := Tryd.prog) (t := 26) (fs := fs) (w := W) (v := v) (d := d) (p := p) (r := r) (b0 := b0) hS hone hv h
  rw [cellsJ] at hsz
  have hty : ∀ i : Nat, i < 17 → ∃ f, fs[i]? = some f ∧ some (Tryd.prog.underlying f.type) = ([some (TypeDesc.int .i64), some (TypeDesc.int .i64), some (TypeDesc.int .i64), some (TypeDesc.int .i64), some (TypeDesc.int .i64), some (TypeDesc.int .i64), some (TypeDesc.int .i64), some .bool, some (TypeDesc.int .i64), some (TypeDesc.int .i64), some (TypeDesc.int .i64), some (TypeDesc.int .i64), some (TypeDesc.int .i64), some (TypeDesc.int .u64), some (TypeDesc.int .u64), some (TypeDesc.int .i64), some (TypeDesc.int .i64)] : List (Option TypeDesc))[i]? := by
    intro i hi
    refine ⟨fs[i]'(by rw [hfz]; exact hi), Array.getElem?_eq_getElem _, ?_⟩
    rw [← htyp]
    simp [hfz, hi]
  have hint : ∀ i : Nat, i < 17 → ([some (TypeDesc.int .i64), some (TypeDesc.int .i64), some (TypeDesc.int .i64), some (TypeDesc.int .i64), some (TypeDesc.int .i64), some (TypeDesc.int .i64), some (TypeDesc.int .i64), some .bool, some (TypeDesc.int .i64), some (TypeDesc.int .i64), some (TypeDesc.int .i64), some (TypeDesc.int .i64), some (TypeDesc.int .i64), some (TypeDesc.int .u64), some (TypeDesc.int .u64), some (TypeDesc.int .i64), some (TypeDesc.int .i64)] : List (Option TypeDesc))[i]? = some (some (TypeDesc.int .i64)) → ∃ n : Int, cs[i]? = some (.int .i64 n) ∧ -9223372036854775808 ≤ n ∧ n ≤ 9223372036854775807 := by
    intro i hi he
    obtain ⟨f, hf, ht⟩ := hty i hi
    obtain ⟨n, c, y, hc, hy⟩ := hall i f hf (by omega)
    rw [he] at ht
    obtain ⟨a, ha, _, hw⟩ := DataW.trod_int (Option.some.inj ht) hy
    obtain rfl : c = .int .i64 a := by simpa using ha
    exact ⟨a, hc, by simpa [Lit.wf, IntKind.min, IntKind.max, IntKind.signed, IntKind.bits] using hw⟩
  have hset : ∀ i : Nat, i < 17 → ([some (TypeDesc.int .i64), some (TypeDesc.int .i64), some (TypeDesc.int .i64), some (TypeDesc.int .i64), some (TypeDesc.int .i64), some (TypeDesc.int .i64), some (TypeDesc.int .i64), some .bool, some (TypeDesc.int .i64), some (TypeDesc.int .i64), some (TypeDesc.int .i64), some (TypeDesc.int .i64), some (TypeDesc.int .i64), some (TypeDesc.int .u64), some (TypeDesc.int .u64), some (TypeDesc.int .i64), some (TypeDesc.int .i64)] : List (Option TypeDesc))[i]? = some (some (TypeDesc.int .u64)) → ∃ n : NSet, cs[i]? = some (.int .u64 (nv n)) := by
    intro i hi he
    obtain ⟨f, hf, ht⟩ := hty i hi
    obtain ⟨n, c, y, hc, hy⟩ := hall i f hf (by omega)
    rw [he] at ht
    obtain ⟨a, ha, _, hw⟩ := DataW.trod_int (Option.some.inj ht) hy
    obtain rfl : c = .int .u64 a := by simpa using ha
    have hb : 0 ≤ a ∧ a ≤ 18446744073709551615 := by simpa [Lit.wf, IntKind.min, IntKind.max, IntKind.signed, IntKind.bits] using hw
    obtain ⟨x, hx⟩ := nv_of a hb.1 hb.2
    exact ⟨x, by rw [hx]; exact hc⟩
  have hbool : ∃ b : Bool, cs[7]? = some (.bool b) := by
    obtain ⟨f, hf, ht⟩ := hty 7 (by omega)
    obtain ⟨n, c, y, hc, hy⟩ := hall 7 f hf (by omega)
    obtain ⟨b, hb, _⟩ := DataW.trod_bool (Option.some.inj ht) hy
    obtain rfl : c = .bool b := by simpa using hb
    exact ⟨b, hc⟩
  obtain ⟨b, h7⟩ := hbool
  obtain ⟨x0, h0, l0⟩ := hint 0 (by decide) rfl
  obtain ⟨x1, h1, l1⟩ := hint 1 (by decide) rfl
  obtain ⟨x2, h2, l2⟩ := hint 2 (by decide) rfl
  obtain ⟨x3, h3, l3⟩ := hint 3 (by decide) rfl
  obtain ⟨x4, h4, l4⟩ := hint 4 (by decide) rfl
  obtain ⟨x5, h5, l5⟩ := hint 5 (by decide) rfl
  obtain ⟨x6, h6, l6⟩ := hint 6 (by decide) rfl
  obtain ⟨x8, h8, l8⟩ := hint 8 (by decide) rfl
  obtain ⟨x9, h9, l9⟩ := hint 9 (by decide) rfl
  obtain ⟨x10, h10, l10⟩ := hint 10 (by decide) rfl
  obtain ⟨x11, h11, l11⟩ := hint 11 (by decide) rfl
  obtain ⟨x12, h12, l12⟩ := hint 12 (by decide) rfl
  obtain ⟨x15, h15, l15⟩ := hint 15 (by decide) rfl
  obtain ⟨x16, h16, l16⟩ := hint 16 (by decide) rfl
  obtain ⟨x13, h13⟩ := hset 13 (by decide) rfl
  obtain ⟨x14, h14⟩ := hset 14 (by decide) rfl
  refine ⟨⟨x0, x1, x2, x3, x4, x5, x6, b, x8, x9, x10, x11, x12, x13, x14, x15, x16⟩, ⟨?_⟩, ?_⟩
  · unfold JobV.ints
    simp only [List.mem_cons, List.not_mem_nil, or_false, forall_eq_or_imp, forall_eq]
    exact ⟨l0, l1, l2, l3, l4, l5, l6, l8, l9, l10, l11, l12, l15, l16⟩
  · congr 1
    apply Array.ext_getElem?
    intro i
    by_cases hi : i < 17
    · rcases (show i = 0 ∨ i = 1 ∨ i = 2 ∨ i = 3 ∨ i = 4 ∨ i = 5 ∨ i = 6 ∨ i = 7 ∨ i = 8 ∨ i = 9 ∨ i = 10 ∨ i = 11 ∨ i = 12 ∨ i = 13 ∨ i = 14 ∨ i = 15 ∨ i = 16 by omega) with rfl | rfl | rfl | rfl | rfl | rfl | rfl | rfl | rfl | rfl | rfl | rfl | rfl | rfl | rfl | rfl | rfl
      · exact h0
      · exact h1
      · exact h2
      · exact h3
      · exact h4
      · exact h5
      · exact h6
      · exact h7
      · exact h8
      · exact h9
      · exact h10
      · exact h11
      · exact h12
      · exact h13
      · exact h14
      · exact h15
      · exact h16
    · rw [Array.getElem?_eq_none (by omega), Array.getElem?_eq_none (by simp [jobC]; omega)]
/-- an act where it lies -/
structure ActCells (w : World) (b o : Nat) (a : ActV) : Prop where
  c0 : w.cell? ⟨b, o, none⟩ = some (.int .i64 a.kind)
  c1 : w.cell? ⟨b, o + 1, none⟩ = some (.int .i64 a.now)
  c2 : w.cell? ⟨b, o + 2, none⟩ = some (.int .u64 (nv a.nodes))
  c3 : w.cell? ⟨b, o + 3, none⟩ = some (.int .i64 a.n)
  ok : a.Ok
def ActsAt (w : World) (ad : Option Addr) (len : Nat) (A : Nat → ActV) : Prop := len ≤ 9223372036854775807 ∧ (0 < len → ∃ b off, ad = some ⟨b, off, none⟩ ∧ ∀ k, k < len → ActCells w b (off + k * 4) (A k))
theorem cells_act : Tryd.prog.cellsOf 42 = 4 := by kernel_rfl
instance : Inhabited ActV := ⟨⟨0, 0, 0#64, 0⟩⟩
set_option maxRecDepth 10000 in
theorem acts_open {H : Type} {enc : TypeId × Value → H} {W : World} {a : Option Addr} {len cap : Nat} {d : DataW H} {p : List MemPlace}
    (h : DataW.Trod enc Tryd.prog W 0 (fun _ => true) true 40 (.slice a len cap) d p) : ∃ A : Nat → ActV, ActsAt W a len A ∧ len ≤ cap := by
  obtain ⟨fuel, hf⟩ := h
  rcases Go.Deep.open_slice Tryd.underlying40 hf with ⟨hcs, _⟩ | ⟨x, l, c, m, n, D, Pl, hcs, _, hl, hm, hmm, hd, hcell⟩
  · simp [Value.cells] at hcs
    obtain ⟨rfl, rfl, rfl⟩ := hcs
    exact ⟨fun _ => ⟨0, 0, 0#64, 0⟩, ⟨by omega, fun h => absurd h (by omega)⟩, Nat.le_refl _⟩
  · simp [Value.cells] at hcs
    obtain ⟨rfl, rfl, rfl⟩ := hcs
    have hlm : len ≤ m := by rw [hmm]; split <;> omega
    rw [cells_act] at hcell
    by_cases h0 : len = 0
    · exact ⟨fun _ => ⟨0, 0, 0#64, 0⟩, ⟨by omega, fun h => absurd h (by omega)⟩, hl⟩
    obtain ⟨b, off, spot⟩ := x
    have hspot : spot = none := by
      obtain ⟨cs', h1, _⟩ := hcell 0 (by omega)
      obtain ⟨_, hlen, hc⟩ := World.cells?_some h1
      have := hc 0 (by omega)
      have hs : cs'[0]? = some cs'[0] := List.getElem?_eq_getElem (by omega)
      rw [hs] at this
      simpa [Addr.add] using World.cell?_spot this
    subst hspot
    have hplain : ∀ k, (⟨b, off, none⟩ : Addr).add k = ⟨b, off + k, none⟩ := fun k => by unfold Addr.add; split <;> simp_all
    have hplain2 : ∀ k j, ((⟨b, off, none⟩ : Addr).add k).add j = ⟨b, off + k + j, none⟩ := fun k j => by rw [Go.Deep.add_add, hplain, Nat.add_assoc]
    have each : ∀ i, i < len → ∃ q : ActV, ActCells W b (off + i * 4) q := by
      intro i hi
      obtain ⟨cs', h1, h2⟩ := hcell i (by omega)
      obtain ⟨_, hlen, hc⟩ := World.cells?_some h1
      obtain ⟨xs, k, hk, _, _, hxl, hff⟩ := DataW.trod_struct Tryd.underlying42 h2
      match xs, hxl, cs', hlen with
      | [y0, y1, y2, y3], _, [v0, v1, v2, v3], _ =>
        have g0 := hff 0 _ rfl
        have g1 := hff 1 _ rfl
        have g2 := hff 2 _ rfl
        have g3 := hff 3 _ rfl
        have q1 : Tryd.prog.cellsOf 3 = 1 := by kernel_rfl
        have q2 : Tryd.prog.cellsOf 22 = 1 := by kernel_rfl
        have q3 : Tryd.prog.cellsOf 24 = 1 := by kernel_rfl
        simp [q1, q2, q3] at g0 g1 g2 g3
        obtain ⟨z0, e0, _⟩ := DataW.trod_int Tryd.underlying3 g0
        obtain ⟨z1, e1, _, w1⟩ := DataW.trod_int Tryd.underlying22 g1
        obtain ⟨z2, e2, _, w2⟩ := DataW.trod_int Tryd.underlying24 g2
        obtain ⟨z3, e3, _, w3⟩ := DataW.trod_int Tryd.underlying3 g3
        simp at e0 e1 e2 e3
        subst e0 e1 e2 e3
        have b1 : -9223372036854775808 ≤ z1 ∧ z1 ≤ 9223372036854775807 := by simpa [Lit.wf, IntKind.min, IntKind.max, IntKind.signed, IntKind.bits] using w1
        have b2 : 0 ≤ z2 ∧ z2 ≤ 18446744073709551615 := by simpa [Lit.wf, IntKind.min, IntKind.max, IntKind.signed, IntKind.bits] using w2
        have b3 : -9223372036854775808 ≤ z3 ∧ z3 ≤ 9223372036854775807 := by simpa [Lit.wf, IntKind.min, IntKind.max, IntKind.signed, IntKind.bits] using w3
        obtain ⟨x2, rfl⟩ := nv_of z2 b2.1 b2.2
        have c : ∀ j, j < 4 → W.cell? ⟨b, off + i * 4 + j, none⟩ = [Value.int .i64 z0, .int .i64 z1, .int .u64 (nv x2), .int .i64 z3][j]? := fun j hj => by rw [← hplain2]; exact hc j hj
        exact ⟨⟨z0, z1, x2, z3⟩, { c0 := c 0 (by decide), c1 := c 1 (by decide), c2 := c 2 (by decide), c3 := c 3 (by decide), ok := ⟨b1, b3⟩ }⟩
    obtain ⟨A, hA⟩ := Go.Deep.choose_lt (α := ActV) (p := fun i q => ActCells W b (off + i * 4) q) each
    exact ⟨A, ⟨by unfold maxLen at hm; omega, fun _ => ⟨b, off, rfl, hA⟩⟩, hl⟩
end Go.Proofs.YtgeldpfojmkdbaaDoor
namespace Go.Proofs.YtgeldpfojmkdbaaDoor.lawJobReads
set_option linter.unusedVariables false
open Go.Proofs.YtgeldpfojmkdbaaDoor
open Go.ChangeShapes Go.WideShapes Go.ChangeAt Go.RowKit
open Go.ChangeMaps (open_string shut_string)
open Go.Joins (open_agg2 open_agg3 open_agg4 array3 array4)

theorem own : ownKnob Tryd.prog.godebug = none := by kernel_rfl
theorem laidOut : laidOutB Tryd.prog = true := by kernel_rfl
set_option maxRecDepth 100000 in
theorem contract (H : Type) (enc : TypeId × Value → H) (W : World) (base : Nat) (args : Array Value) (ds gs : List (DataW H)) (before : List MemPlace)
    (hval0 : ∀ (j : Nat) t v, Tryd.f3.params[j]? = some t → args[j]? = some v → Value.okWide Tryd.prog W .any base t v)
    (hW : DataW.Whole enc Tryd.prog Tryd.f3.params.toList Rows.jobReadsSpec.vars false W args.toList ds gs before) (hL : laidMetH Tryd.prog Rows.jobReadsRow.laid W) :
    Calls Tryd.prog 3 args W fun e W' => ∃ v, e = .returned v ∧ Rows.jobReadsSpec.post enc Tryd.prog Tryd.f3 false true false false W args v W' := by
  have hN : ErrAt W := errat_at hL
  clear hL
  have hval := hval0
  have hW' := hW
  obtain ⟨p, q, hA0, hV, rfl, _, _⟩ := hW
  have hA : DataW.TrodAll enc Tryd.prog W 0 (fun _ => true) true Tryd.f3.params.toList args.toList ds p := hA0
  rw [Tryd.params3] at hA hval
  obtain ⟨v0, vs0, d0, ds0, p0, q0, hargs, rfl, rfl, h0, r0⟩ := trodAll_cons hA
  obtain ⟨v1, vs1, d1, ds1, p1, q1, rfl, rfl, rfl, h1, r1⟩ := trodAll_cons r0
  obtain ⟨rfl, rfl, rfl⟩ := trodAll_nil r1
  obtain rfl : args = #[v0, v1] := by cases args; simp_all
  obtain ⟨rfl, rfl⟩ := trodVars_none hV
  have k0 := h0
  have lt0 : ∀ x ∈ p0, x.block < W.heap.size := by obtain ⟨m, hm⟩ := k0; exact DataW.trod_lt m _ _ _ hm
  have k1 := h1
  have lt1 : ∀ x ∈ p1, x.block < W.heap.size := by obtain ⟨m, hm⟩ := k1; exact DataW.trod_lt m _ _ _ hm
  obtain ⟨x0, ok0, rfl⟩ := job_open (hval 0 26 v0 rfl rfl) h0
  obtain ⟨v1, len1, cap1, rfl⟩ := okWide_slice Tryd.underlying27 (hval 1 27 v1 rfl rfl)
  obtain ⟨z1, t1, dd1⟩ := txt_open h1
  clear hA0 hval0
  refine (jobreads_any x0 ok0 v1 len1 cap1 z1 W t1.1 hN).mono fun e W' ⟨he, bel⟩ => ?_
  subst he
  exact ⟨_, rfl, _, _, _, [], _, [], hW', trodAll_mk1 (shut_bool Tryd.underlying4 _), (trodAll_cons_mk (Below.trod laidOut (by kernel_rfl) (of_decide_eq_true (by kernel_rfl)) k0 bel lt0) (trodAll_cons_mk (Below.trod laidOut (by kernel_rfl) (of_decide_eq_true (by kernel_rfl)) k1 bel lt1) trodAll_mk0)), rfl, bel.frame _, fun h => by cases h⟩

/-- A world for the witness: the settled one, the variables laid. -/
noncomputable def laidWorld (os : Os) : World :=
  { World.holding Tryd.prog os ⟨#[], #[], []⟩ with heap := ((World.holding Tryd.prog os ⟨#[], #[], []⟩).heap.modify 0 fun | .cells _ t frozen => .cells #[.iface 107 (.agg #[.pointer (some ⟨1, 76, none⟩)])] t frozen | o => o) }
theorem laid_met (os : Os) : laidMetH Tryd.prog Rows.jobReadsRow.laid ((laidWorld os).forCall (fun _ _ => 0) ⟨#[], #[.agg #[.int .i64 0, .int .i64 0, .int .i64 0, .int .i64 0, .int .i64 0, .int .i64 0, .int .i64 0, .bool false, .int .i64 0, .int .i64 0, .int .i64 0, .int .i64 0, .int .i64 0, .int .u64 0, .int .u64 0, .int .i64 0, .int .i64 0], .slice none 0 0], []⟩).memory :=
  laidMetH_of_parts (laidMet_nil _ _) (by kernel_rfl)
theorem reads (os : Os) {H : Type} (enc : TypeId × Value → H) : ∃ places, DataW.whole enc Tryd.prog ((laidWorld os).forCall (fun _ _ => 0) ⟨#[], #[.agg #[.int .i64 0, .int .i64 0, .int .i64 0, .int .i64 0, .int .i64 0, .int .i64 0, .int .i64 0, .bool false, .int .i64 0, .int .i64 0, .int .i64 0, .int .i64 0, .int .i64 0, .int .u64 0, .int .u64 0, .int .i64 0, .int .i64 0], .slice none 0 0], []⟩).memory Tryd.f3.params.toList Rows.jobReadsSpec.vars false (#[.agg #[.int .i64 0, .int .i64 0, .int .i64 0, .int .i64 0, .int .i64 0, .int .i64 0, .int .i64 0, .bool false, .int .i64 0, .int .i64 0, .int .i64 0, .int .i64 0, .int .i64 0, .int .u64 0, .int .u64 0, .int .i64 0, .int .i64 0], .slice none 0 0] : Array Value).toList 8 = some ([.agg [.lit (.int .i64 0), .lit (.int .i64 0), .lit (.int .i64 0), .lit (.int .i64 0), .lit (.int .i64 0), .lit (.int .i64 0), .lit (.int .i64 0), .lit (.bool false), .lit (.int .i64 0), .lit (.int .i64 0), .lit (.int .i64 0), .lit (.int .i64 0), .lit (.int .i64 0), .lit (.int .u64 0), .lit (.int .u64 0), .lit (.int .i64 0), .lit (.int .i64 0)], .nil], [], places) :=
  ⟨[], by kernel_rfl⟩
set_option maxRecDepth 100000 in
theorem lifted (os : Os) (started : os.Started) (H : Type) (enc : TypeId × Value → H) (F : Stop.Interp) :
    ReturnsInHanded {} Tryd.checked os 3 .any ((OpenSpec.ofChange Rows.jobReadsSpec).preRow enc Tryd.prog Tryd.f3 Rows.jobReadsRow.domain false Rows.jobReadsRow.laid) (((OpenSpec.ofChange Rows.jobReadsSpec).at F).post enc Tryd.prog Tryd.f3 false true false false) := by
  obtain ⟨places, hx⟩ := reads os enc
  refine returnsInHanded_of_row (C := Tryd.checked) (s := OpenSpec.ofChange Rows.jobReadsSpec) own started (by kernel_rfl) Tryd.func3
    (witness_row_at (enc := enc) (C := Tryd.checked) false (laidWorld os) #[.agg #[.int .i64 0, .int .i64 0, .int .i64 0, .int .i64 0, .int .i64 0, .int .i64 0, .int .i64 0, .bool false, .int .i64 0, .int .i64 0, .int .i64 0, .int .i64 0, .int .i64 0, .int .u64 0, .int .u64 0, .int .i64 0, .int .i64 0], .slice none 0 0] rfl (by kernel_rfl) (by kernel_rfl) (by kernel_rfl)
      (OpenSpec.preRow_of_cond 8 hx (by kernel_rfl) (fun k hk => by cases hk) (by kernel_rfl) (laid_met os))) ?_
  intro W base args ds gs before hval hW _ _ _ hL _ _
  exact contract H enc W base args ds gs before hval hW hL
theorem said : Rows.JobReadsSaid :=
  OpenClaim.holds_of_cond 3 Tryd.f3 rfl rfl rfl rfl rfl rfl rfl ⟨rfl, rfl, rfl, rfl, rfl⟩ rfl rfl rfl rfl rfl (by kernel_rfl) Tryd.func3 (by kernel_rfl)
    (of_decide_eq_true (by kernel_rfl)) (by unfold Func.isWrapper; first | (rw [if_pos (by decide +kernel)]; kernel_rfl) | (rw [if_neg (by decide +kernel)]; exact ⟨rfl, rfl⟩))
    (fun os started H enc _ F => by rw [OpenClaim.pre_eq_preRow]; exact lifted os started H enc F)
theorem plain (f : FuncId) (fn : Func) (hf : Tryd.pinned.checked.prog.funcNamed "berthing/berthinglaw15.JobReads" = some f) (hfn : Tryd.pinned.checked.prog.funcs[f]? = some fn) :
    true = Tryd.pinned.checked.prog.looks [] ∧ ∀ (j : Nat) t, fn.params[j]? = some t → Tryd.pinned.checked.prog.wantsStandIn t = false := by
  obtain rfl : f = 3 := Option.some.inj ((show Tryd.prog.funcNamed "berthing/berthinglaw15.JobReads" = some 3 by kernel_rfl).symm.trans hf) |>.symm
  obtain rfl : fn = Tryd.f3 := (Option.some.inj (Tryd.func3.symm.trans hfn)).symm
  refine ⟨by kernel_rfl, fun j t ht => ?_⟩
  rw [Tryd.params3] at ht
  have hm : t ∈ (#[26, 27] : Array TypeId) := Array.mem_of_getElem? ht
  simp only [List.mem_toArray, List.mem_cons, List.not_mem_nil, or_false] at hm
  rcases hm with rfl | rfl
  · exact (show Tryd.prog.wantsStandIn 26 = false by kernel_rfl)
  · exact (show Tryd.prog.wantsStandIn 27 = false by kernel_rfl)
/-- THE CARD. -/
theorem card : Rows.JobReadsCardSaid :=
  Claim7.holds_tied_plain_at .later [] _ _ _ _ said (fun _ h => by cases h) (by kernel_rfl) (fun _ h => by cases h) jobReads_row_tie rfl ⟨rfl, rfl⟩ (by kernel_rfl) rfl plain (by kernel_rfl)
end Go.Proofs.YtgeldpfojmkdbaaDoor.lawJobReads
