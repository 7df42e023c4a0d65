/- Laws that belong together: bits.row: the words of nodes that follow one another. Condition: both are nodes (0 to 63).; Rows of ints of the call's own; rows of ints that may be read. No condition but what is said of each.; The reference's lists of nodes (layer 7): Of, Has alone (XBitsRef's first part, for seats in which Set has no body). No condition but that lists may be read.; The document's Set and Made at any nodes: the rest of XBitsRef, behind XRof. No condition.; Is a drain right, by the document: at any numbers, and rows of its nodes. No condition. -/
import Derived.Test.YtdpfbpmdpdfpdaaDoorMBitsIter
import Derived.Test.YtdpfbpmdpdfpdaaDoorMaj
import Derived.Test.YtdpfbpmdpdfpdaaDoorShelfB
import Derived.RangeFuncBox
import Derived.Maps.AppendAt
import Derived.Laws.OwnMore
import Derived.OwnWalk
import Derived.Test.YtdpfbpmdpdfpdaaDoorMai
import Derived.Test.YtdpfbpmdpdfpdaaDoorMab
import Derived.BigQuiet
namespace Go.Proofs.YtdpfbpmdpdfpdaaDoor
set_option linter.unusedVariables false
open Go.ChangeShapes Go.WideShapes Go.ChangeAt Go.RowKit Go.Shelf
attribute [local go_sem ↓] Go.wp_at_zero Go.wp_at_succ comesTo_value_eq comesTo_skip_eq comesTo_enter_eq

/-- bytes as a text -/
def strB (t : List UInt8) : ByteArray := ⟨t.toArray⟩
def strV (t : List UInt8) : Value := .string (strB t)
theorem strB_data (t : List UInt8) : (strB t).data.toList = t := rfl
theorem strB_app (a b : List UInt8) : strB a ++ strB b = strB (a ++ b) := by
  apply ByteArray.ext
  simp [strB, ByteArray.data_append]
theorem strB_inj {a b : List UInt8} (h : strB a = strB b) : a = b := by rw [← strB_data a, h, strB_data]
end Go.Proofs.YtdpfbpmdpdfpdaaDoor
namespace Go.Proofs.YtdpfbpmdpdfpdaaDoor
set_option linter.unusedVariables false
open Go.ChangeShapes Go.WideShapes Go.ChangeAt Go.RowKit

theorem infoInt : (Tryd.prog.info? 3).map (fun i => (i.zero, i.size, i.bytes)) = some (some (.int .i64 0), 1, 8) := by kernel_rfl
/-- a row of ints of the call's own, from block B on -/
def OwnI (w : World) (B : Nat) (v : Value) (l : List Int) : Prop := w.ownsRow B 3 1 v l.length (l.map (Value.int .i64))
theorem OwnI.below {w w' : World} {B : Nat} {v : Value} {l : List Int} (h : OwnI w B v l) (hb : Below w.heap.size w w') : OwnI w' B v l := by
  refine ⟨h.1, ?_⟩
  rcases h.2 with hn | ⟨g, cap, cur, hv, hB, hg, rest⟩
  · exact .inl hn
  · refine .inr ⟨g, cap, cur, hv, hB, ?_, rest⟩
    rw [hb.block g (Array.getElem?_eq_some_iff.1 hg).1]; exact hg
theorem OwnI.nil {w : World} {B : Nat} : OwnI w B (.slice none 0 0) [] := ⟨rfl, .inl ⟨rfl, rfl⟩⟩
theorem OwnI.mono {w : World} {B B' : Nat} {v : Value} {l : List Int} (h : OwnI w B v l) (hb : B' ≤ B) : OwnI w B' v l := by
  refine ⟨h.1, ?_⟩
  rcases h.2 with hn | ⟨g, cap, cur, hv, hB, rest⟩
  · exact .inl hn
  · exact .inr ⟨g, cap, cur, hv, by omega, rest⟩
/-- a row of ints that may be read -/
def ReadsI (w : World) (v : Value) (l : List Int) : Prop :=
  (l = [] ∧ ∃ a c, v = .slice a 0 c) ∨ (0 < l.length ∧ l.length ≤ 9223372036854775807 ∧ ∃ g o c, v = .slice (some ⟨g, o, none⟩) l.length c ∧ l.length ≤ c ∧ ∀ k, k < l.length → w.cell? ⟨g, o + k, none⟩ = some (.int .i64 (l.getD k 0)))
theorem ReadsI.below {w w' : World} {v : Value} {l : List Int} (h : ReadsI w v l) (hb : Below w.heap.size w w') : ReadsI w' v l := by
  rcases h with h | ⟨h0, h1, g, o, c, hv, hcap, hc⟩
  · exact .inl h
  · exact .inr ⟨h0, h1, g, o, c, hv, hcap, fun k hk => (hb.cell (p := ⟨g, o + k, none⟩) (World.block_lt_of_cell? w _ (hc k hk))).trans (hc k hk)⟩
theorem OwnI.ints {w : World} {B : Nat} {v : Value} {l : List Int} (h : OwnI w B v l) : ReadsI w v l := by
  rcases h.2 with ⟨hv, h0⟩ | ⟨g, cap, cur, rfl, hB, hg, hn, hm, hz, ht⟩
  · exact .inl ⟨List.length_eq_zero_iff.1 h0, none, 0, hv⟩
  · by_cases hl : l = []
    · subst hl; exact .inl ⟨rfl, _, _, rfl⟩
    · have hpos : 0 < l.length := by cases l with | nil => exact absurd rfl hl | cons _ _ => simp
      refine .inr ⟨hpos, by unfold maxLen at hm; omega, g, 0, cap, rfl, hn, fun k hk => ?_⟩
      have := h.cells (g := g) rfl k (.int .i64 (l.getD k 0)) (by simp [List.getD, List.getElem?_eq_getElem hk])
      have hadd : (⟨g, 0, none⟩ : Addr).add k = ⟨g, k, none⟩ := by unfold Addr.add; split <;> simp_all
      rw [hadd] at this
      rw [Nat.zero_add]; exact this
section
variable {ops : Array Oper} {rest : List Oper} {o : Oper} {a : Act} {w : World} {Q : Exit → Act → World → Prop}
/-- APPEND of one int -/
theorem wpList_append_int (T : TypeId) (hT : Tryd.prog.underlying T = some (.slice 3)) (hgd : o.guard = none) (s x : Operand)
    (ho : o.op = .call { callee := .builtin .append, args := #[s, x], argTypes := #[T, T] })
    (B : Nat) (v : Value) (l : List Int) (hs : a.eval s = v) (hown : OwnI w B v l) (g c : Nat) (n : Int) (hx : a.eval x = .slice (some ⟨g, 0, none⟩) 1 c)
    (c0 : w.cell? ⟨g, 0, none⟩ = some (.int .i64 n)) (h63 : l.length + 1 ≤ 1099511627776) (hB : B ≤ w.heap.size)
    (h : ∀ (v' : Value) (w' : World), OwnI w' B v' (l ++ [n]) → Below B w w' → wpList Tryd.prog ops Q rest (a.put o.dst v') w') : wpList Tryd.prog ops Q (o :: rest) a w := by
  obtain ⟨i0, hi, hz0, hz1, hz2⟩ := info_parts infoInt
  have hblk : ∀ k, v.ownBlock = some k → B ≤ k := fun k hk => by
    rcases hown.2 with ⟨rfl, _⟩ | ⟨g, cap, cur, rfl, hg, _⟩
    · cases hk
    · simp only [Value.ownBlock, Option.some.injEq] at hk; omega
  refine wpList_append_own _ hgd s x T ho B 3 i0 (.int .i64 0) 1 8 hT hi hz0 hz1 hz2 rfl (by decide) v l.length (l.map (Value.int .i64)) hs hown
      ⟨g, 0, none⟩ 1 c [.int .i64 n] hx rfl (fun j u hj => ?_) (fun u hu => ?_) (by unfold maxLen; omega) (by omega) hB (fun v' w' h1 h2 _ => ?_)
  · match j, hj with
    | 0, hj => simp at hj; subst hj; simpa [Addr.add] using c0
    | j + 1, hj => simp at hj
  · simp at hu
    subst hu; rfl
  · exact h v' w' (by unfold OwnI; rw [List.length_append, List.map_append]; exact h1) (Below.grown (Below.refl _ _) h2 hB hblk)
theorem append_types (T T2 ty : TypeId) (hT : Tryd.prog.underlying T = some (.slice 3)) (hT2 : Tryd.prog.underlying T2 = some (.slice 3)) (args : Array Value) :
    (Builtin.append_ #[T, T2] ty args).run Tryd.prog w = (Builtin.append_ #[T, T] ty args).run Tryd.prog w := by
  unfold Builtin.append_
  simp only [List.getElem?_toArray, List.getElem?_cons_zero, List.getElem?_cons_succ]
  cases h0 : args[0]? with
  | none => rfl
  | some s =>
    cases h1 : args[1]? with
    | none => rfl
    | some x => cases s <;> simp only [Sem.run_bind, run_underlying hT, run_underlying hT2, Result.andThen_ok, Sem.run_pure]
theorem append_nil (T ty : TypeId) (hT : Tryd.prog.underlying T = some (.slice 3)) (i : TypeInfo) (hi : Tryd.prog.info? 3 = some i) (v : Value) (n B : Nat) (xs : List Value) (hown : w.ownsRow B 3 1 v n xs) (c : Nat) :
    (Builtin.append_ #[T, T] ty #[v, .slice none 0 c]).run Tryd.prog w = .ok v w := by
  rcases hown.2 with ⟨rfl, rfl⟩ | ⟨g, cap, cur, rfl, _, _, hnc, _⟩
  · simp [Builtin.append_, run_underlying hT, sizeOf, typeInfo, hi, Builtin.lenOf, Builtin.firstCells]
  · simp [Builtin.append_, run_underlying hT, sizeOf, typeInfo, hi, Builtin.lenOf, Builtin.firstCells, hnc, storeCells]
/-- what an append of a row that may be read comes to -/
theorem run_append_read (T T2 ty : TypeId) (hT : Tryd.prog.underlying T = some (.slice 3)) (hT2 : Tryd.prog.underlying T2 = some (.slice 3)) (B : Nat) (v : Value) (l : List Int) (hown : OwnI w B v l) (vx : Value) (l2 : List Int) (hr : ReadsI w vx l2)
    (h63 : l.length + l2.length ≤ 1099511627776) (hB : B ≤ w.heap.size) :
    ∃ v' w', (Builtin.append_ #[T, T2] ty #[v, vx]).run Tryd.prog w = .ok v' w' ∧ OwnI w' B v' (l ++ l2) ∧ Below B w w' := by
  obtain ⟨i0, hi, hz0, hz1, hz2⟩ := info_parts infoInt
  have hblk : ∀ k, v.ownBlock = some k → B ≤ k := fun k hk => by
    rcases hown.2 with ⟨rfl, _⟩ | ⟨g, cap, cur, rfl, hg, _⟩
    · cases hk
    · simp only [Value.ownBlock, Option.some.injEq] at hk; omega
  have key : ∀ (ad : Addr) (c : Nat), vx = .slice (some ad) l2.length c → (∀ j u, (l2.map (Value.int .i64))[j]? = some u → w.cell? (ad.add j) = some u) →
      ∃ v' w', (Builtin.append_ #[T, T2] ty #[v, vx]).run Tryd.prog w = .ok v' w' ∧ OwnI w' B v' (l ++ l2) ∧ Below B w w' := by
    rintro ad c rfl hc
    rw [append_types T T2 ty hT hT2]
    obtain ⟨v', w', h0, h1, h2, _⟩ := run_append_own (P := Tryd.prog) w B T ty 3 i0 (.int .i64 0) 1 8 hT hi hz0 hz1 hz2 rfl (by decide) v l.length (l.map (Value.int .i64)) hown
      ad l2.length c (l2.map (Value.int .i64)) (by simp) hc (fun u hu => by obtain ⟨y, _, rfl⟩ := List.mem_map.1 hu; rfl) (by unfold maxLen; omega) (by omega) hB
    exact ⟨v', w', h0, by unfold OwnI; rw [List.length_append, List.map_append]; exact h1, Below.grown (Below.refl _ _) h2 hB hblk⟩
  rcases hr with ⟨rfl, a, c, rfl⟩ | ⟨h0, h1, g, o, c, rfl, _, hc⟩
  · cases a with
    | none =>
      refine ⟨v, w, ?_, by rw [List.append_nil]; exact hown, Below.refl _ _⟩
      rw [append_types T T2 ty hT hT2]
      exact append_nil T ty hT i0 hi v l.length B _ hown c
    | some ad => exact key ad c rfl (fun j u hj => by simp at hj)
  · refine key ⟨g, o, none⟩ c rfl (fun j u hj => ?_)
    rw [List.getElem?_map] at hj
    cases hj2 : l2[j]? with
    | none => rw [hj2] at hj; cases hj
    | some y =>
      rw [hj2] at hj; cases hj
      obtain ⟨hlt, _⟩ := List.getElem?_eq_some_iff.1 hj2
      have hadd : (⟨g, o, none⟩ : Addr).add j = ⟨g, o + j, none⟩ := by unfold Addr.add; split <;> simp_all
      rw [hadd, hc j hlt]
      simp [List.getD, hj2]
/-- APPEND of a row of ints that may be read -/
theorem wpList_append_read (T T2 : TypeId) (hT : Tryd.prog.underlying T = some (.slice 3)) (hT2 : Tryd.prog.underlying T2 = some (.slice 3)) (hgd : o.guard = none) (s x : Operand)
    (ho : o.op = .call { callee := .builtin .append, args := #[s, x], argTypes := #[T, T2] })
    (B : Nat) (v : Value) (l : List Int) (hs : a.eval s = v) (hown : OwnI w B v l) (vx : Value) (l2 : List Int) (hx : a.eval x = vx) (hr : ReadsI w vx l2) (h63 : l.length + l2.length ≤ 1099511627776) (hB : B ≤ w.heap.size)
    (h : ∀ (v' : Value) (w' : World), OwnI w' B v' (l ++ l2) → Below B w w' → wpList Tryd.prog ops Q rest (a.put o.dst v') w') : wpList Tryd.prog ops Q (o :: rest) a w := by
  obtain ⟨v', w', hrun, h1, h2⟩ := run_append_read (w := w) T T2 o.type hT hT2 B v l hown vx l2 hr h63 hB
  refine wpList_plain hgd fun K hK => ?_
  unfold Oper.wp execOp
  simp only [ho, resolve, invoke, builtin, Sem.run_bind, Sem.run_pure, Result.andThen_ok, List.map_toArray, List.map_cons, List.map_nil, hs, hx, hrun]
  exact hK _ _ (h v' w' h1 h2)
end
theorem OwnI.form {w : World} {B : Nat} {v : Value} {l : List Int} (h : OwnI w B v l) : ∃ a c, v = .slice a l.length c := by
  rcases h.2 with ⟨hv, h0⟩ | ⟨g, cap, cur, hv, _⟩
  · exact ⟨none, 0, by rw [hv, h0]⟩
  · exact ⟨_, cap, hv⟩
/-- a row that was just made, empty -/
theorem OwnI.made (w : World) : OwnI (w.alloc (.cells #[] 3)) w.heap.size (.slice (some ⟨w.heap.size, 0, none⟩) 0 0) [] :=
  ⟨rfl, .inr ⟨w.heap.size, 0, #[], rfl, Nat.le_refl _, World.alloc_heap_new w _, Nat.le_refl _, Nat.zero_le _, rfl, rfl⟩⟩
/-- ints that came in -/
theorem readsI_open {H : Type} {enc : TypeId × Value → H} {W : World} {a : Option Addr} {len cap : Nat} {d : DataW H} {p : List MemPlace}
    (h : DataW.Trod enc Tryd.prog W 0 (fun _ => true) true 31 (.slice a len cap) d p) : ∃ zs : List Int, ReadsI W (.slice a len cap) zs ∧ zs.length = len ∧ len ≤ cap := by
  obtain ⟨fuel, hf⟩ := h
  rcases open_ints Tryd.underlying31 Tryd.underlying3 (by kernel_rfl) hf with ⟨hcs, _⟩ | ⟨x, l, c, zs, hcs, _, hl, hm, hz, hd, hcell, hwz⟩
  · simp [Value.cells] at hcs
    obtain ⟨rfl, rfl, rfl⟩ := hcs
    exact ⟨[], .inl ⟨rfl, _, _, rfl⟩, rfl, Nat.le_refl _⟩
  · simp [Value.cells] at hcs
    obtain ⟨rfl, rfl, rfl⟩ := hcs
    have hz' : zs.length = cap := by simpa using hz
    have htl : (zs.take len).length = len := by simp; omega
    by_cases h0 : len = 0
    · subst h0
      exact ⟨[], .inl ⟨rfl, _, _, rfl⟩, rfl, Nat.zero_le _⟩
    · obtain ⟨b, off, spot⟩ := x
      have hc := hcell 0 (by omega)
      have hspot : spot = none := by simpa [Addr.add] using World.cell?_spot hc
      subst hspot
      refine ⟨zs.take len, .inr ⟨by omega, by rw [htl]; unfold maxLen at hm; omega, b, off, cap, by rw [htl], by omega, fun k hk => ?_⟩, htl, by omega⟩
      rw [htl] at hk
      have hg : (zs.take len).getD k 0 = zs.getD k 0 := by simp [List.getD, List.getElem?_take, hk]
      have hplain : (⟨b, off, none⟩ : Addr).add k = ⟨b, off + k, none⟩ := by unfold Addr.add; split <;> simp_all
      rw [hg, ← hplain]
      exact hcell k (by omega)
/-- so many of the first -/
theorem ReadsI.take {w : World} {a : Option Addr} {len c : Nat} {l : List Int} (h : ReadsI w (.slice a len c) l) (hl : l.length = len) {n : Nat} (hn : n ≤ len) (c' : Nat) (hc' : n ≤ c') : ReadsI w (.slice a n c') (l.take n) := by
  by_cases h0 : n = 0
  · subst h0; exact .inl ⟨rfl, _, _, rfl⟩
  · rcases h with ⟨rfl, _⟩ | ⟨h1, h2, g, o, c2, hv, _, hc⟩
    · simp at hl; omega
    · cases hv
      have ht : (l.take n).length = n := by rw [List.length_take]; omega
      refine .inr ⟨by omega, by omega, g, o, c', by rw [ht], by omega, fun k hk => ?_⟩
      rw [ht] at hk
      rw [hc k (by omega)]
      simp [List.getD, List.getElem?_take_of_lt hk]
/-- a call made a row of ints of its own -/
def GivesI (w : World) (l : List Int) (e : Ending) (w' : World) : Prop := ∃ v, e = .returned v ∧ OwnI w' w.heap.size v l ∧ Below w.heap.size w w'
end Go.Proofs.YtdpfbpmdpdfpdaaDoor
namespace Go.Proofs.YtdpfbpmdpdfpdaaDoor
set_option linter.unusedVariables false
open Go.ChangeShapes Go.WideShapes Go.ChangeAt Go.RowKit
attribute [local go_sem ↓] Go.wp_at_zero Go.wp_at_succ

theorem bit_at (s : NSet) (k : Nat) : ((s.toNat / 2 ^ k % 2 : Nat) : Int) = if s.getLsbD k = true then 1 else 0 := by
  have : s.getLsbD k = decide (s.toNat / 2 ^ k % 2 = 1) := by
    rw [BitVec.getLsbD, Nat.testBit_eq_decide_div_mod_eq]
  rw [this]
  by_cases h : s.toNat / 2 ^ k % 2 = 1
  · simp [h]
  · have : s.toNat / 2 ^ k % 2 = 0 := by omega
    simp [this]
set_option maxRecDepth 100000 in
theorem rof_any (s : NSet) (w : World) : Calls Tryd.prog 45 #[.int .u64 (nv s)] w (GivesI w (nodes s)) := by
  rw [← upto_nodes]
  go_enter Tryd.func45, Tryd.ntmps45
  go_wp2
  go_loopw [0, 3, 4] (fun x l i wr => ∃ (k : Nat) (v : Value), k ≤ 64 ∧ i = .int .i64 k ∧ x = .int .u64 ((s.toNat / 2 ^ k : Nat) : Int) ∧ l = v ∧ OwnI wr w.heap.size v (upto (fun i => s.getLsbD i) k) ∧ Below w.heap.size w wr) (fun _ _ i _ => 64 - (intOf i).toNat)
  case atStart => exact ⟨0, _, by omega, rfl, by simp [nv], rfl, OwnI.nil, Below.refl _ _⟩
  case round =>
    obtain ⟨k, v, hk, rfl, rfl, rfl, hO, hB⟩ := hrel
    have hlen := upto_length (fun i => s.getLsbD i) k
    by_cases hlt : k < 64
    · have hb := bit_at s k
      have e2 : s.toNat / 2 ^ k / 2 = s.toNat / 2 ^ (k + 1) := by rw [Nat.div_div_eq_div_mul, Nat.pow_succ]
      have hX : ((s.toNat / 2 ^ (k + 1) : Nat) : Int) = ((s.toNat / 2 ^ k : Nat) : Int) / 2 := by rw [← e2]; generalize s.toNat / 2 ^ k = y; omega
      have hm : ((s.toNat / 2 ^ k % 2 : Nat) : Int) = ((s.toNat / 2 ^ k : Nat) : Int) % 2 := by generalize s.toNat / 2 ^ k = y; omega
      rw [hm] at hb
      have HX := Lib.hid hX
      clear hX hm e2
      have hx0 : 0 ≤ ((s.toNat / 2 ^ k : Nat) : Int) := Int.natCast_nonneg _
      have hx1 : ((s.toNat / 2 ^ k : Nat) : Int) ≤ 18446744073709551615 := by have h1 := s.isLt; have h2 := Nat.div_le_self s.toNat (2 ^ k); generalize s.toNat / 2 ^ k = y at *; omega
      generalize ((s.toNat / 2 ^ k : Nat) : Int) = X at *
      cases hbit : s.getLsbD k with
      | true =>
        rw [hbit, if_pos rfl] at hb
        have hb' : (X % 2 == 1) = true := by rw [hb]; rfl
        have HU := Lib.hid (upto_yes (p := fun i => s.getLsbD i) hbit)
        clear hb hbit
        go_wp2_with (at_builtin; refine wpList_append_int 32 Tryd.underlying32 rfl _ _ rfl w.heap.size u3 _ rfl (hO.below (below_alloc (Below.refl _ wr) _)) wr.heap.size 1 (k : Int) rfl (by simp) (by omega) (by simp; have := hB.size; omega) ?_; intro v' w1 hO' hB')
        go_roundw
        case rel => exact ⟨k + 1, _, by omega, by go_num, by rw [HX.out], rfl, by rw [HU.out]; exact hO', hB.trans ((Below.alloc (Below.refl _ _) hB.size _).trans hB')⟩
        case measure => simp [intOf]; omega
      | false =>
        rw [hbit, if_neg (by decide)] at hb
        have hb' : (X % 2 == 1) = false := by rw [hb]; rfl
        have HU := Lib.hid (upto_no (p := fun i => s.getLsbD i) hbit)
        clear hb hbit
        go_wp2
        go_roundw
        case rel => exact ⟨k + 1, _, by omega, by go_num, by rw [HX.out], rfl, by rw [HU.out]; exact hO, hB⟩
        case measure => simp [intOf]; omega
    · obtain rfl : k = 64 := by omega
      go_wp2
      go_ret
      exact ⟨_, rfl, hO, hB⟩
set_option maxRecDepth 100000 in
theorem rhas_row (g o c : Nat) (l : List Int) (n : Int) (w : World) (hl : l.length ≤ 9223372036854775807) (hc : ∀ k, k < l.length → w.cell? ⟨g, o + k, none⟩ = some (.int .i64 (l.getD k 0))) :
    Calls Tryd.prog 86 #[.slice (some ⟨g, o, none⟩) l.length c, .int .i64 n] w fun e w' => e = .returned (.bool (decide (n ∈ l))) ∧ w = w' := by
  have HC := Lib.hid hc
  clear hc
  generalize hD : decide (n ∈ l) = D
  have HD := Lib.hid hD
  clear hD
  go_enter Tryd.func86, Tryd.ntmps86
  go_wp2
  go_loop [5] (fun i => ∃ k : Nat, k ≤ l.length ∧ i = .int .i64 k ∧ n ∉ l.take k) (fun i => l.length - (intOf i).toNat)
  case atStart => exact ⟨0, Nat.zero_le _, rfl, by simp⟩
  case round =>
    obtain ⟨k, hk, rfl, hno⟩ := hrel
    by_cases hlt : k < l.length
    · have hcell := HC.out k hlt
      have hx : l.getD k 0 = l[k] := by simp [List.getD, List.getElem?_eq_getElem hlt]
      by_cases hn : l.getD k 0 = n
      · have hb : (l.getD k 0 == n) = true := by simpa using hn
        have hD2 : D = true := by rw [← HD.out, decide_eq_true_eq, ← hn, hx]; exact List.getElem_mem hlt
        subst hD2
        clear hn hx hno
        generalize l.getD k 0 = x at *
        go_wp2
        go_ret
        exact ⟨rfl, rfl⟩
      · have hb : (l.getD k 0 == n) = false := by simpa using hn
        have HN := Lib.hid (show n ∉ l.take (k + 1) by
          rw [List.take_succ_eq_append_getElem hlt, List.mem_append, List.mem_singleton]
          rintro (h | h)
          · exact hno h
          · exact hn (hx.trans h.symm))
        clear hn hx hno
        generalize l.getD k 0 = x at *
        go_wp2
        go_round
        case rel => exact ⟨k + 1, by omega, by go_num, HN.out⟩
        case measure => simp [intOf]; omega
    · obtain rfl : k = l.length := by omega
      have hD2 : D = false := by rw [← HD.out, decide_eq_false_iff_not]; rwa [List.take_of_length_le (Nat.le_refl _)] at hno
      subst hD2
      clear hno
      go_wp2
      go_ret
      exact ⟨rfl, rfl⟩
theorem rhas_none (a : Option Addr) (c : Nat) (n : Int) (w : World) :
    Calls Tryd.prog 86 #[.slice a 0 c, .int .i64 n] w fun e w' => e = .returned (.bool false) ∧ w = w' := by
  go_enter Tryd.func86, Tryd.ntmps86
  go_wp2
  go_loop [5] (fun i => i = .int .i64 0) (fun i => 0)
  case atStart => exact rfl
  case round =>
    subst hrel
    go_wp2
    go_ret
    exact ⟨rfl, rfl⟩
theorem rhas_any {v : Value} {l : List Int} (n : Int) (w : World) (h : ReadsI w v l) :
    Calls Tryd.prog 86 #[v, .int .i64 n] w fun e w' => e = .returned (.bool (decide (n ∈ l))) ∧ w = w' := by
  rcases h with ⟨rfl, a, c, rfl⟩ | ⟨h0, h1, g, o, c, rfl, _, hc⟩
  · have := rhas_none a c n w
    simpa using this
  · exact rhas_row g o c l n w h1 hc
end Go.Proofs.YtdpfbpmdpdfpdaaDoor
namespace Go.Proofs.YtdpfbpmdpdfpdaaDoor
set_option linter.unusedVariables false
open Go.ChangeShapes Go.WideShapes Go.ChangeAt Go.RowKit
attribute [local go_sem ↓] Go.wp_at_zero Go.wp_at_succ
set_option maxRecDepth 100000 in
theorem rset_row (g o c : Nat) (l : List Int) (w : World) (hl : l.length ≤ 9223372036854775807) (hc : ∀ k, k < l.length → w.cell? ⟨g, o + k, none⟩ = some (.int .i64 (l.getD k 0)))
    (hr : ∀ x ∈ l, 0 ≤ x ∧ x < 64) (hs : ∀ k, k < l.length → hasI (addL 0#64 (l.take k)) (l.getD k 0) = false) :
    Calls Tryd.prog 50 #[.slice (some ⟨g, o, none⟩) l.length c] w fun e w' => e = .returned (.int .u64 (nv (addL 0#64 l))) ∧ w = w' := by
  have HC := Lib.hid hc
  clear hc
  go_enter Tryd.func50, Tryd.ntmps50
  go_wp2
  go_loop [3, 4] (fun s i => ∃ k : Nat, k ≤ l.length ∧ i = .int .i64 k ∧ s = .int .u64 (nv (addL 0#64 (l.take k)))) (fun _ i => l.length - (intOf i).toNat)
  case atStart => exact ⟨0, Nat.zero_le _, rfl, rfl⟩
  case round =>
    obtain ⟨k, hk, rfl, rfl⟩ := hrel
    by_cases hlt : k < l.length
    · have hcell := HC.out k hlt
      have hx : l.getD k 0 = l[k] := by simp [List.getD, List.getElem?_eq_getElem hlt]
      have hb : 0 ≤ l.getD k 0 ∧ l.getD k 0 < 64 := by rw [hx]; exact hr _ (List.getElem_mem hlt)
      have hnew := and_oneI_zero (hs k hlt)
      have e1 : addL 0#64 (l.take (k + 1)) = addL 0#64 (l.take k) ||| oneI (l.getD k 0) := by
        rw [List.take_succ_eq_append_getElem hlt, addL_snoc, hx]
      have e2 := add_or_nat hnew
      rw [← e1] at e2
      have e3 := one_val (l.getD k 0) hb.1
      have HE : nv (addL 0#64 (l.take k)) + nv (oneI (l.getD k 0)) = nv (addL 0#64 (l.take (k + 1))) := by unfold nv; omega
      have hA0 := nv_lo (addL 0#64 (l.take k))
      have hO0 := nv_lo (oneI (l.getD k 0))
      have hS1 := nv_hi (addL 0#64 (l.take (k + 1)))
      clear e1 e2 hnew hx
      generalize hS2 : nv (addL 0#64 (l.take (k + 1))) = S2 at *
      have HS2 := Lib.hid hS2
      clear hS2
      generalize nv (addL 0#64 (l.take k)) = S1 at *
      generalize nv (oneI (l.getD k 0)) = O at *
      generalize l.getD k 0 = x at *
      obtain ⟨hx0, hx1⟩ := hb
      subst HE
      go_wp2
      go_round
      case rel => exact ⟨k + 1, by omega, by go_num, by rw [HS2.out]⟩
      case measure => simp [intOf]; omega
    · obtain rfl : k = l.length := by omega
      rw [List.take_of_length_le (Nat.le_refl _)]
      go_wp2
      go_ret
      exact ⟨rfl, rfl⟩
theorem rset_none (a : Option Addr) (c : Nat) (w : World) : Calls Tryd.prog 50 #[.slice a 0 c] w fun e w' => e = .returned (.int .u64 0) ∧ w = w' := by
  go_enter Tryd.func50, Tryd.ntmps50
  go_wp2
  go_loop [3, 4] (fun s i => s = .int .u64 0 ∧ i = .int .i64 0) (fun _ i => 0)
  case atStart => exact ⟨rfl, rfl⟩
  case round =>
    obtain ⟨rfl, rfl⟩ := hrel
    go_wp2
    go_ret
    exact ⟨rfl, rfl⟩
/-- the set of nodes that rise -/
theorem rset_any {v : Value} {l : List Int} (w : World) (h : ReadsI w v l) (hr : ∀ x ∈ l, 0 ≤ x ∧ x < 64) (hs : l.Pairwise (· < ·)) :
    Calls Tryd.prog 50 #[v] w fun e w' => e = .returned (.int .u64 (nv (addL 0#64 l))) ∧ w = w' := by
  rcases h with ⟨rfl, a, c, rfl⟩ | ⟨h0, h1, g, o, c, rfl, _, hc⟩
  · exact rset_none a c w
  · exact rset_row g o c l w h1 hc hr (fun k hk => rising_new hs hr k hk)
theorem rset_nodes {v : Value} (s : NSet) (w : World) (h : ReadsI w v (nodes s)) : Calls Tryd.prog 50 #[v] w fun e w' => e = .returned (.int .u64 (nv s)) ∧ w = w' := by
  have := rset_any w h (fun x hx => hasI_lt ((nodes_mem (card s) s rfl x).1 hx)) (nodes_sorted (card s) s rfl)
  rw [addL_nodes] at this
  exact this
theorem with_set15 (s : NSet) (n : Int) : addL 0#64 (nodes s ++ [n]) = s ||| oneI n := by rw [addL_snoc, addL_nodes]
end Go.Proofs.YtdpfbpmdpdfpdaaDoor
namespace Go.Proofs.YtdpfbpmdpdfpdaaDoor
set_option linter.unusedVariables false
open Go.ChangeShapes Go.WideShapes Go.ChangeAt Go.RowKit
attribute [local go_sem ↓] Go.wp_at_zero Go.wp_at_succ comesTo_value_eq comesTo_skip_eq comesTo_enter_eq Rl.comesToR_value_eq Rl.comesToR_skip_eq Rl.comesToR_enter_eq

theorem ReadsI.at {w : World} {a : Option Addr} {n c : Nat} {l : List Int} (h : ReadsI w (.slice a n c) l) {k : Nat} (hk : k < l.length) : ∃ g o, a = some ⟨g, o, none⟩ ∧ w.cell? ⟨g, o + k, none⟩ = some (.int .i64 (l.getD k 0)) := by
  rcases h with ⟨rfl, _⟩ | ⟨_, _, g, o, c', e, _, hc⟩
  · simp at hk
  · cases e
    exact ⟨g, o, rfl, hc k hk⟩
theorem ReadsI.form {w : World} {v : Value} {l : List Int} (h : ReadsI w v l) : ∃ a c, v = .slice a l.length c := by
  rcases h with ⟨rfl, a, c, e⟩ | ⟨_, _, g, o, c', e, _, hc⟩
  · exact ⟨a, c, e⟩
  · exact ⟨_, c', e⟩
theorem mem_nodes (s : NSet) (x : Int) : x ∈ nodes s ↔ hasI s x = true := nodes_mem (card s) s rfl x
theorem node_lt {s : NSet} {x : Int} (h : x ∈ nodes s) : 0 ≤ x ∧ x < 64 := hasI_lt ((mem_nodes s x).1 h)
theorem hasI_and2 (a b : NSet) (n : Int) : hasI (a &&& b) n = (hasI a n && hasI b n) := by
  unfold hasI
  rw [BitVec.getLsbD_and]
  cases decide (0 ≤ n) <;> simp
theorem and_zero_nodes (D H : NSet) : D &&& H = 0#64 ↔ ∀ x ∈ nodes D, x ∉ nodes H := by
  constructor
  · intro h x hx hy
    have h1 : hasI (D &&& H) x = true := by rw [hasI_and2, (mem_nodes D x).1 hx, (mem_nodes H x).1 hy]; rfl
    rw [h] at h1
    simp [hasI] at h1
  · intro h
    refine BitVec.eq_of_getLsbD_eq fun i hi => ?_
    rw [BitVec.getLsbD_and, BitVec.getLsbD_zero, Bool.and_eq_false_iff]
    by_cases hD : D.getLsbD i = true
    · refine .inr ?_
      have := h (i : Int) ((mem_nodes D i).2 (by rw [hasI_nat]; exact hD))
      rw [mem_nodes, hasI_nat] at this
      simpa using this
    · exact .inl (by simpa using hD)
theorem getD_mem {l : List Int} {k : Nat} (hk : k < l.length) : l.getD k 0 ∈ l := by
  simp [List.getD, List.getElem?_eq_getElem hk]
theorem ret_b {a b : Bool} (h : a = b) : Ending.returned (.bool a) = .returned (.bool b) := by rw [h]
set_option maxRecDepth 100000 in
set_option maxHeartbeats 4000000 in
theorem rright_any (W F : Int) (D H : NSet) {vD vH : Value} (w : World) (hD : ReadsI w vD (nodes D)) (hH : ReadsI w vH (nodes H)) :
    Calls Tryd.prog 46 #[.agg #[.int .i64 W, .int .i64 F, vD, vH], .int .i64 64] w fun e w' => e = .returned (.bool (rightR W F D H)) ∧ Below w.heap.size w w' := by
  have hmx : Tryd.prog.follows .mixedOrders = true := by kernel_rfl
  obtain ⟨aD, cD, rfl⟩ := hD.form
  obtain ⟨aH, cH, rfl⟩ := hH.form
  have hA := below_alloc (Below.refl _ w) (.cells #[.int .i64 W, .int .i64 F, .slice aD (nodes D).length cD, .slice aH (nodes H).length cH] 34)
  have n1 := World.alloc_heap_new w (.cells #[.int .i64 W, .int .i64 F, .slice aD (nodes D).length cD, .slice aH (nodes H).length cH] 34)
  have HA := Lib.hid hA
  have HX := Lib.hid (fun X (hX : Below (w.alloc (.cells #[.int .i64 W, .int .i64 F, .slice aD (nodes D).length cD, .slice aH (nodes H).length cH] 34)).heap.size (w.alloc (.cells #[.int .i64 W, .int .i64 F, .slice aD (nodes D).length cD, .slice aH (nodes H).length cH] 34)) X) => (hX.block _ (Array.getElem?_eq_some_iff.1 n1).1).trans n1)
  have HDR := Lib.hid (hD.below hA)
  have HHR := Lib.hid (hH.below hA)
  have HRT := Lib.hid (show rightR W F D H = decide (1 ≤ W ∧ W ≤ 64 ∧ 0 ≤ F ∧ F < 1099511627776 ∧ D &&& H = 0#64 ∧ ((nodes H).length : Int) ≤ W) from by unfold rightR; rw [nodes_length (card H) H rfl])
  have HZ := Lib.hid (and_zero_nodes D H)
  have HND := Lib.hid (fun x (h : x ∈ nodes D) => node_lt h)
  have HNH := Lib.hid (fun x (h : x ∈ nodes H) => node_lt h)
  have HLD := Lib.hid (show (nodes D).length ≤ 64 by rw [nodes_length (card D) D rfl]; exact card_le D)
  have HLH := Lib.hid (show (nodes H).length ≤ 64 by rw [nodes_length (card H) H rfl]; exact card_le H)
  clear hA n1 hD hH
  generalize rightR W F D H = rr at *
  generalize nodes D = lD at *
  generalize nodes H = lH at *
  go_enter Tryd.func46, Tryd.ntmps46
  go_upto_region 1 with fail
  generalize w.alloc (.cells #[.int .i64 W, .int .i64 F, .slice aD lD.length cD, .slice aH lH.length cH] 34) = W1 at *
  have H0 := Lib.hid (fun X (hX : Below W1.heap.size W1 X) => cell_of_block (o := 0) (HX.out X hX) rfl)
  have H1 := Lib.hid (fun X (hX : Below W1.heap.size W1 X) => cell_of_block (o := 1) (HX.out X hX) rfl)
  have H2 := Lib.hid (fun X (hX : Below W1.heap.size W1 X) => cell_of_block (o := 2) (HX.out X hX) rfl)
  have H3 := Lib.hid (fun X (hX : Below W1.heap.size W1 X) => cell_of_block (o := 3) (HX.out X hX) rfl)
  have c0 := H0.out W1 (Below.refl _ _)
  have c1 := H1.out W1 (Below.refl _ _)
  have c2 := H2.out W1 (Below.refl _ _)
  have c3 := H3.out W1 (Below.refl _ _)
  by_cases h1 : W < 1
  · have E := Lib.hid (show rr = false by rw [HRT.out]; exact decide_eq_false (by omega))
    have d1 : decide (W < 1) = true := decide_eq_true h1
    clear h1
    go_wp2_with fail
    go_ret
    exact ⟨ret_b E.out.symm, HA.out⟩
  by_cases h2 : W > 64
  · have E := Lib.hid (show rr = false by rw [HRT.out]; exact decide_eq_false (by omega))
    have d1 : decide (W < 1) = false := decide_eq_false h1
    have d2 : decide (W > 64) = true := decide_eq_true h2
    have d3 : decide (64 < W) = true := decide_eq_true h2
    clear h1 h2
    go_wp2_with fail
    go_ret
    exact ⟨ret_b E.out.symm, HA.out⟩
  by_cases h3 : F < 0
  · have E := Lib.hid (show rr = false by rw [HRT.out]; exact decide_eq_false (by omega))
    have d1 : decide (W < 1) = false := decide_eq_false h1
    have d2 : decide (W > 64) = false := decide_eq_false h2
    have d3 : decide (64 < W) = false := decide_eq_false h2
    have d4 : decide (F < 0) = true := decide_eq_true h3
    clear h1 h2 h3
    go_wp2_with fail
    go_ret
    exact ⟨ret_b E.out.symm, HA.out⟩
  by_cases h4 : F ≥ 1099511627776
  · have E := Lib.hid (show rr = false by rw [HRT.out]; exact decide_eq_false (by omega))
    have d1 : decide (W < 1) = false := decide_eq_false h1
    have d2 : decide (W > 64) = false := decide_eq_false h2
    have d3 : decide (64 < W) = false := decide_eq_false h2
    have d4 : decide (F < 0) = false := decide_eq_false h3
    have d5 : decide (F ≥ 1099511627776) = true := decide_eq_true h4
    have d6 : decide (1099511627776 ≤ F) = true := decide_eq_true h4
    clear h1 h2 h3 h4
    go_wp2_with fail
    go_ret
    exact ⟨ret_b E.out.symm, HA.out⟩
  by_cases h5 : (lH.length : Int) > W
  · have E := Lib.hid (show rr = false by rw [HRT.out]; exact decide_eq_false (by omega))
    have d1 : decide (W < 1) = false := decide_eq_false h1
    have d2 : decide (W > 64) = false := decide_eq_false h2
    have d3 : decide (64 < W) = false := decide_eq_false h2
    have d4 : decide (F < 0) = false := decide_eq_false h3
    have d5 : decide (F ≥ 1099511627776) = false := decide_eq_false h4
    have d6 : decide (1099511627776 ≤ F) = false := decide_eq_false h4
    have d7 : decide ((lH.length : Int) > W) = true := decide_eq_true h5
    have d8 : decide (W < (lH.length : Int)) = true := decide_eq_true h5
    clear h1 h2 h3 h4 h5
    go_wp2_with fail
    go_ret
    exact ⟨ret_b E.out.symm, HA.out⟩
  have HRT2 := Lib.hid (show rr = decide (D &&& H = 0#64) by
    rw [HRT.out]
    exact decide_eq_decide.2 ⟨fun h => h.2.2.2.2.1, fun h => ⟨by omega, by omega, by omega, by omega, h, by omega⟩⟩)
  have d1 : decide (W < 1) = false := decide_eq_false h1
  have d2 : decide (W > 64) = false := decide_eq_false h2
  have d3 : decide (64 < W) = false := decide_eq_false h2
  have d4 : decide (F < 0) = false := decide_eq_false h3
  have d5 : decide (F ≥ 1099511627776) = false := decide_eq_false h4
  have d6 : decide (1099511627776 ≤ F) = false := decide_eq_false h4
  have d7 : decide ((lH.length : Int) > W) = false := decide_eq_false h5
  have d8 : decide (W < (lH.length : Int)) = false := decide_eq_false h5
  clear h1 h2 h3 h4 h5 HRT
  go_wp2_with fail
  clear c0 c1 c2 c3 d1 d2 d3 d4 d5 d6 d7 d8
  go_loopw [5] (fun i wr => ∃ k : Nat, k ≤ lD.length ∧ i = .int .i64 k ∧ (∀ j, j < k → lD.getD j 0 ∉ lH) ∧ Below W1.heap.size W1 wr) (fun i _ => lD.length - (intOf i).toNat)
  case atStart => exact ⟨0, Nat.zero_le _, rfl, fun j hj => by omega, Below.refl _ _⟩
  case round =>
    obtain ⟨k, hk, rfl, hno, hb⟩ := hrel
    have HB := Lib.hid hb
    have HNO := Lib.hid hno
    clear hno hb
    have c2 := H2.out wr HB.out
    have c3 := H3.out wr HB.out
    by_cases hlt : k < lD.length
    · have hd : decide (k < lD.length) = true := decide_eq_true hlt
      have hkl : (k : Int) < (lD.length : Int) := by omega
      obtain ⟨g, o, hg, hcl⟩ := (HDR.out.below HB.out).at hlt
      subst hg
      have HM := Lib.hid (getD_mem hlt)
      have hx := HND.out _ (getD_mem hlt)
      have d1 : decide (lD.getD k 0 ≥ 64) = false := decide_eq_false (by omega)
      have d2 : decide (64 ≤ lD.getD k 0) = false := decide_eq_false (by omega)
      have HCL := Lib.hid (fun X (hX : Below wr.heap.size wr X) => (hX.cell (p := ⟨g, o + k, none⟩) (World.block_lt_of_cell? wr _ hcl)).trans hcl)
      have KH := Lib.hid (fun X (hX : Below wr.heap.size wr X) => rhas_any (lD.getD k 0) X ((HHR.out.below HB.out).below hX))
      have H2r := Lib.hid (fun X (hX : Below wr.heap.size wr X) => H2.out X (below_next HB.out hX))
      have H3r := Lib.hid (fun X (hX : Below wr.heap.size wr X) => H3.out X (below_next HB.out hX))
      have HW1 := Lib.hid (show IntKind.i64.wrap ((k : Int) + 1) = (k : Int) + 1 by have := HLD.out; rw [IntKind.wrap_i64]; omega)
      have HST := Lib.hid (show lD.getD k 0 ∉ lH → ∀ j, j < k + 1 → lD.getD j 0 ∉ lH from fun h j hj => by
        by_cases hjk : j = k
        · subst hjk; exact h
        · exact HNO.out j (by omega))
      have HFA := Lib.hid (show lD.getD k 0 ∈ lH → rr = false from fun h => by
        rw [HRT2.out]
        exact decide_eq_false fun hz => HZ.out.1 hz _ HM.out h)
      clear hx hcl HND HNH
      generalize lD.getD k 0 = x at *
      obtain ⟨bm, hbm⟩ : ∃ b, b = decide (x ∈ lH) := ⟨_, rfl⟩
      rw [← hbm] at KH
      have HBM := Lib.hid hbm
      clear hbm
      go_upto_region 6 with fail
      refine Rl.wp_region_rel (fun a b => Below a.heap.size a b) wr (fun a b c h h' => below_next h h') (fun a => Below.refl _ _) hmx (by kernel_rfl) (Below.refl _ _).drew ?_
      clear c2 c3
      (refine Rl.textR_run ?_ (fun ρ => ?_) (fun ρ W hS hd => ?_) ?_; rotate_left; (focus go_simp); (focus (obtain ⟨hc, hf⟩ := bcell hS; go_simp; first | exact ⟨rfl, Below.refl _ _⟩ | (refine ⟨?_, Below.refl _ _⟩; rfl))); (try go_simp))
      (refine Rl.textR_run ?_ (fun ρ => ?_) (fun ρ W hS hd => ?_) ?_; rotate_left; (focus go_simp); (focus (have hfact := H2r.out W hS; go_simp; first | exact ⟨rfl, Below.refl _ _⟩ | (refine ⟨?_, Below.refl _ _⟩; rfl))); (try go_simp))
      iterate 2 (refine Rl.textR_run ?_ (fun ρ => ?_) (fun ρ W hS hd => ?_) ?_; rotate_left; (focus go_simp); (focus (obtain ⟨hc, hf⟩ := bcell hS; go_simp; first | exact ⟨rfl, Below.refl _ _⟩ | (refine ⟨?_, Below.refl _ _⟩; rfl))); (try go_simp))
      (refine Rl.textR_run ?_ (fun ρ => ?_) (fun ρ W hS hd => ?_) ?_; rotate_left; (focus go_simp); (focus (have hfact := HCL.out W hS; go_simp; first | exact ⟨rfl, Below.refl _ _⟩ | (refine ⟨?_, Below.refl _ _⟩; rfl))); (try go_simp))
      iterate 4 (refine Rl.textR_run ?_ (fun ρ => ?_) (fun ρ W hS hd => ?_) ?_; rotate_left; (focus go_simp); (focus (obtain ⟨hc, hf⟩ := bcell hS; go_simp; first | exact ⟨rfl, Below.refl _ _⟩ | (refine ⟨?_, Below.refl _ _⟩; rfl))); (try go_simp))
      (refine Rl.textR_run ?_ (fun ρ => ?_) (fun ρ W hS hd => ?_) ?_; rotate_left; (focus go_simp); (focus (have hfact := H3r.out W hS; go_simp; first | exact ⟨rfl, Below.refl _ _⟩ | (refine ⟨?_, Below.refl _ _⟩; rfl))); (try go_simp))
      (refine Rl.textR_run ?_ (fun ρ => ?_) (fun ρ W hS hd => ?_) ?_; rotate_left; (focus go_simp); (focus (obtain ⟨hc, hf⟩ := bcell hS; go_simp; first | exact ⟨rfl, Below.refl _ _⟩ | (refine ⟨?_, Below.refl _ _⟩; rfl))); (try go_simp))
      (refine Rl.textR_run ?_ (fun ρ => ?_) (fun ρ W hS hd => ?_) ?_; rotate_left; (focus go_simp); (focus (have hfact := H2r.out W hS; go_simp; first | exact ⟨rfl, Below.refl _ _⟩ | (refine ⟨?_, Below.refl _ _⟩; rfl))); (try go_simp))
      iterate 2 (refine Rl.textR_run ?_ (fun ρ => ?_) (fun ρ W hS hd => ?_) ?_; rotate_left; (focus go_simp); (focus (obtain ⟨hc, hf⟩ := bcell hS; go_simp; first | exact ⟨rfl, Below.refl _ _⟩ | (refine ⟨?_, Below.refl _ _⟩; rfl))); (try go_simp))
      (refine Rl.textR_run ?_ (fun ρ => ?_) (fun ρ W hS hd => ?_) ?_; rotate_left; (focus go_simp); (focus (have hfact := HCL.out W hS; go_simp; first | exact ⟨rfl, Below.refl _ _⟩ | (refine ⟨?_, Below.refl _ _⟩; rfl))); (try go_simp))
      (refine Rl.textR_run ?_ (fun ρ => ?_) (fun ρ W hS hd => ?_) ?_; rotate_left; (focus go_simp); (focus (obtain ⟨hc, hf⟩ := bcell hS; go_simp; refine (KH.out W hS).mono ?_; rintro e w1 ⟨rfl, rfl⟩; refine ⟨_, rfl, ?_, Below.refl _ _⟩; rfl)); (try go_simp))
      (refine Rl.textR_run ?_ (fun ρ => ?_) (fun ρ W hS hd => ?_) ?_; rotate_left; (focus go_simp); (focus (obtain ⟨hc, hf⟩ := bcell hS; go_simp; first | exact ⟨rfl, Below.refl _ _⟩ | (refine ⟨?_, Below.refl _ _⟩; rfl))); (try go_simp))
      refine Rl.textR_nil ?_
      intro ρ wA hgA hkA
      dsimp only
      have HGA := Lib.hid (below_next HB.out hgA)
      clear hgA hkA
      go_simp
      cases bm with
      | true =>
        have E := Lib.hid (HFA.out (of_decide_eq_true HBM.out.symm))
        go_wp2_with fail
        go_ret
        exact ⟨ret_b E.out.symm, below_next HA.out HGA.out⟩
      | false =>
        have HS := Lib.hid (HST.out (of_decide_eq_false HBM.out.symm))
        have hw1 := HW1.out
        go_wp2_with fail
        go_roundw
        case rel => exact ⟨k + 1, by omega, by go_num, HS.out, HGA.out⟩
        case measure => simp [intOf]; omega
    · obtain rfl : k = lD.length := by omega
      have hd : decide (lD.length < lD.length) = false := decide_eq_false (by omega)
      have E := Lib.hid (show rr = true by
        rw [HRT2.out]
        refine decide_eq_true (HZ.out.2 fun x hx => ?_)
        obtain ⟨i, hi, rfl⟩ := List.getElem_of_mem hx
        have := HNO.out i hi
        simpa [List.getD, List.getElem?_eq_getElem hi] using this)
      by_cases hl : lH.length = 0
      · have hz : ((lH.length : Int) == 0) = true := by rw [hl]; rfl
        clear hlt hl
        go_wp2_with fail
        go_ret
        exact ⟨ret_b E.out.symm, below_next HA.out HB.out⟩
      · have hz : ((lH.length : Int) == 0) = false := by simp; intro h; exact hl (by rw [h]; rfl)
        have hlast : lH.length - 1 < lH.length := by omega
        obtain ⟨g, o, hg, hcl⟩ := (HHR.out.below HB.out).at hlast
        subst hg
        have hx := HNH.out _ (getD_mem hlast)
        have hw1 : IntKind.i64.wrap ((lH.length : Int) - 1) = ((lH.length - 1 : Nat) : Int) := by have := HLH.out; rw [IntKind.wrap_i64]; omega
        have d1 : decide (lH.getD (lH.length - 1) 0 < 64) = true := decide_eq_true (by omega)
        generalize hm : lH.length - 1 = m at *
        have hml : (m : Int) < (lH.length : Int) := by omega
        generalize lH.getD m 0 = y at *
        clear hlt hl hm hx
        go_wp2_with fail
        go_ret
        exact ⟨ret_b E.out.symm, below_next HA.out HB.out⟩
end Go.Proofs.YtdpfbpmdpdfpdaaDoor
