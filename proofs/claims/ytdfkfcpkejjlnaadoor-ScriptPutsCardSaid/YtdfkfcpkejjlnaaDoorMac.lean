/- Laws that belong together: What a call may have turned (a frame of blocks), own rows of bytes where their blocks are as they were, and a copy of bytes. No condition.; A command laid as twelve numbers, and read off them (layer 22). No condition.; Which fields of a command count, by its kind (layer 22). No condition.; The bounds of a command's fields (layer 22). No condition.; A command read off twelve numbers (layer 22). No condition.; Rows of int64s of the call's own; rows of int64s that may be read. No condition but what is said of each. -/
import Derived.Test.YtdfkfcpkejjlnaaDoorAppend
import Derived.Test.YtdfkfcpkejjlnaaDoorMaa
import Derived.OpenShut
import Derived.Outline
import Derived.WalkLawsBesides
import Derived.RegionTactic
import Derived.BigRegion
import Derived.Deep.RegionHeld3
import Derived.Deep.DrawnRows
import Derived.Lib.Hide
import Derived.Deep.DeepCutAuto
import Derived.IntWalk
import Derived.Deep.Slices
import Derived.WideShapes
import Derived.Lib.SliceRun
import Derived.RangeFuncRecord
import Derived.Test.YtdfkfcpkejjlnaaDoorMab
import Derived.Laws.OwnMore
import Derived.OwnWalk
namespace Go.Proofs.YtdfkfcpkejjlnaaDoor
set_option linter.unusedVariables false
open Go.ChangeShapes Go.WideShapes Go.ChangeAt Go.RowKit
attribute [local go_sem ↓] Go.wp_at_zero Go.wp_at_succ comesTo_value_eq comesTo_skip_eq comesTo_enter_eq

/-- of the blocks that were there just those of F may have turned -/
structure Fr (F : Nat → Prop) (w w' : World) : Prop where
  os : w'.os = w.os
  tape : w'.tape = w.tape
  output : w'.output = w.output
  size : w.heap.size ≤ w'.heap.size
  block : ∀ j, j < w.heap.size → ¬ F j → w'.heap[j]? = w.heap[j]?
theorem Fr.refl (F : Nat → Prop) (w : World) : Fr F w w := ⟨rfl, rfl, rfl, Nat.le_refl _, fun _ _ _ => rfl⟩
theorem Fr.trans {F G : Nat → Prop} {a b c : World} (h : Fr F a b) (k : Fr G b c) (hG : ∀ j, G j → F j ∨ a.heap.size ≤ j) : Fr F a c :=
  ⟨k.os.trans h.os, k.tape.trans h.tape, k.output.trans h.output, Nat.le_trans h.size k.size, fun j hj hn =>
    (k.block j (Nat.lt_of_lt_of_le hj h.size) (fun g => by rcases hG j g with h1 | h1; exact hn h1; omega)).trans (h.block j hj hn)⟩
theorem Fr.below {F : Nat → Prop} {B : Nat} {w w' : World} (h : Fr F w w') (hB : B ≤ w.heap.size) (hF : ∀ j, F j → B ≤ j) : Below B w w' :=
  ⟨h.os, h.tape, h.output, h.size, fun k hk => h.block k (by omega) (fun g => by have := hF k g; omega)⟩
theorem Fr.of_below {F : Nat → Prop} {w w' : World} (h : Below w.heap.size w w') : Fr F w w' := ⟨h.os, h.tape, h.output, h.size, fun j hj _ => h.block j hj⟩
theorem Fr.of_under {B : Nat} {w w' : World} (h : Below B w w') : Fr (fun j => B ≤ j) w w' := ⟨h.os, h.tape, h.output, h.size, fun j _ hn => h.block j (Nat.lt_of_not_le hn)⟩
theorem Fr.set {F : Nat → Prop} {w w' : World} (h : Fr F w w') {D : Nat} (hD : F D) (o : Nat) (v : Value) : Fr F w (w'.setCell ⟨D, o, none⟩ v) :=
  ⟨h.os, h.tape, h.output, by simpa [World.setCell] using h.size, fun j hj hn => by
    rw [Below.heap_setCell _ _ _ _ (fun e => hn (by rw [show j = D from e]; exact hD))]; exact h.block j hj hn⟩
theorem Fr.grown {F : Nat → Prop} {w w1 w' : World} (h : Fr F w w1) {row : Option Nat} (hg : w1.grownBy w' row) (hr : ∀ k, row = some k → F k ∨ w.heap.size ≤ k) : Fr F w w' :=
  ⟨hg.os.trans h.os, hg.tape.trans h.tape, hg.output.trans h.output, Nat.le_trans h.size hg.size, fun j hj hn =>
    (hg.block j (Nat.lt_of_lt_of_le hj h.size) (fun e => by rcases hr j e.symm with h1 | h1; exact hn h1; omega)).trans (h.block j hj hn)⟩

theorem ownBlock_lt {w : World} {B : Nat} {v : Value} {xs : List Int} (h : OwnTxt w B v xs) {g : Nat} (hg : v.ownBlock = some g) : g < w.heap.size := by
  rcases h.own.2 with ⟨rfl, _⟩ | ⟨g', cap, cur, rfl, _, hh, _⟩
  · cases hg
  · simp only [Value.ownBlock, Option.some.injEq] at hg
    subst hg
    exact (Array.getElem?_eq_some_iff.1 hh).1
/-- an own row where its block is as it was -/
theorem OwnTxt.of_block {w w' : World} {B : Nat} {v : Value} {xs : List Int} (h : OwnTxt w B v xs) (hb : ∀ g, v.ownBlock = some g → w'.heap[g]? = w.heap[g]?) : OwnTxt w' B v xs := by
  refine ⟨⟨h.own.1, ?_⟩, h.lo, h.hi⟩
  rcases h.own.2 with hn | ⟨g, cap, cur, rfl, hB, hg, rest⟩
  · exact .inl hn
  · exact .inr ⟨g, cap, cur, rfl, hB, (hb g rfl).trans hg, rest⟩
theorem OwnTxt.base {w : World} {B B' : Nat} {v : Value} {xs : List Int} (h : OwnTxt w B v xs) (hB : B' ≤ B) : OwnTxt w B' v xs := by
  refine ⟨⟨h.own.1, ?_⟩, h.lo, h.hi⟩
  rcases h.own.2 with hn | ⟨g, cap, cur, rfl, hB, hg, rest⟩
  · exact .inl hn
  · exact .inr ⟨g, cap, cur, rfl, by omega, hg, rest⟩
theorem OwnTxt.blockGe {w : World} {B : Nat} {v : Value} {xs : List Int} (h : OwnTxt w B v xs) {g : Nat} (hg : v.ownBlock = some g) : B ≤ g := by
  rcases h.own.2 with ⟨rfl, _⟩ | ⟨g', cap, cur, rfl, hB, _⟩
  · cases hg
  · simp only [Value.ownBlock, Option.some.injEq] at hg; omega
/-- the first ones of an own row -/
theorem OwnTxt.take {w : World} {B : Nat} {ad : Option Addr} {n c : Nat} {xs : List Int} (h : OwnTxt w B (.slice ad n c) xs) {k : Nat} (hk : k ≤ xs.length) : OwnTxt w B (.slice ad k c) (xs.take k) := by
  have hl : (xs.take k).length = k := by simp; omega
  refine ⟨⟨by simp [cellsOf8], ?_⟩, fun j hj => ?_, fun j hj => ?_⟩
  · rcases h.own.2 with ⟨e, h0⟩ | ⟨g, cap, cur, e, hB, hg, h1, h2, h3, h4⟩
    · cases e
      refine .inl ⟨by rw [show k = 0 by omega], by omega⟩
    · cases e
      refine .inr ⟨g, c, cur, by rw [hl], hB, hg, by omega, h2, h3, ?_⟩
      rw [hl]
      have : (cellsOf8 xs).take k = cellsOf8 (xs.take k) := by simp [cellsOf8]
      rw [← this, ← h4, List.take_take]
      congr 1
      omega
  · rw [hl] at hj
    have := h.lo j (by omega)
    simpa [List.getD, List.getElem?_take, hj] using this
  · rw [hl] at hj
    have := h.hi j (by omega)
    simpa [List.getD, List.getElem?_take, hj] using this
theorem OwnTxt.form {w : World} {B : Nat} {v : Value} {xs : List Int} (h : OwnTxt w B v xs) : (v = .slice none 0 0 ∧ xs = []) ∨ ∃ g c, v = .slice (some ⟨g, 0, none⟩) xs.length c ∧ xs.length ≤ c ∧ c ≤ maxLen := by
  rcases h.own.2 with ⟨rfl, h0⟩ | ⟨g, cap, cur, rfl, _, _, h1, h2, _⟩
  · exact .inl ⟨rfl, List.eq_nil_of_length_eq_zero h0⟩
  · exact .inr ⟨g, cap, rfl, h1, h2⟩

/-- what a copy of bytes leaves -/
def Cloned (w : World) (xs : List Int) (e : Ending) (w' : World) : Prop := ∃ u, e = .returned u ∧ OwnTxt w' w.heap.size u xs ∧ Below w.heap.size w w' ∧ w.grownBy w' none
/-- a copy of bytes: a row of the call's own, or none of none -/
theorem clone_bytes {w : World} {v : Value} {xs : List Int} (h : TxtAt w v xs) (hl : xs.length ≤ 140737488355328) : Calls Tryd.prog 48 #[v] w fun e w' => Cloned w xs e w' := by
  have H := Lib.hid h
  have hn : v = .slice none 0 0 ∧ xs = [] ∨ ∃ a n c, v = .slice (some a) n c := by
    rcases h with ⟨b, off, cap, rfl, _, _⟩ | ⟨rfl, a, cap, rfl, hc⟩
    · exact .inr ⟨_, _, _, rfl⟩
    · cases a with
      | none => obtain rfl := hc rfl; exact .inl ⟨rfl, rfl⟩
      | some a => exact .inr ⟨_, _, _, rfl⟩
  clear h
  have hq : ∀ (W : World) (a : Option Addr) (n c : Nat), Sem.run Tryd.prog (binOp .eql 40 (.slice a n c) (.slice none 0 0)) W = .ok (.bool a.isNone) W := fun W a n c => Lib.run_eql_slice_nil W 40 5 a n c 0 0 Tryd.underlying40
  rcases hn with ⟨rfl, rfl⟩ | ⟨a, n, c, rfl⟩
  · go_enter Tryd.func48, Tryd.ntmps48
    go_wp2
    go_ret
    exact ⟨_, rfl, OwnTxt.nil, Below.refl _ _, World.grownBy.refl _ _⟩
  · have hA := below_alloc (Below.refl _ w) (.cells #[] 5)
    have HA := Lib.hid (World.grownBy_alloc w (.cells #[] 5) none)
    have HO := Lib.hid (OwnTxt.new (w := w) (B := w.heap.size) (Nat.le_refl _))
    have HT := Lib.hid (H.out.below hA)
    have HB := Lib.hid hA
    clear hA
    go_enter Tryd.func48, Tryd.ntmps48
    go_wp2_with (at_builtin; go_loud (refine wpList_append_txt (by rfl) _ _ (by rfl) w.heap.size (.slice (some ⟨w.heap.size, 0, none⟩) 0 0) [] (by rfl) HO.out (.slice (some a) n c) xs (by rfl) HT.out (by simpa using hl) (by simp) ?_; intro ad n' c' w1 o1 b1 g1; have O1 := Lib.hid o1; have B1 := Lib.hid b1; have G1 := Lib.hid g1; clear o1 b1 g1))
    go_ret
    refine ⟨_, rfl, by simpa using O1.out, HB.out.trans B1.out, ?_⟩
    have g := G1.out
    refine ⟨g.os, g.tape, g.output, Nat.le_trans HB.out.size g.size, fun k hk _ => ?_⟩
    exact (g.block k (by simp; omega) (by simp [Value.ownBlock]; omega)).trans (HB.out.block k hk)
theorem bytesOf_inj {s t : ByteArray} (h : bytesOf s = bytesOf t) : s = t := by
  rcases s with ⟨⟨a⟩⟩
  rcases t with ⟨⟨b⟩⟩
  unfold bytesOf at h
  have h2 : a = b := by
    refine List.map_inj_right (fun x y e => ?_) |>.1 h
    exact UInt8.toNat_inj.1 (by exact_mod_cast e)
  subst h2
  rfl
/-- bytes as a text, at any later world -/
theorem txt_conv {w : World} {v : Value} {zs : List Int} (h : TxtAt w v zs) (w' : World) (hb : Below w.heap.size w w') : (convert 40 9 v).run Tryd.prog w' = .ok (.string (strOfNums zs)) w' := by
  obtain ⟨s, hs, _, hc⟩ := txt_convert h
  rw [hc w' hb]
  have hz : bytesOf (strOfNums zs) = zs := by
    rcases h with ⟨b, off, cap, rfl, h2, h3⟩ | ⟨rfl, _⟩
    · exact bytesOf_str zs h3.lo h3.hi
    · rfl
  rw [bytesOf_inj (hs.trans hz.symm)]
theorem TxtAt.of_fr {F : Nat → Prop} {w w' : World} {v : Value} {zs : List Int} (h : TxtAt w v zs) (hf : Fr F w w') (hv : ∀ b off n c, v = .slice (some ⟨b, off, none⟩) n c → 0 < n → b < w.heap.size → ¬ F b) : TxtAt w' v zs := by
  rcases h with ⟨b, off, cap, h1, h2, h3⟩ | h
  · refine .inl ⟨b, off, cap, h1, h2, ?_⟩
    have hlt : b < w.heap.size := World.block_lt_of_cell? w _ (h3.cell 0 h2)
    exact ⟨fun k hk => (World.cell?_of_block (w := w) (a := ⟨b, off + k, none⟩) (hf.block b hlt (hv b off _ cap h1 h2 hlt))).trans (h3.cell k hk), h3.lo, h3.hi, h3.len⟩
  · exact .inr h
/-- bytes that lie below B stay where just blocks from B on may have turned -/
theorem TxtAt.low {F : Nat → Prop} {w0 w w' : World} {v : Value} {zs : List Int} {B : Nat} (h : TxtAt w0 v zs) (hb : Below w0.heap.size w0 w) (hB : w0.heap.size ≤ B) (hF : ∀ j, F j → B ≤ j) (hf : Fr F w w') : TxtAt w' v zs := by
  refine (h.below hb).of_fr hf fun b off n c e hn hlt hFb => ?_
  rcases h with ⟨b', off', cap', h1, h2, h3⟩ | ⟨_, a, cap, h1, _⟩
  · rw [h1] at e
    cases e
    have := World.block_lt_of_cell? w0 _ (h3.cell 0 h2)
    have := hF b hFb
    simp at *
    omega
  · rw [h1] at e
    cases e
    omega
theorem OwnTxt.shape {w : World} {B : Nat} {v : Value} {xs : List Int} (h : OwnTxt w B v xs) : ∃ ad c, v = .slice ad xs.length c ∧ ((ad = none ∧ xs.length = 0 ∧ c = 0) ∨ ∃ g, ad = some ⟨g, 0, none⟩) ∧ xs.length ≤ c := by
  rcases h.form with ⟨rfl, h0⟩ | ⟨g, c, rfl, h2, _⟩
  · exact ⟨none, 0, by rw [h0]; rfl, .inl ⟨rfl, by rw [h0]; rfl, rfl⟩, by rw [h0]; exact Nat.le_refl _⟩
  · exact ⟨_, c, rfl, .inr ⟨g, rfl⟩, h2⟩
/-- the first ones of bytes that came in -/
theorem slice_to_any {ad : Option Addr} {n c s : Nat} (h : ∃ g o, ad = some ⟨g, o, none⟩) (hs : s ≤ c) (h0 : 0 < c) (W : World) : Sem.run Tryd.prog (Instr.slice 40 (.slice ad n c) none (some (.int .i64 (s : Int))) none) W = .ok (.slice ad s c) W := by
  obtain ⟨g, o, rfl⟩ := h
  have hne : ¬ c = 0 := by omega
  go_simp
theorem slice_to {ad : Option Addr} {n c s : Nat} (h : (ad = none ∧ n = 0 ∧ c = 0) ∨ ∃ g, ad = some ⟨g, 0, none⟩) (hs : s ≤ c) (W : World) : Sem.run Tryd.prog (Instr.slice 40 (.slice ad n c) none (some (.int .i64 (s : Int))) none) W = .ok (.slice ad s c) W := by
  rcases h with ⟨rfl, rfl, rfl⟩ | ⟨g, rfl⟩
  · obtain rfl : s = 0 := by omega
    go_simp
  · go_simp
end Go.Proofs.YtdfkfcpkejjlnaaDoor
namespace Go.Proofs.YtdfkfcpkejjlnaaDoor
set_option linter.unusedVariables false
open Go.ChangeShapes Go.WideShapes Go.ChangeAt Go.RowKit
attribute [local go_sem ↓] Go.wp_at_zero Go.wp_at_succ comesTo_value_eq comesTo_skip_eq comesTo_enter_eq

/-- whether one is held, as a number -/
def heldN (h : Bool) : Int := if h then 1 else 0
set_option maxRecDepth 100000 in
set_option maxHeartbeats 4000000 in
theorem laid_any (x0 x1 x2 x3 x4 x5 x6 x7 x8 x9 x10 : Int) (h : Bool) (w : World) : Calls Tryd.prog 40 #[.agg #[.int .i64 x0, .int .i64 x1, .int .i64 x2, .int .i64 x3, .int .i64 x4, .int .i64 x5, .int .i64 x6, .int .i64 x7, .int .i64 x8, .int .i64 x9, .int .i64 x10, .bool h]] w fun e w' => e = .returned (.agg #[.int .i64 x0, .int .i64 x1, .int .i64 x2, .int .i64 x3, .int .i64 x4, .int .i64 x5, .int .i64 x6, .int .i64 x7, .int .i64 x8, .int .i64 x9, .int .i64 x10, .int .i64 (heldN h)]) ∧ Below w.heap.size w w' := by
  go_enter Tryd.func40, Tryd.ntmps40
  go_upto_region 1 with fail
  generalize hW : (w.alloc (.cells #[.int .i64 x0, .int .i64 x1, .int .i64 x2, .int .i64 x3, .int .i64 x4, .int .i64 x5, .int .i64 x6, .int .i64 x7, .int .i64 x8, .int .i64 x9, .int .i64 x10, .bool h] 26)).alloc (.cells #[.int .i64 0, .int .i64 0, .int .i64 0, .int .i64 0, .int .i64 0, .int .i64 0, .int .i64 0, .int .i64 0, .int .i64 0, .int .i64 0, .int .i64 0, .int .i64 0] 80) = U
  have hC : U.heap[w.heap.size]? = some (.cells #[.int .i64 x0, .int .i64 x1, .int .i64 x2, .int .i64 x3, .int .i64 x4, .int .i64 x5, .int .i64 x6, .int .i64 x7, .int .i64 x8, .int .i64 x9, .int .i64 x10, .bool h] 26 (0, 0)) := by rw [← hW]; exact ((below_alloc (Below.refl _ _) _).block _ (by simp)).trans (World.alloc_heap_new w _)
  have hZ : U.heap[w.heap.size + 1]? = some (.cells #[.int .i64 0, .int .i64 0, .int .i64 0, .int .i64 0, .int .i64 0, .int .i64 0, .int .i64 0, .int .i64 0, .int .i64 0, .int .i64 0, .int .i64 0, .int .i64 0] 80 (0, 0)) := by rw [← hW]; have := World.alloc_heap_new (w.alloc (.cells #[.int .i64 x0, .int .i64 x1, .int .i64 x2, .int .i64 x3, .int .i64 x4, .int .i64 x5, .int .i64 x6, .int .i64 x7, .int .i64 x8, .int .i64 x9, .int .i64 x10, .bool h] 26)) (.cells #[.int .i64 0, .int .i64 0, .int .i64 0, .int .i64 0, .int .i64 0, .int .i64 0, .int .i64 0, .int .i64 0, .int .i64 0, .int .i64 0, .int .i64 0, .int .i64 0] 80); rwa [show (w.alloc (.cells #[.int .i64 x0, .int .i64 x1, .int .i64 x2, .int .i64 x3, .int .i64 x4, .int .i64 x5, .int .i64 x6, .int .i64 x7, .int .i64 x8, .int .i64 x9, .int .i64 x10, .bool h] 26)).heap.size = w.heap.size + 1 by simp] at this
  have HB := Lib.hid (show Below w.heap.size w U by rw [← hW]; exact (by repeat (first | exact Below.refl _ _ | assumption | refine below_drewN ?_ _ | refine Below.drew ?_ | refine below_alloc ?_ _ | refine Below.alloc ?_ (by first | omega | (simp; done) | (simp; omega)) _ | refine Below.setCell ?_ (Below.size (by assumption)) _ | refine Below.setCell ?_ (by first | omega | (simp; done) | (simp; omega)) _ | (refine Below.trans ?_ (Below.mono (by assumption) (by first | omega | (simp; done) | (simp; omega)))) | refine below_next ?_ (by assumption))))
  have hs : U.heap.size = w.heap.size + 2 := by rw [← hW]; simp
  clear hW
  have c0 := cell_of_block (o := 0) hC rfl
  have c1 := cell_of_block (o := 1) hC rfl
  have c2 := cell_of_block (o := 2) hC rfl
  have c3 := cell_of_block (o := 3) hC rfl
  have c4 := cell_of_block (o := 4) hC rfl
  have c5 := cell_of_block (o := 5) hC rfl
  have c6 := cell_of_block (o := 6) hC rfl
  have c7 := cell_of_block (o := 7) hC rfl
  have c8 := cell_of_block (o := 8) hC rfl
  have c9 := cell_of_block (o := 9) hC rfl
  have c10 := cell_of_block (o := 10) hC rfl
  have c11 := cell_of_block (o := 11) hC rfl
  have HC := Lib.hid hC
  have HZ := Lib.hid hZ
  have HS := Lib.hid hs
  clear hC hZ hs
  refine wp_region_lit ?_
  refine wpList_yield (w' := U) (v := .pointer (some ⟨w.heap.size, 0, none⟩)) rfl (by first | (go_simp; done) | (go_simp; rfl)) ?_
  refine wpList_yield (w' := U) (v := .int .i64 x0) rfl (by first | (go_simp; done) | (go_simp; rfl)) ?_
  refine wpList_yield (w' := U) (v := .pointer (some ⟨w.heap.size, 1, none⟩)) rfl (by first | (go_simp; done) | (go_simp; rfl)) ?_
  refine wpList_yield (w' := U) (v := .int .i64 x1) rfl (by first | (go_simp; done) | (go_simp; rfl)) ?_
  refine wpList_yield (w' := U) (v := .pointer (some ⟨w.heap.size, 2, none⟩)) rfl (by first | (go_simp; done) | (go_simp; rfl)) ?_
  refine wpList_yield (w' := U) (v := .int .i64 x2) rfl (by first | (go_simp; done) | (go_simp; rfl)) ?_
  refine wpList_yield (w' := U) (v := .pointer (some ⟨w.heap.size, 3, none⟩)) rfl (by first | (go_simp; done) | (go_simp; rfl)) ?_
  refine wpList_yield (w' := U) (v := .int .i64 x3) rfl (by first | (go_simp; done) | (go_simp; rfl)) ?_
  refine wpList_yield (w' := U) (v := .pointer (some ⟨w.heap.size, 4, none⟩)) rfl (by first | (go_simp; done) | (go_simp; rfl)) ?_
  refine wpList_yield (w' := U) (v := .int .i64 x4) rfl (by first | (go_simp; done) | (go_simp; rfl)) ?_
  refine wpList_yield (w' := U) (v := .pointer (some ⟨w.heap.size, 5, none⟩)) rfl (by first | (go_simp; done) | (go_simp; rfl)) ?_
  refine wpList_yield (w' := U) (v := .int .i64 x5) rfl (by first | (go_simp; done) | (go_simp; rfl)) ?_
  refine wpList_yield (w' := U) (v := .pointer (some ⟨w.heap.size, 6, none⟩)) rfl (by first | (go_simp; done) | (go_simp; rfl)) ?_
  refine wpList_yield (w' := U) (v := .int .i64 x6) rfl (by first | (go_simp; done) | (go_simp; rfl)) ?_
  refine wpList_yield (w' := U) (v := .pointer (some ⟨w.heap.size, 7, none⟩)) rfl (by first | (go_simp; done) | (go_simp; rfl)) ?_
  refine wpList_yield (w' := U) (v := .int .i64 x7) rfl (by first | (go_simp; done) | (go_simp; rfl)) ?_
  refine wpList_yield (w' := U) (v := .pointer (some ⟨w.heap.size, 8, none⟩)) rfl (by first | (go_simp; done) | (go_simp; rfl)) ?_
  refine wpList_yield (w' := U) (v := .int .i64 x8) rfl (by first | (go_simp; done) | (go_simp; rfl)) ?_
  refine wpList_yield (w' := U) (v := .pointer (some ⟨w.heap.size, 9, none⟩)) rfl (by first | (go_simp; done) | (go_simp; rfl)) ?_
  refine wpList_yield (w' := U) (v := .int .i64 x9) rfl (by first | (go_simp; done) | (go_simp; rfl)) ?_
  refine wpList_yield (w' := U) (v := .pointer (some ⟨w.heap.size, 10, none⟩)) rfl (by first | (go_simp; done) | (go_simp; rfl)) ?_
  refine wpList_yield (w' := U) (v := .int .i64 x10) rfl (by first | (go_simp; done) | (go_simp; rfl)) ?_
  refine wpList_yield (w' := U) (v := .agg #[.int .i64 x0, .int .i64 x1, .int .i64 x2, .int .i64 x3, .int .i64 x4, .int .i64 x5, .int .i64 x6, .int .i64 x7, .int .i64 x8, .int .i64 x9, .int .i64 x10, .int .i64 0]) rfl (by first | (go_simp; done) | (go_simp; rfl)) ?_
  refine wpList_yield (w' := U.alloc (.cells #[.int .i64 0, .int .i64 0, .int .i64 0, .int .i64 0, .int .i64 0, .int .i64 0, .int .i64 0, .int .i64 0, .int .i64 0, .int .i64 0, .int .i64 0, .int .i64 0] 80)) (v := .pointer (some ⟨U.heap.size, 0, none⟩)) rfl (by first | (go_simp; done) | (go_simp; rfl)) ?_
  refine wpList_store_all rfl 80 _ _ rfl U.heap.size (cs := #[.int .i64 0, .int .i64 0, .int .i64 0, .int .i64 0, .int .i64 0, .int .i64 0, .int .i64 0, .int .i64 0, .int .i64 0, .int .i64 0, .int .i64 0, .int .i64 0]) (T := 80) [.int .i64 x0, .int .i64 x1, .int .i64 x2, .int .i64 x3, .int .i64 x4, .int .i64 x5, .int .i64 x6, .int .i64 x7, .int .i64 x8, .int .i64 x9, .int .i64 x10, .int .i64 0] (by go_simp) (by go_simp) (World.alloc_heap_new _ _) rfl (by kernel_rfl) rfl ?_
  intro V hV
  have hb1 := below_alloc (Below.refl _ U) (.cells #[.int .i64 0, .int .i64 0, .int .i64 0, .int .i64 0, .int .i64 0, .int .i64 0, .int .i64 0, .int .i64 0, .int .i64 0, .int .i64 0, .int .i64 0, .int .i64 0] 80)
  have hb2 := hV.below hb1 (Nat.le_refl _)
  have HB2 := Lib.hid (below_next HB.out hb2)
  have HZ2 := Lib.hid ((hb2.block _ (by have := HS.out; omega)).trans HZ.out)
  have hC2 := (hb2.block _ (by have := HS.out; omega)).trans HC.out
  have d11 := cell_of_block (o := 11) hC2 rfl
  have hL := hV.there
  have HN := Lib.hid HS.out
  have HV := Lib.hid hV
  generalize U.heap.size = q at *
  clear c0 c1 c2 c3 c4 c5 c6 c7 c8 c9 c10 c11 HB HC HZ HS hb1 hb2 hC2
  clear hV
  have e11 := cell_of_block (o := 11) hL rfl
  have f11 := free_of_block 11 hL
  clear hL
  cases h with
  | false =>
    go_upto_region 4 with fail
    have HZ3 := HZ2
    refine wp_region_lit ?_
    refine wpList_load_all rfl 80 _ rfl q [.int .i64 x0, .int .i64 x1, .int .i64 x2, .int .i64 x3, .int .i64 x4, .int .i64 x5, .int .i64 x6, .int .i64 x7, .int .i64 x8, .int .i64 x9, .int .i64 x10, .int .i64 0] _ (by go_simp) HV.out.there Tryd.underlying80 rfl (by kernel_rfl) ?_
    refine wpList_store_all rfl 80 _ _ rfl (w.heap.size + 1) (cs := #[.int .i64 0, .int .i64 0, .int .i64 0, .int .i64 0, .int .i64 0, .int .i64 0, .int .i64 0, .int .i64 0, .int .i64 0, .int .i64 0, .int .i64 0, .int .i64 0]) (T := 80) [.int .i64 x0, .int .i64 x1, .int .i64 x2, .int .i64 x3, .int .i64 x4, .int .i64 x5, .int .i64 x6, .int .i64 x7, .int .i64 x8, .int .i64 x9, .int .i64 x10, .int .i64 0] (by go_simp) (by go_simp) HZ3.out rfl (by kernel_rfl) rfl ?_
    intro V4 hV4
    have HV4 := Lib.hid hV4
    have HB4 := Lib.hid (hV4.below HB2.out (by omega))
    clear hV4
    go_wp2_with fail
    exact bodyPost_ret (results_all [.int .i64 x0, .int .i64 x1, .int .i64 x2, .int .i64 x3, .int .i64 x4, .int .i64 x5, .int .i64 x6, .int .i64 x7, .int .i64 x8, .int .i64 x9, .int .i64 x10, .int .i64 0] _ Tryd.results40 rfl HV4.out.there Tryd.underlying80 rfl (by kernel_rfl)) rfl ⟨rfl, HB4.out⟩
  | true =>
    go_upto_region 4 with fail
    have hW4 := HV.out.set 11 (.int .i64 1)
    have hq : w.heap.size + 1 ≠ q := by have := HN.out; omega
    have HZ3 := Lib.hid (((Below.heap_setCell V ⟨q, 11, none⟩ (.int .i64 1) _ hq)).trans HZ2.out)
    have HB3 := Lib.hid (HB2.out.setCell (p := ⟨q, 11, none⟩) (by have := HN.out; show _ ≤ q; omega) (.int .i64 1))
    have HW := Lib.hid hW4.there
    generalize V.setCell ⟨q, 11, none⟩ (.int .i64 1) = V3 at *
    clear hW4
    refine wp_region_lit ?_
    refine wpList_load_all rfl 80 _ rfl q [.int .i64 x0, .int .i64 x1, .int .i64 x2, .int .i64 x3, .int .i64 x4, .int .i64 x5, .int .i64 x6, .int .i64 x7, .int .i64 x8, .int .i64 x9, .int .i64 x10, .int .i64 1] _ (by go_simp) HW.out Tryd.underlying80 rfl (by kernel_rfl) ?_
    refine wpList_store_all rfl 80 _ _ rfl (w.heap.size + 1) (cs := #[.int .i64 0, .int .i64 0, .int .i64 0, .int .i64 0, .int .i64 0, .int .i64 0, .int .i64 0, .int .i64 0, .int .i64 0, .int .i64 0, .int .i64 0, .int .i64 0]) (T := 80) [.int .i64 x0, .int .i64 x1, .int .i64 x2, .int .i64 x3, .int .i64 x4, .int .i64 x5, .int .i64 x6, .int .i64 x7, .int .i64 x8, .int .i64 x9, .int .i64 x10, .int .i64 1] (by go_simp) (by go_simp) HZ3.out rfl (by kernel_rfl) rfl ?_
    intro V4 hV4
    have HV4 := Lib.hid hV4
    have HB4 := Lib.hid (hV4.below HB3.out (by omega))
    clear hV4
    go_wp2_with fail
    exact bodyPost_ret (results_all [.int .i64 x0, .int .i64 x1, .int .i64 x2, .int .i64 x3, .int .i64 x4, .int .i64 x5, .int .i64 x6, .int .i64 x7, .int .i64 x8, .int .i64 x9, .int .i64 x10, .int .i64 1] _ Tryd.results40 rfl HV4.out.there Tryd.underlying80 rfl (by kernel_rfl)) rfl ⟨rfl, HB4.out⟩
end Go.Proofs.YtdfkfcpkejjlnaaDoor
namespace Go.Proofs.YtdfkfcpkejjlnaaDoor
set_option linter.unusedVariables false
open Go.ChangeShapes Go.WideShapes Go.ChangeAt Go.RowKit
attribute [local go_sem ↓] Go.wp_at_zero Go.wp_at_succ comesTo_value_eq comesTo_skip_eq comesTo_enter_eq

/-- the places of the fields that count -/
def cntF (k : Nat) : List Int := [[], [2, 3, 4, 5, 6, 9, 11], [1], [1], [1], [1, 9], [3, 9, 10, 4], [3, 1], [3, 4], [3], [9], [3, 7, 8], [1]].getD k []
set_option maxRecDepth 100000 in
theorem counted_at (k : Nat) (h : 1 ≤ k ∧ k ≤ 12) (w : World) :
    Calls Tryd.prog 41 #[.int .i64 k] w fun e w' => e = .returned (.slice (some ⟨w.heap.size, 0, none⟩) (cntF k).length (cntF k).length) ∧ w'.heap[w.heap.size]? = some (.cells ((cntF k).map (.int .i64)).toArray 3 (0, 0)) ∧ Below w.heap.size w w' := by
  rcases (show k = 1 ∨ k = 2 ∨ k = 3 ∨ k = 4 ∨ k = 5 ∨ k = 6 ∨ k = 7 ∨ k = 8 ∨ k = 9 ∨ k = 10 ∨ k = 11 ∨ k = 12 by omega) with rfl | rfl | rfl | rfl | rfl | rfl | rfl | rfl | rfl | rfl | rfl | rfl
  all_goals
    clear h
    go_enter Tryd.func41, Tryd.ntmps41
    go_wp2
    go_ret
    exact ⟨rfl, World.alloc_heap_new w _, below_alloc (Below.refl _ w) _⟩
end Go.Proofs.YtdfkfcpkejjlnaaDoor
namespace Go.Proofs.YtdfkfcpkejjlnaaDoor
set_option linter.unusedVariables false
open Go.ChangeShapes Go.WideShapes Go.ChangeAt Go.RowKit
attribute [local go_sem ↓] Go.wp_at_zero Go.wp_at_succ comesTo_value_eq comesTo_skip_eq comesTo_enter_eq

/-- the least and the greatest number of a field -/
def bndF (k : Int) (f : Nat) : Int × Int :=
  if f = 9 then (if k = 1 ∨ k = 5 then (1, 1048576) else (0, 1099511627775))
  else [(0, 1), (1, 1073741824), (1, 16), (0, 3), (1, 64), (-100, 100), (0, 1073741824), (0, 63), (0, 4), (0, 0), (1, 1099511627775), (0, 1)].getD f (0, 1)
theorem bounds_at (k : Int) (f : Nat) (h : 1 ≤ f ∧ f ≤ 11) (w : World) : Calls Tryd.prog 42 #[.int .i64 k, .int .i64 f] w fun e w' => e = .returned (.tuple #[.int .i64 (bndF k f).1, .int .i64 (bndF k f).2]) ∧ w = w' := by
  rcases (show f = 9 ∨ f = 1 ∨ f = 2 ∨ f = 3 ∨ f = 4 ∨ f = 5 ∨ f = 6 ∨ f = 7 ∨ f = 8 ∨ f = 10 ∨ f = 11 by omega) with rfl | rfl | rfl | rfl | rfl | rfl | rfl | rfl | rfl | rfl | rfl
  · by_cases h1 : k = 1
    · subst h1
      go_enter Tryd.func42, Tryd.ntmps42
      go_wp2
      go_ret2
      exact ⟨rfl, rfl⟩
    · by_cases h5 : k = 5
      · subst h5
        go_enter Tryd.func42, Tryd.ntmps42
        go_wp2
        go_ret2
        exact ⟨rfl, rfl⟩
      · have hF : bndF k 9 = (0, 1099511627775) := by unfold bndF; rw [if_pos rfl, if_neg (by omega)]
        rw [hF]
        have q1 : (k == 1) = false := by rw [beq_eq_false_iff_ne]; exact h1
        have q5 : (k == 5) = false := by rw [beq_eq_false_iff_ne]; exact h5
        clear hF h1 h5 h
        go_enter Tryd.func42, Tryd.ntmps42
        go_wp2
        go_ret2
        exact ⟨rfl, rfl⟩
  all_goals
    clear h
    go_enter Tryd.func42, Tryd.ntmps42
    go_wp2
    go_ret2
    exact ⟨rfl, rfl⟩
end Go.Proofs.YtdfkfcpkejjlnaaDoor
namespace Go.Proofs.YtdfkfcpkejjlnaaDoor
set_option linter.unusedVariables false
open Go.ChangeShapes Go.WideShapes Go.ChangeAt Go.RowKit
attribute [local go_sem ↓] Go.wp_at_zero Go.wp_at_succ comesTo_value_eq comesTo_skip_eq comesTo_enter_eq

set_option maxRecDepth 100000 in
set_option maxHeartbeats 300000 in
theorem cmdof12_any (x0 x1 x2 x3 x4 x5 x6 x7 x8 x9 x10 x11 : Int) (g : Bool) (hq : (x11 == 1) = g) (w : World) : Calls Tryd.prog 46 #[.agg #[.int .i64 x0, .int .i64 x1, .int .i64 x2, .int .i64 x3, .int .i64 x4, .int .i64 x5, .int .i64 x6, .int .i64 x7, .int .i64 x8, .int .i64 x9, .int .i64 x10, .int .i64 x11]] w fun e w' => e = .returned (.agg #[.int .i64 x0, .int .i64 x1, .int .i64 x2, .int .i64 x3, .int .i64 x4, .int .i64 x5, .int .i64 x6, .int .i64 x7, .int .i64 x8, .int .i64 x9, .int .i64 x10, .bool g]) ∧ Below w.heap.size w w' := by
  go_enter Tryd.func46, Tryd.ntmps46
  go_upto_region 1 with fail
  generalize hW : (w.alloc (.cells #[.int .i64 x0, .int .i64 x1, .int .i64 x2, .int .i64 x3, .int .i64 x4, .int .i64 x5, .int .i64 x6, .int .i64 x7, .int .i64 x8, .int .i64 x9, .int .i64 x10, .int .i64 x11] 80)).alloc (.cells #[.int .i64 0, .int .i64 0, .int .i64 0, .int .i64 0, .int .i64 0, .int .i64 0, .int .i64 0, .int .i64 0, .int .i64 0, .int .i64 0, .int .i64 0, .bool false] 26) = U
  have hC : U.heap[w.heap.size]? = some (.cells #[.int .i64 x0, .int .i64 x1, .int .i64 x2, .int .i64 x3, .int .i64 x4, .int .i64 x5, .int .i64 x6, .int .i64 x7, .int .i64 x8, .int .i64 x9, .int .i64 x10, .int .i64 x11] 80 (0, 0)) := by rw [← hW]; exact ((below_alloc (Below.refl _ _) _).block _ (by simp)).trans (World.alloc_heap_new w _)
  have hZ : U.heap[w.heap.size + 1]? = some (.cells #[.int .i64 0, .int .i64 0, .int .i64 0, .int .i64 0, .int .i64 0, .int .i64 0, .int .i64 0, .int .i64 0, .int .i64 0, .int .i64 0, .int .i64 0, .bool false] 26 (0, 0)) := by rw [← hW]; have := World.alloc_heap_new (w.alloc (.cells #[.int .i64 x0, .int .i64 x1, .int .i64 x2, .int .i64 x3, .int .i64 x4, .int .i64 x5, .int .i64 x6, .int .i64 x7, .int .i64 x8, .int .i64 x9, .int .i64 x10, .int .i64 x11] 80)) (.cells #[.int .i64 0, .int .i64 0, .int .i64 0, .int .i64 0, .int .i64 0, .int .i64 0, .int .i64 0, .int .i64 0, .int .i64 0, .int .i64 0, .int .i64 0, .bool false] 26); rwa [show (w.alloc (.cells #[.int .i64 x0, .int .i64 x1, .int .i64 x2, .int .i64 x3, .int .i64 x4, .int .i64 x5, .int .i64 x6, .int .i64 x7, .int .i64 x8, .int .i64 x9, .int .i64 x10, .int .i64 x11] 80)).heap.size = w.heap.size + 1 by simp] at this
  have HB := Lib.hid (show Below w.heap.size w U by rw [← hW]; exact (by repeat (first | exact Below.refl _ _ | assumption | refine below_drewN ?_ _ | refine Below.drew ?_ | refine below_alloc ?_ _ | refine Below.alloc ?_ (by first | omega | (simp; done) | (simp; omega)) _ | refine Below.setCell ?_ (Below.size (by assumption)) _ | refine Below.setCell ?_ (by first | omega | (simp; done) | (simp; omega)) _ | (refine Below.trans ?_ (Below.mono (by assumption) (by first | omega | (simp; done) | (simp; omega)))) | refine below_next ?_ (by assumption))))
  clear hW
  have c0 := cell_of_block (o := 0) hC rfl
  have c1 := cell_of_block (o := 1) hC rfl
  have c2 := cell_of_block (o := 2) hC rfl
  have c3 := cell_of_block (o := 3) hC rfl
  have c4 := cell_of_block (o := 4) hC rfl
  have c5 := cell_of_block (o := 5) hC rfl
  have c6 := cell_of_block (o := 6) hC rfl
  have c7 := cell_of_block (o := 7) hC rfl
  have c8 := cell_of_block (o := 8) hC rfl
  have c9 := cell_of_block (o := 9) hC rfl
  have c10 := cell_of_block (o := 10) hC rfl
  have c11 := cell_of_block (o := 11) hC rfl
  have HZ := Lib.hid hZ
  clear hZ hC
  refine wp_region_lit ?_
  refine wpList_yield (w' := U) (v := .pointer (some ⟨w.heap.size, 0, none⟩)) rfl (by first | (go_simp; done) | (go_simp; rfl)) ?_
  refine wpList_yield (w' := U) (v := .int .i64 x0) rfl (by first | (go_simp; done) | (go_simp; rfl)) ?_
  refine wpList_yield (w' := U) (v := .pointer (some ⟨w.heap.size, 1, none⟩)) rfl (by first | (go_simp; done) | (go_simp; rfl)) ?_
  refine wpList_yield (w' := U) (v := .int .i64 x1) rfl (by first | (go_simp; done) | (go_simp; rfl)) ?_
  refine wpList_yield (w' := U) (v := .pointer (some ⟨w.heap.size, 2, none⟩)) rfl (by first | (go_simp; done) | (go_simp; rfl)) ?_
  refine wpList_yield (w' := U) (v := .int .i64 x2) rfl (by first | (go_simp; done) | (go_simp; rfl)) ?_
  refine wpList_yield (w' := U) (v := .pointer (some ⟨w.heap.size, 3, none⟩)) rfl (by first | (go_simp; done) | (go_simp; rfl)) ?_
  refine wpList_yield (w' := U) (v := .int .i64 x3) rfl (by first | (go_simp; done) | (go_simp; rfl)) ?_
  refine wpList_yield (w' := U) (v := .pointer (some ⟨w.heap.size, 4, none⟩)) rfl (by first | (go_simp; done) | (go_simp; rfl)) ?_
  refine wpList_yield (w' := U) (v := .int .i64 x4) rfl (by first | (go_simp; done) | (go_simp; rfl)) ?_
  refine wpList_yield (w' := U) (v := .pointer (some ⟨w.heap.size, 5, none⟩)) rfl (by first | (go_simp; done) | (go_simp; rfl)) ?_
  refine wpList_yield (w' := U) (v := .int .i64 x5) rfl (by first | (go_simp; done) | (go_simp; rfl)) ?_
  refine wpList_yield (w' := U) (v := .pointer (some ⟨w.heap.size, 6, none⟩)) rfl (by first | (go_simp; done) | (go_simp; rfl)) ?_
  refine wpList_yield (w' := U) (v := .int .i64 x6) rfl (by first | (go_simp; done) | (go_simp; rfl)) ?_
  refine wpList_yield (w' := U) (v := .pointer (some ⟨w.heap.size, 7, none⟩)) rfl (by first | (go_simp; done) | (go_simp; rfl)) ?_
  refine wpList_yield (w' := U) (v := .int .i64 x7) rfl (by first | (go_simp; done) | (go_simp; rfl)) ?_
  refine wpList_yield (w' := U) (v := .pointer (some ⟨w.heap.size, 8, none⟩)) rfl (by first | (go_simp; done) | (go_simp; rfl)) ?_
  refine wpList_yield (w' := U) (v := .int .i64 x8) rfl (by first | (go_simp; done) | (go_simp; rfl)) ?_
  refine wpList_yield (w' := U) (v := .pointer (some ⟨w.heap.size, 9, none⟩)) rfl (by first | (go_simp; done) | (go_simp; rfl)) ?_
  refine wpList_yield (w' := U) (v := .int .i64 x9) rfl (by first | (go_simp; done) | (go_simp; rfl)) ?_
  refine wpList_yield (w' := U) (v := .pointer (some ⟨w.heap.size, 10, none⟩)) rfl (by first | (go_simp; done) | (go_simp; rfl)) ?_
  refine wpList_yield (w' := U) (v := .int .i64 x10) rfl (by first | (go_simp; done) | (go_simp; rfl)) ?_
  refine wpList_yield (w' := U) (v := .pointer (some ⟨w.heap.size, 11, none⟩)) rfl (by first | (go_simp; done) | (go_simp; rfl)) ?_
  refine wpList_yield (w' := U) (v := .int .i64 x11) rfl (by first | (go_simp; done) | (go_simp; rfl)) ?_
  refine wpList_yield (w' := U) (v := .bool g) rfl (by first | (go_simp; done) | (go_simp; rfl)) ?_
  refine wpList_yield (w' := U) (v := .agg #[.int .i64 x0, .int .i64 x1, .int .i64 x2, .int .i64 x3, .int .i64 x4, .int .i64 x5, .int .i64 x6, .int .i64 x7, .int .i64 x8, .int .i64 x9, .int .i64 x10, .bool g]) rfl (by first | (go_simp; done) | (go_simp; rfl)) ?_
  clear c0 c1 c2 c3 c4 c5 c6 c7 c8 c9 c10 c11
  refine wpList_store_all rfl 26 _ _ rfl (w.heap.size + 1) (cs := #[.int .i64 0, .int .i64 0, .int .i64 0, .int .i64 0, .int .i64 0, .int .i64 0, .int .i64 0, .int .i64 0, .int .i64 0, .int .i64 0, .int .i64 0, .bool false]) (T := 26) [.int .i64 x0, .int .i64 x1, .int .i64 x2, .int .i64 x3, .int .i64 x4, .int .i64 x5, .int .i64 x6, .int .i64 x7, .int .i64 x8, .int .i64 x9, .int .i64 x10, .bool g] (by go_simp) (by go_simp) HZ.out rfl (by kernel_rfl) rfl ?_
  intro V hV
  have HV := Lib.hid hV
  have HB4 := Lib.hid (hV.below HB.out (by omega))
  clear hV
  go_wp2_with fail
  exact bodyPost_ret (results_all [.int .i64 x0, .int .i64 x1, .int .i64 x2, .int .i64 x3, .int .i64 x4, .int .i64 x5, .int .i64 x6, .int .i64 x7, .int .i64 x8, .int .i64 x9, .int .i64 x10, .bool g] _ Tryd.results46 (by go_simp) HV.out.there Tryd.underlying26 rfl (by kernel_rfl)) rfl ⟨rfl, HB4.out⟩
end Go.Proofs.YtdfkfcpkejjlnaaDoor
namespace Go.Proofs.YtdfkfcpkejjlnaaDoor
set_option linter.unusedVariables false
open Go.ChangeShapes Go.WideShapes Go.ChangeAt Go.RowKit

theorem infoI64 : (Tryd.prog.info? 2).map (fun i => (i.zero, i.size, i.bytes)) = some (some (.int .i64 0), 1, 8) := by kernel_rfl
/-- a row of int64s of the call's own, from block B on -/
def OwnL (w : World) (B : Nat) (v : Value) (l : List Int) : Prop := w.ownsRow B 2 1 v l.length (l.map (Value.int .i64))
theorem OwnL.below {w w' : World} {B : Nat} {v : Value} {l : List Int} (h : OwnL w B v l) (hb : Below w.heap.size w w') : OwnL w' B v l := by
  refine ⟨h.1, ?_⟩
  rcases h.2 with hn | ⟨g, cap, cur, hv, hB, hg, rest⟩
  · exact .inl hn
  · refine .inr ⟨g, cap, cur, hv, hB, ?_, rest⟩
    rw [hb.block g (Array.getElem?_eq_some_iff.1 hg).1]; exact hg
theorem OwnL.nil {w : World} {B : Nat} : OwnL w B (.slice none 0 0) [] := ⟨rfl, .inl ⟨rfl, rfl⟩⟩
theorem OwnL.mono {w : World} {B B' : Nat} {v : Value} {l : List Int} (h : OwnL w B v l) (hb : B' ≤ B) : OwnL w B' v l := by
  refine ⟨h.1, ?_⟩
  rcases h.2 with hn | ⟨g, cap, cur, hv, hB, rest⟩
  · exact .inl hn
  · exact .inr ⟨g, cap, cur, hv, by omega, rest⟩
/-- a row of int64s that may be read -/
def ReadsL (w : World) (v : Value) (l : List Int) : Prop :=
  (l = [] ∧ ∃ a c, v = .slice a 0 c) ∨ (0 < l.length ∧ l.length ≤ 9223372036854775807 ∧ ∃ g o c, v = .slice (some ⟨g, o, none⟩) l.length c ∧ l.length ≤ c ∧ ∀ k, k < l.length → w.cell? ⟨g, o + k, none⟩ = some (.int .i64 (l.getD k 0)))
theorem ReadsL.below {w w' : World} {v : Value} {l : List Int} (h : ReadsL w v l) (hb : Below w.heap.size w w') : ReadsL w' v l := by
  rcases h with h | ⟨h0, h1, g, o, c, hv, hcap, hc⟩
  · exact .inl h
  · exact .inr ⟨h0, h1, g, o, c, hv, hcap, fun k hk => (hb.cell (p := ⟨g, o + k, none⟩) (World.block_lt_of_cell? w _ (hc k hk))).trans (hc k hk)⟩
theorem OwnL.ints {w : World} {B : Nat} {v : Value} {l : List Int} (h : OwnL w B v l) : ReadsL w v l := by
  rcases h.2 with ⟨hv, h0⟩ | ⟨g, cap, cur, rfl, hB, hg, hn, hm, hz, ht⟩
  · exact .inl ⟨List.length_eq_zero_iff.1 h0, none, 0, hv⟩
  · by_cases hl : l = []
    · subst hl; exact .inl ⟨rfl, _, _, rfl⟩
    · have hpos : 0 < l.length := by cases l with | nil => exact absurd rfl hl | cons _ _ => simp
      refine .inr ⟨hpos, by unfold maxLen at hm; omega, g, 0, cap, rfl, hn, fun k hk => ?_⟩
      have := h.cells (g := g) rfl k (.int .i64 (l.getD k 0)) (by simp [List.getD, List.getElem?_eq_getElem hk])
      have hadd : (⟨g, 0, none⟩ : Addr).add k = ⟨g, k, none⟩ := by unfold Addr.add; split <;> simp_all
      rw [hadd] at this
      rw [Nat.zero_add]; exact this
section
variable {ops : Array Oper} {rest : List Oper} {o : Oper} {a : Act} {w : World} {Q : Exit → Act → World → Prop}
/-- APPEND of one int -/
theorem wpList_append_intL (T : TypeId) (hT : Tryd.prog.underlying T = some (.slice 2)) (hgd : o.guard = none) (s x : Operand)
    (ho : o.op = .call { callee := .builtin .append, args := #[s, x], argTypes := #[T, T] })
    (B : Nat) (v : Value) (l : List Int) (hs : a.eval s = v) (hown : OwnL w B v l) (g c : Nat) (n : Int) (hx : a.eval x = .slice (some ⟨g, 0, none⟩) 1 c)
    (c0 : w.cell? ⟨g, 0, none⟩ = some (.int .i64 n)) (h63 : l.length + 1 ≤ 1099511627776) (hB : B ≤ w.heap.size)
    (h : ∀ (v' : Value) (w' : World), OwnL w' B v' (l ++ [n]) → Below B w w' → wpList Tryd.prog ops Q rest (a.put o.dst v') w') : wpList Tryd.prog ops Q (o :: rest) a w := by
  obtain ⟨i0, hi, hz0, hz1, hz2⟩ := info_parts infoI64
  have hblk : ∀ k, v.ownBlock = some k → B ≤ k := fun k hk => by
    rcases hown.2 with ⟨rfl, _⟩ | ⟨g, cap, cur, rfl, hg, _⟩
    · cases hk
    · simp only [Value.ownBlock, Option.some.injEq] at hk; omega
  refine wpList_append_own _ hgd s x T ho B 2 i0 (.int .i64 0) 1 8 hT hi hz0 hz1 hz2 rfl (by decide) v l.length (l.map (Value.int .i64)) hs hown
      ⟨g, 0, none⟩ 1 c [.int .i64 n] hx rfl (fun j u hj => ?_) (fun u hu => ?_) (by unfold maxLen; omega) (by omega) hB (fun v' w' h1 h2 _ => ?_)
  · match j, hj with
    | 0, hj => simp at hj; subst hj; simpa [Addr.add] using c0
    | j + 1, hj => simp at hj
  · simp at hu
    subst hu; rfl
  · exact h v' w' (by unfold OwnL; rw [List.length_append, List.map_append]; exact h1) (Below.grown (Below.refl _ _) h2 hB hblk)
theorem append_typesL (T T2 ty : TypeId) (hT : Tryd.prog.underlying T = some (.slice 2)) (hT2 : Tryd.prog.underlying T2 = some (.slice 2)) (args : Array Value) :
    (Builtin.append_ #[T, T2] ty args).run Tryd.prog w = (Builtin.append_ #[T, T] ty args).run Tryd.prog w := by
  unfold Builtin.append_
  simp only [List.getElem?_toArray, List.getElem?_cons_zero, List.getElem?_cons_succ]
  cases h0 : args[0]? with
  | none => rfl
  | some s =>
    cases h1 : args[1]? with
    | none => rfl
    | some x => cases s <;> simp only [Sem.run_bind, run_underlying hT, run_underlying hT2, Result.andThen_ok, Sem.run_pure]
theorem append_nilL (T ty : TypeId) (hT : Tryd.prog.underlying T = some (.slice 2)) (i : TypeInfo) (hi : Tryd.prog.info? 2 = some i) (v : Value) (n B : Nat) (xs : List Value) (hown : w.ownsRow B 2 1 v n xs) (c : Nat) :
    (Builtin.append_ #[T, T] ty #[v, .slice none 0 c]).run Tryd.prog w = .ok v w := by
  rcases hown.2 with ⟨rfl, rfl⟩ | ⟨g, cap, cur, rfl, _, _, hnc, _⟩
  · simp [Builtin.append_, run_underlying hT, sizeOf, typeInfo, hi, Builtin.lenOf, Builtin.firstCells]
  · simp [Builtin.append_, run_underlying hT, sizeOf, typeInfo, hi, Builtin.lenOf, Builtin.firstCells, hnc, storeCells]
/-- what an append of a row that may be read comes to -/
theorem run_append_readL (T T2 ty : TypeId) (hT : Tryd.prog.underlying T = some (.slice 2)) (hT2 : Tryd.prog.underlying T2 = some (.slice 2)) (B : Nat) (v : Value) (l : List Int) (hown : OwnL w B v l) (vx : Value) (l2 : List Int) (hr : ReadsL w vx l2)
    (h63 : l.length + l2.length ≤ 1099511627776) (hB : B ≤ w.heap.size) :
    ∃ v' w', (Builtin.append_ #[T, T2] ty #[v, vx]).run Tryd.prog w = .ok v' w' ∧ OwnL w' B v' (l ++ l2) ∧ Below B w w' := by
  obtain ⟨i0, hi, hz0, hz1, hz2⟩ := info_parts infoI64
  have hblk : ∀ k, v.ownBlock = some k → B ≤ k := fun k hk => by
    rcases hown.2 with ⟨rfl, _⟩ | ⟨g, cap, cur, rfl, hg, _⟩
    · cases hk
    · simp only [Value.ownBlock, Option.some.injEq] at hk; omega
  have key : ∀ (ad : Addr) (c : Nat), vx = .slice (some ad) l2.length c → (∀ j u, (l2.map (Value.int .i64))[j]? = some u → w.cell? (ad.add j) = some u) →
      ∃ v' w', (Builtin.append_ #[T, T2] ty #[v, vx]).run Tryd.prog w = .ok v' w' ∧ OwnL w' B v' (l ++ l2) ∧ Below B w w' := by
    rintro ad c rfl hc
    rw [append_typesL T T2 ty hT hT2]
    obtain ⟨v', w', h0, h1, h2, _⟩ := run_append_own (P := Tryd.prog) w B T ty 2 i0 (.int .i64 0) 1 8 hT hi hz0 hz1 hz2 rfl (by decide) v l.length (l.map (Value.int .i64)) hown
      ad l2.length c (l2.map (Value.int .i64)) (by simp) hc (fun u hu => by obtain ⟨y, _, rfl⟩ := List.mem_map.1 hu; rfl) (by unfold maxLen; omega) (by omega) hB
    exact ⟨v', w', h0, by unfold OwnL; rw [List.length_append, List.map_append]; exact h1, Below.grown (Below.refl _ _) h2 hB hblk⟩
  rcases hr with ⟨rfl, a, c, rfl⟩ | ⟨h0, h1, g, o, c, rfl, _, hc⟩
  · cases a with
    | none =>
      refine ⟨v, w, ?_, by rw [List.append_nil]; exact hown, Below.refl _ _⟩
      rw [append_typesL T T2 ty hT hT2]
      exact append_nilL T ty hT i0 hi v l.length B _ hown c
    | some ad => exact key ad c rfl (fun j u hj => by simp at hj)
  · refine key ⟨g, o, none⟩ c rfl (fun j u hj => ?_)
    rw [List.getElem?_map] at hj
    cases hj2 : l2[j]? with
    | none => rw [hj2] at hj; cases hj
    | some y =>
      rw [hj2] at hj; cases hj
      obtain ⟨hlt, _⟩ := List.getElem?_eq_some_iff.1 hj2
      have hadd : (⟨g, o, none⟩ : Addr).add j = ⟨g, o + j, none⟩ := by unfold Addr.add; split <;> simp_all
      rw [hadd, hc j hlt]
      simp [List.getD, hj2]
/-- APPEND of a row of int64s that may be read -/
theorem wpList_append_readL (T T2 : TypeId) (hT : Tryd.prog.underlying T = some (.slice 2)) (hT2 : Tryd.prog.underlying T2 = some (.slice 2)) (hgd : o.guard = none) (s x : Operand)
    (ho : o.op = .call { callee := .builtin .append, args := #[s, x], argTypes := #[T, T2] })
    (B : Nat) (v : Value) (l : List Int) (hs : a.eval s = v) (hown : OwnL w B v l) (vx : Value) (l2 : List Int) (hx : a.eval x = vx) (hr : ReadsL w vx l2) (h63 : l.length + l2.length ≤ 1099511627776) (hB : B ≤ w.heap.size)
    (h : ∀ (v' : Value) (w' : World), OwnL w' B v' (l ++ l2) → Below B w w' → wpList Tryd.prog ops Q rest (a.put o.dst v') w') : wpList Tryd.prog ops Q (o :: rest) a w := by
  obtain ⟨v', w', hrun, h1, h2⟩ := run_append_readL (w := w) T T2 o.type hT hT2 B v l hown vx l2 hr h63 hB
  refine wpList_plain hgd fun K hK => ?_
  unfold Oper.wp execOp
  simp only [ho, resolve, invoke, builtin, Sem.run_bind, Sem.run_pure, Result.andThen_ok, List.map_toArray, List.map_cons, List.map_nil, hs, hx, hrun]
  exact hK _ _ (h v' w' h1 h2)
end
theorem OwnL.form {w : World} {B : Nat} {v : Value} {l : List Int} (h : OwnL w B v l) : ∃ a c, v = .slice a l.length c := by
  rcases h.2 with ⟨hv, h0⟩ | ⟨g, cap, cur, hv, _⟩
  · exact ⟨none, 0, by rw [hv, h0]⟩
  · exact ⟨_, cap, hv⟩
/-- a row that was just made, empty -/
theorem OwnL.made (w : World) : OwnL (w.alloc (.cells #[] 2)) w.heap.size (.slice (some ⟨w.heap.size, 0, none⟩) 0 0) [] :=
  ⟨rfl, .inr ⟨w.heap.size, 0, #[], rfl, Nat.le_refl _, World.alloc_heap_new w _, Nat.le_refl _, Nat.zero_le _, rfl, rfl⟩⟩
/-- so many of the first -/
theorem ReadsL.take {w : World} {a : Option Addr} {len c : Nat} {l : List Int} (h : ReadsL w (.slice a len c) l) (hl : l.length = len) {n : Nat} (hn : n ≤ len) (c' : Nat) (hc' : n ≤ c') : ReadsL w (.slice a n c') (l.take n) := by
  by_cases h0 : n = 0
  · subst h0; exact .inl ⟨rfl, _, _, rfl⟩
  · rcases h with ⟨rfl, _⟩ | ⟨h1, h2, g, o, c2, hv, _, hc⟩
    · simp at hl; omega
    · cases hv
      have ht : (l.take n).length = n := by rw [List.length_take]; omega
      refine .inr ⟨by omega, by omega, g, o, c', by rw [ht], by omega, fun k hk => ?_⟩
      rw [ht] at hk
      rw [hc k (by omega)]
      simp [List.getD, List.getElem?_take_of_lt hk]
/-- a call made a row of int64s of its own -/
def GivesL (w : World) (l : List Int) (e : Ending) (w' : World) : Prop := ∃ v, e = .returned v ∧ OwnL w' w.heap.size v l ∧ Below w.heap.size w w'
end Go.Proofs.YtdfkfcpkejjlnaaDoor
