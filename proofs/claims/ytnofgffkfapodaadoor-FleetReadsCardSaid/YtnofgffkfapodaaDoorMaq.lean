/- Laws that belong together: The document's Read of a fleet. Condition: the lengths' bound.; FleetReads walked, at any bytes (layer 9). The door's type of errors, and its table of trailing zeros. -/
import Derived.Test.YtnofgffkfapodaaDoorMan
import Derived.Test.YtnofgffkfapodaaDoorMap
import Derived.Test.YtnofgffkfapodaaDoorMCodRefE
import Derived.Test.YtnofgffkfapodaaDoorMah
import Derived.Test.YtnofgffkfapodaaDoorMFlO
import Derived.Test.YtnofgffkfapodaaDoorMae
namespace Go.Proofs.YtnofgffkfapodaaDoor
set_option linter.unusedVariables false
open Go.ChangeShapes Go.WideShapes Go.ChangeAt Go.RowKit
attribute [local go_sem ↓] Go.wp_at_zero Go.wp_at_succ comesTo_value_eq comesTo_skip_eq comesTo_enter_eq

def RDoc9 (w : World) (bs : List Int) (e : Ending) (w' : World) : Prop :=
  (okD bs = false ∧ e = .returned (.tuple #[.agg ZF9, .int .i64 11]) ∧ Below w.heap.size w w') ∨
  (okD bs = true ∧ ∃ L cL Q cP, e = .returned (.tuple #[.agg (rf9C (dgV bs (dgN bs)) (dgV bs (dgN bs)).ns.length L 0 cL Q 0 cP), .int .i64 0]) ∧ RF9 w' L 0 Q 0 (dgV bs (dgN bs)) ∧ (dgV bs (dgN bs)).ns.length ≤ cL ∧ (dgV bs (dgN bs)).ns.length ≤ cP ∧ w.heap.size ≤ L ∧ w.heap.size ≤ Q ∧ Below w.heap.size w w')
def cur9 (st : CS) : Array Value := #[.string (strOfNums st.xs), .int .i64 st.bad]
/-- where the reading stands: the result, the cursor, the rules -/
structure Rd9 (w X : World) (C R : Nat) (st : CS) (S D P : Int) : Prop where
  res : X.heap[w.heap.size]? = some (.cells ZF9 34 (0, 0))
  cur : X.heap[C]? = some (.cells (cur9 st) 81 (0, 0))
  rul : X.heap[R]? = some (.cells #[.int .i64 S, .int .i64 D, .int .i64 P] 32 (0, 0))
  c0 : w.heap.size < C
  cr : C < R
  bel : Below w.heap.size w X
theorem Rd9.k0 {w X : World} {C R : Nat} {st : CS} {S D P : Int} (h : Rd9 w X C R st S D P) : X.cell? ⟨C, 0, none⟩ = some (.string (strOfNums st.xs)) := cell_of_block (o := 0) h.cur rfl
theorem Rd9.k1 {w X : World} {C R : Nat} {st : CS} {S D P : Int} (h : Rd9 w X C R st S D P) : X.cell? ⟨C, 1, none⟩ = some (.int .i64 st.bad) := cell_of_block (o := 1) h.cur rfl
theorem Rd9.q0 {w X : World} {C R : Nat} {st : CS} {S D P : Int} (h : Rd9 w X C R st S D P) : X.cell? ⟨R, 0, none⟩ = some (.int .i64 S) := cell_of_block (o := 0) h.rul rfl
theorem Rd9.q1 {w X : World} {C R : Nat} {st : CS} {S D P : Int} (h : Rd9 w X C R st S D P) : X.cell? ⟨R, 1, none⟩ = some (.int .i64 D) := cell_of_block (o := 1) h.rul rfl
theorem Rd9.q2 {w X : World} {C R : Nat} {st : CS} {S D P : Int} (h : Rd9 w X C R st S D P) : X.cell? ⟨R, 2, none⟩ = some (.int .i64 P) := cell_of_block (o := 2) h.rul rfl
theorem Rd9.lt {w X : World} {C R : Nat} {st : CS} {S D P : Int} (h : Rd9 w X C R st S D P) : R < X.heap.size := (Array.getElem?_eq_some_iff.1 h.rul).1
theorem Rd9.more {w X X' : World} {C R Q : Nat} {st : CS} {S D P : Int} (h : Rd9 w X C R st S D P) (hb : Below Q X X') (hQ : R < Q) : Rd9 w X' C R st S D P :=
  have h1 := h.c0
  have h2 := h.cr
  ⟨(hb.block _ (by omega)).trans h.res, (hb.block _ (by omega)).trans h.cur, (hb.block _ (by omega)).trans h.rul, h1, h2, h.bel.trans (hb.mono (by omega))⟩
theorem Rd9.below {w X X' : World} {C R : Nat} {st : CS} {S D P : Int} (h : Rd9 w X C R st S D P) (hb : Below X.heap.size X X') : Rd9 w X' C R st S D P := h.more hb h.lt
theorem Rd9.wroteC {w X X' : World} {C R : Nat} {st st' : CS} {S D P : Int} (h : Rd9 w X C R st S D P) (hw : WroteTo C 81 (cur9 st') X X') : Rd9 w X' C R st' S D P :=
  have h1 := h.c0
  have h2 := h.cr
  ⟨(hw.rest _ (by omega)).trans h.res, hw.there, (hw.rest _ (by omega)).trans h.rul, h1, h2, hw.below h.bel (by omega)⟩
theorem Rd9.setC {w X : World} {C R : Nat} {st : CS} {S D P : Int} (h : Rd9 w X C R st S D P) (st' : CS) : WroteTo C 81 (cur9 st') X ((X.setCell ⟨C, 0, none⟩ (.string (strOfNums st'.xs))).setCell ⟨C, 1, none⟩ (.int .i64 st'.bad)) :=
  ((wrote_refl h.cur).set 0 (.string (strOfNums st'.xs))).set 1 (.int .i64 st'.bad)
theorem Rd9.rules {w X : World} {C R : Nat} {st : CS} {S D P : Int} (h : Rd9 w X C R st S D P) (i : Nat) (v S' D' P' : Int) (e : (#[.int .i64 S, .int .i64 D, .int .i64 P] : Array Value).setIfInBounds i (.int .i64 v) = #[.int .i64 S', .int .i64 D', .int .i64 P']) : Rd9 w (X.setCell ⟨R, i, none⟩ (.int .i64 v)) C R st S' D' P' := by
  have hw := (wrote_refl h.rul).set i (.int .i64 v)
  rw [e] at hw
  have h1 := h.c0
  have h2 := h.cr
  exact ⟨(hw.rest _ (by omega)).trans h.res, (hw.rest _ (by omega)).trans h.cur, hw.there, h1, h2, hw.below h.bel (by omega)⟩
/-- a round: the fleet's block, its rows, the node under way -/
structure Rn9 (w X : World) (C R Q A : Nat) (st : CS) (S D P sw : Int) (ns : List N3) (kL kP : Nat) (sp : NSet) (vL vP : Value) (x : N3) : Prop where
  base : Rd9 w X C R st S D P
  blk : X.heap[Q]? = some (.cells #[vL, vP, .int .i64 S, .int .i64 D, .int .i64 P, .int .i64 sw] 34 (0, 0))
  rL : X.ownsRow (Q + 1) 67 3 vL kL (flatN ns)
  rP : X.ownsRow (Q + 1) 4 1 vP kP ((List.range kP).map fun i => .bool (sp.getLsbD i))
  ap : ∀ g, vL.ownBlock = some g → vP.ownBlock ≠ some g
  rq : R < Q
  xb : X.heap[A]? = some (.cells #[.int .i64 x.1, .int .i64 x.2.1, .int .i64 x.2.2] 67 (0, 0))
  qa : Q < A
  la : ∀ g, vL.ownBlock = some g → g ≠ A
  pa : ∀ g, vP.ownBlock = some g → g ≠ A
/-- between two rounds -/
structure Lp9 (w X : World) (C R Q : Nat) (st : CS) (S D P sw : Int) (ns : List N3) (kL kP : Nat) (sp : NSet) (vL vP : Value) : Prop where
  base : Rd9 w X C R st S D P
  blk : X.heap[Q]? = some (.cells #[vL, vP, .int .i64 S, .int .i64 D, .int .i64 P, .int .i64 sw] 34 (0, 0))
  rL : X.ownsRow (Q + 1) 67 3 vL kL (flatN ns)
  rP : X.ownsRow (Q + 1) 4 1 vP kP ((List.range kP).map fun i => .bool (sp.getLsbD i))
  ap : ∀ g, vL.ownBlock = some g → vP.ownBlock ≠ some g
  rq : R < Q
theorem Rn9.lp {w X : World} {C R Q A : Nat} {st : CS} {S D P sw : Int} {ns : List N3} {kL kP : Nat} {sp : NSet} {vL vP : Value} {x : N3} (h : Rn9 w X C R Q A st S D P sw ns kL kP sp vL vP x) : Lp9 w X C R Q st S D P sw ns kL kP sp vL vP := ⟨h.base, h.blk, h.rL, h.rP, h.ap, h.rq⟩
theorem Rn9.x0 {w X : World} {C R Q A : Nat} {st : CS} {S D P sw : Int} {ns : List N3} {kL kP : Nat} {sp : NSet} {vL vP : Value} {x : N3} (h : Rn9 w X C R Q A st S D P sw ns kL kP sp vL vP x) : X.cell? ⟨A, 0, none⟩ = some (.int .i64 x.1) := cell_of_block (o := 0) h.xb rfl
theorem Rn9.x1 {w X : World} {C R Q A : Nat} {st : CS} {S D P sw : Int} {ns : List N3} {kL kP : Nat} {sp : NSet} {vL vP : Value} {x : N3} (h : Rn9 w X C R Q A st S D P sw ns kL kP sp vL vP x) : X.cell? ⟨A, 1, none⟩ = some (.int .i64 x.2.1) := cell_of_block (o := 1) h.xb rfl
theorem Rn9.x2 {w X : World} {C R Q A : Nat} {st : CS} {S D P sw : Int} {ns : List N3} {kL kP : Nat} {sp : NSet} {vL vP : Value} {x : N3} (h : Rn9 w X C R Q A st S D P sw ns kL kP sp vL vP x) : X.cell? ⟨A, 2, none⟩ = some (.int .i64 x.2.2) := cell_of_block (o := 2) h.xb rfl
theorem Lp9.begin {w X : World} {C R Q : Nat} {st : CS} {S D P sw : Int} {ns : List N3} {kL kP : Nat} {sp : NSet} {vL vP : Value} (h : Lp9 w X C R Q st S D P sw ns kL kP sp vL vP) : Rn9 w (X.alloc (.cells #[.int .i64 0, .int .i64 0, .int .i64 0] 67)) C R Q X.heap.size st S D P sw ns kL kP sp vL vP (0, 0, 0) := by
  have hb := below_alloc (Below.refl _ X) (.cells #[.int .i64 0, .int .i64 0, .int .i64 0] 67)
  have hq := (Array.getElem?_eq_some_iff.1 h.blk).1
  exact ⟨h.base.below hb, (hb.block _ hq).trans h.blk, own_keep h.rL fun g _ hg => hb.block g hg, own_keep h.rP fun g _ hg => hb.block g hg, h.ap, h.rq, World.alloc_heap_new X _, hq, fun g hg => by have := Ap.own_lt h.rL g hg; omega, fun g hg => by have := Ap.own_lt h.rP g hg; omega⟩
theorem Rn9.below {w X X' : World} {C R Q A : Nat} {st : CS} {S D P sw : Int} {ns : List N3} {kL kP : Nat} {sp : NSet} {vL vP : Value} {x : N3} (h : Rn9 w X C R Q A st S D P sw ns kL kP sp vL vP x) (hb : Below X.heap.size X X') : Rn9 w X' C R Q A st S D P sw ns kL kP sp vL vP x :=
  ⟨h.base.below hb, (hb.block _ (Array.getElem?_eq_some_iff.1 h.blk).1).trans h.blk, own_keep h.rL fun g _ hg => hb.block g hg, own_keep h.rP fun g _ hg => hb.block g hg, h.ap, h.rq, (hb.block _ (Array.getElem?_eq_some_iff.1 h.xb).1).trans h.xb, h.qa, h.la, h.pa⟩
theorem Lp9.below {w X X' : World} {C R Q : Nat} {st : CS} {S D P sw : Int} {ns : List N3} {kL kP : Nat} {sp : NSet} {vL vP : Value} (h : Lp9 w X C R Q st S D P sw ns kL kP sp vL vP) (hb : Below X.heap.size X X') : Lp9 w X' C R Q st S D P sw ns kL kP sp vL vP :=
  ⟨h.base.below hb, (hb.block _ (Array.getElem?_eq_some_iff.1 h.blk).1).trans h.blk, own_keep h.rL fun g _ hg => hb.block g hg, own_keep h.rP fun g _ hg => hb.block g hg, h.ap, h.rq⟩
/-- a reading: the cursor's block and the node's turn -/
theorem Rn9.read {w X : World} {C R Q A : Nat} {st : CS} {S D P sw : Int} {ns : List N3} {kL kP : Nat} {sp : NSet} {vL vP : Value} {x : N3} (h : Rn9 w X C R Q A st S D P sw ns kL kP sp vL vP x) (st' : CS) (i : Nat) (v : Int) (x' : N3)
    (e : (#[.int .i64 x.1, .int .i64 x.2.1, .int .i64 x.2.2] : Array Value).setIfInBounds i (.int .i64 v) = #[.int .i64 x'.1, .int .i64 x'.2.1, .int .i64 x'.2.2]) :
    Rn9 w (((X.setCell ⟨C, 0, none⟩ (.string (strOfNums st'.xs))).setCell ⟨C, 1, none⟩ (.int .i64 st'.bad)).setCell ⟨A, i, none⟩ (.int .i64 v)) C R Q A st' S D P sw ns kL kP sp vL vP x' := by
  have h1 := h.base.c0
  have h2 := h.base.cr
  have h3 := h.rq
  have h4 := h.qa
  have w1 := h.base.setC st'
  have b1 := h.base.wroteC w1
  generalize (X.setCell ⟨C, 0, none⟩ (.string (strOfNums st'.xs))).setCell ⟨C, 1, none⟩ (.int .i64 st'.bad) = Y at *
  have xb := (w1.rest A (by omega)).trans h.xb
  have w2 := (wrote_refl xb).set i (.int .i64 v)
  rw [e] at w2
  have hr : ∀ j, j ≠ C → j ≠ A → (Y.setCell ⟨A, i, none⟩ (.int .i64 v)).heap[j]? = X.heap[j]? := fun j j1 j2 => (w2.rest j j2).trans (w1.rest j j1)
  refine ⟨⟨(hr _ (by omega) (by omega)).trans h.base.res, (w2.rest _ (by omega)).trans b1.cur, (hr _ (by omega) (by omega)).trans h.base.rul, h1, h2, w2.below b1.bel (by omega)⟩, (hr _ (by omega) (by omega)).trans h.blk,
    own_keep h.rL fun g hg _ => hr g (by have := Ap.own_blk h.rL g hg; omega) (h.la g hg), own_keep h.rP fun g hg _ => hr g (by have := Ap.own_blk h.rP g hg; omega) (h.pa g hg), h.ap, h3, w2.there, h4, h.la, h.pa⟩
theorem Rn9.stepL {w W : World} {C R Q A : Nat} {st : CS} {S D P sw : Int} {ns : List N3} {kL kP : Nat} {sp : NSet} {vL vP : Value} {x : N3} (h : Rn9 w W C R Q A st S D P sw ns kL kP sp vL vP x) (hk : kL < 64) (ty : TypeId) :
    ∃ a c Wb, (Builtin.append_ #[30, 30] ty #[vL, .slice (some ⟨W.heap.size, 0, none⟩) 1 1]).run Tryd.prog (W.alloc (.cells #[.int .i64 x.1, .int .i64 x.2.1, .int .i64 x.2.2] 67)) = .ok (.slice a (kL + 1) c) Wb ∧
      Wb.heap[Q]? = some (.cells #[vL, vP, .int .i64 S, .int .i64 D, .int .i64 P, .int .i64 sw] 34 (0, 0)) ∧ Rn9 w (Wb.setCell ⟨Q, 0, none⟩ (.slice a (kL + 1) c)) C R Q A st S D P sw (ns ++ [x]) (kL + 1) kP sp (.slice a (kL + 1) c) vP x := by
  have hQ := (Array.getElem?_eq_some_iff.1 h.blk).1
  have hA := (Array.getElem?_eq_some_iff.1 h.xb).1
  obtain ⟨v', Wb, g0, g1, g2, g3, g4, g5⟩ := app_one eltN8 ty h.rL [.int .i64 x.1, .int .i64 x.2.1, .int .i64 x.2.2] rfl (by intro u hu; simp at hu; rcases hu with rfl | rfl | rfl <;> rfl) (by omega) (by decide) hQ
  have hform : ∃ a c, v' = .slice a (kL + 1) c := by
    rcases g1.2 with ⟨_, h0⟩ | ⟨g, cap, cur, hv, _⟩
    · omega
    · exact ⟨_, _, hv⟩
  obtain ⟨a, c, rfl⟩ := hform
  have hbQ : Wb.heap[Q]? = W.heap[Q]? := g5.block Q (by omega)
  have hb := hbQ.trans h.blk
  have hw := (wrote_refl hb).set 0 (.slice a (kL + 1) c)
  have hL := Ap.own_blk g1
  have hP := Ap.own_blk h.rP
  have hPl := Ap.own_lt h.rP
  have h3 := h.rq
  have h4 := h.qa
  refine ⟨a, c, Wb, g0, hb, ⟨(h.base.more (g5.mono (by omega) : Below Q W Wb) h3).more (hw.below (Below.refl _ _) (Nat.le_refl _)) h3, hw.there, ?_, ?_, fun g hg hg2 => ?_, h3, ?_, h4, fun g hg => ?_, h.pa⟩⟩
  · have e : flatN (ns ++ [x]) = flatN ns ++ [.int .i64 x.1, .int .i64 x.2.1, .int .i64 x.2.2] := flatN_snoc ns x
    rw [e]
    exact own_keep g1 fun g hg _ => hw.rest g (by have := hL g hg; omega)
  · refine own_keep h.rP fun g hg hgl => (hw.rest g (by have := hP g hg; omega)).trans (g2 g hgl fun e => h.ap g e hg)
  · rcases g4 g hg with h1 | h1
    · exact h.ap g h1 hg2
    · have := hPl g hg2; omega
  · exact ((hw.rest A (by omega)).trans (g2 A hA fun e => h.la A e rfl)).trans h.xb
  · rcases g4 g hg with h1 | h1
    · exact h.la g h1
    · omega
theorem Rn9.stepP {w W : World} {C R Q A : Nat} {st : CS} {S D P sw : Int} {ns : List N3} {kL kP : Nat} {sp : NSet} {vL vP : Value} {x : N3} (h : Rn9 w W C R Q A st S D P sw ns kL kP sp vL vP x) (hk : kP < 64) (ty : TypeId) (b : Bool) (hb : b = sp.getLsbD kP) :
    ∃ a c Wb, (Builtin.append_ #[31, 31] ty #[vP, .slice (some ⟨W.heap.size, 0, none⟩) 1 1]).run Tryd.prog (W.alloc (.cells #[.bool b] 4)) = .ok (.slice a (kP + 1) c) Wb ∧
      Wb.heap[Q]? = some (.cells #[vL, vP, .int .i64 S, .int .i64 D, .int .i64 P, .int .i64 sw] 34 (0, 0)) ∧ Rn9 w (Wb.setCell ⟨Q, 1, none⟩ (.slice a (kP + 1) c)) C R Q A st S D P sw ns kL (kP + 1) sp vL (.slice a (kP + 1) c) x := by
  have hQ := (Array.getElem?_eq_some_iff.1 h.blk).1
  have hA := (Array.getElem?_eq_some_iff.1 h.xb).1
  obtain ⟨v', Wb, g0, g1, g2, g3, g4, g5⟩ := app_one eltB1 ty h.rP [.bool b] rfl (by intro u hu; simp at hu; subst hu; rfl) (by omega) (by decide) hQ
  have hform : ∃ a c, v' = .slice a (kP + 1) c := by
    rcases g1.2 with ⟨_, h0⟩ | ⟨g, cap, cur, hv, _⟩
    · omega
    · exact ⟨_, _, hv⟩
  obtain ⟨a, c, rfl⟩ := hform
  have hbQ : Wb.heap[Q]? = W.heap[Q]? := g5.block Q (by omega)
  have hbl := hbQ.trans h.blk
  have hw := (wrote_refl hbl).set 1 (.slice a (kP + 1) c)
  have hL := Ap.own_blk h.rL
  have hLl := Ap.own_lt h.rL
  have hP := Ap.own_blk g1
  have h3 := h.rq
  have h4 := h.qa
  refine ⟨a, c, Wb, g0, hbl, ⟨(h.base.more (g5.mono (by omega) : Below Q W Wb) h3).more (hw.below (Below.refl _ _) (Nat.le_refl _)) h3, hw.there, ?_, ?_, fun g hg hg2 => ?_, h3, ?_, h4, h.la, fun g hg => ?_⟩⟩
  · exact own_keep h.rL fun g hg hgl => (hw.rest g (by have := hL g hg; omega)).trans (g2 g hgl fun e => h.ap g hg e)
  · rw [List.range_succ, List.map_append, List.map_singleton, ← hb]
    exact own_keep g1 fun g hg _ => hw.rest g (by have := hP g hg; omega)
  · rcases g4 g hg2 with h1 | h1
    · exact h.ap g hg h1
    · have := hLl g hg; omega
  · exact ((hw.rest A (by omega)).trans (g2 A hA fun e => h.pa A e rfl)).trans h.xb
  · rcases g4 g hg with h1 | h1
    · exact h.pa g h1
    · omega
/-- a bit of the spares -/
theorem bit_eq (s : NSet) (k : Nat) : (nv s / 2 ^ k % 2 == 1) = s.getLsbD k := by
  have h := bit_at s k
  have e : ((s.toNat / 2 ^ k % 2 : Nat) : Int) = nv s / 2 ^ k % 2 := by
    unfold nv
    simp
  rw [e] at h
  rw [h]
  cases s.getLsbD k <;> rfl
theorem bit_tm (s : NSet) (k : Nat) : ((nv s / 2 ^ k).tmod 2 == 1) = s.getLsbD k := by
  rw [← bit_eq, Int.tmod_eq_emod_of_nonneg]
  have h1 := nv_lo s
  exact Int.ediv_nonneg h1 (by
    have : (0 : Int) ≤ ((2 ^ k : Nat) : Int) := Int.natCast_nonneg _
    simpa using this)
theorem allD_le {bs : List Int} {k : Nat} : ∀ j, allD bs (k + j) = true → allD bs k = true
  | 0, h => h
  | j + 1, h => allD_le j (by
      have e : (dgC bs (k + (j + 1))).2 = (dgC bs (k + j)).2 ++ [(rs3 (dgC bs (k + j)).1).2] := rfl
      unfold allD at h ⊢
      rw [e, List.all_append, Bool.and_eq_true] at h
      exact h.1)
theorem allD_next (bs : List Int) (k : Nat) : allD bs (k + 1) = (allD bs k && rightN (rs3 (dgC bs k).1).2.1 (rs3 (dgC bs k).1).2.2.1 (rs3 (dgC bs k).1).2.2.2 (dg1 bs).2 (dg2 bs).2 (dg3 bs).2) := by
  have e : (dgC bs (k + 1)).2 = (dgC bs k).2 ++ [(rs3 (dgC bs k).1).2] := rfl
  unfold allD
  rw [e, List.all_append, List.all_cons, List.all_nil, Bool.and_true]
theorem dgC_by {bs : List Int} (hb : ∀ x ∈ bs, 0 ≤ x ∧ x ≤ 255) : ∀ k, Cs.By (dgC bs k).1
  | 0 => (dg_by hb).1
  | k + 1 => Cs.smallF_by (Cs.smallF_by (Cs.smallF_by (dgC_by hb k) 4) 2000) 2000
/-- a reading leaves no more bytes -/
theorem rdI_less (st : CS) : (intF st).1.xs.length ≤ st.xs.length := by
  unfold intF
  split
  · exact (scan_suffix st.xs 0 0).length_le
  · exact Nat.le_refl _
theorem rdS_less (st : CS) (m : Int) : (smallF st m).1.xs.length ≤ st.xs.length := by
  have h := rdI_less st
  unfold smallF
  split
  · unfold failF
    split
    · exact Nat.zero_le _
    · exact h
  · exact h
theorem dgC_less (bs : List Int) : ∀ k, (dgC bs k).1.xs.length ≤ bs.length
  | 0 => by
    have a0 := rdS_less ⟨bs, 0⟩ 64
    have a1 := rdS_less (h0 bs).1 2000
    have a2 := rdS_less (dg1 bs).1 2000
    have a3 := rdS_less (dg2 bs).1 2000
    have a4 := rdI_less (dg3 bs).1
    have a5 := rdI_less (dg4 bs).1
    exact Nat.le_trans a5 (Nat.le_trans a4 (Nat.le_trans a3 (Nat.le_trans a2 (Nat.le_trans a1 a0))))
  | k + 1 => Nat.le_trans (rdS_less _ 2000) (Nat.le_trans (rdS_less _ 2000) (Nat.le_trans (rdS_less _ 4) (dgC_less bs k)))
/-- of a cursor's state: the calls' bounds -/
structure Good (st : CS) : Prop where
  b : ∀ x ∈ st.xs, 0 ≤ x ∧ x ≤ 255
  l : st.xs.length ≤ 1099511627776
theorem Good.small {st : CS} (h : Good st) (m : Int) : Good (smallF st m).1 := ⟨Cs.smallF_by h.b m, Nat.le_trans (rdS_less st m) h.l⟩
theorem Good.int {st : CS} (h : Good st) : Good (intF st).1 := ⟨Cs.intF_by h.b, Nat.le_trans (rdI_less st) h.l⟩
theorem dgC_good {bs : List Int} (h : Good ⟨bs, 0⟩) (k : Nat) : Good (dgC bs k).1 := ⟨dgC_by h.b k, Nat.le_trans (dgC_less bs k) h.l⟩
theorem card_step (H : NSet) {k : Nat} (hk : k < 64) : card (firstK H (k + 1)) = card (firstK H k) + (if H.getLsbD k = true then 1 else 0) := by
  rw [firstK_step H hk]
  split
  · exact card_with hk (by rw [firstK_get _ _ _ hk]; simp)
  · rfl
theorem rs9_first {bs : List Int} (h : Good ⟨bs, 0⟩) (n : Nat) (hn : (h0 bs).2 = (n : Int)) (X : World) : Calls Tryd.prog 49 #[.agg #[.string (strOfNums bs), .int .i64 0], .int .i64 64] X fun e w' => e = .returned (.tuple #[.agg #[.string (strOfNums (h0 bs).1.xs), .int .i64 (h0 bs).1.bad], .int .i64 n]) ∧ Below X.heap.size X w' := by
  have := rsmall_any ⟨bs, 0⟩ h.b h.l 64 X
  rw [show (smallF ⟨bs, 0⟩ 64).2 = (n : Int) from hn] at this
  exact this
set_option maxRecDepth 100000 in
set_option maxHeartbeats 8000000 in
theorem fread9_any (bs : List Int) (hx : ∀ x ∈ bs, 0 ≤ x ∧ x ≤ 255) (hl : bs.length ≤ 1099511627775) (w : World) : Calls Tryd.prog 17 #[.string (strOfNums bs)] w fun e w' => RDoc9 w bs e w' := by
  have hmx : Tryd.prog.follows .mixedOrders = true := by kernel_rfl
  have HG0 := Lib.hid (show Good ⟨bs, 0⟩ from ⟨hx, Nat.le_trans hl (by decide)⟩)
  have HX := Lib.hid hx
  have HNO := Lib.hid (fun (hh : okD bs = false) e w' (he : e = .returned (.tuple #[.agg ZF9, .int .i64 11])) (hb : Below w.heap.size w w') => (show RDoc9 w bs e w' from .inl ⟨hh, he, hb⟩))
  have HYES := Lib.hid (fun (hh : okD bs = true) e w' L cL Q cP (he : e = .returned (.tuple #[.agg (rf9C (dgV bs (dgN bs)) (dgV bs (dgN bs)).ns.length L 0 cL Q 0 cP), .int .i64 0])) (h1 : RF9 w' L 0 Q 0 (dgV bs (dgN bs))) (h2 : (dgV bs (dgN bs)).ns.length ≤ cL) (h3 : (dgV bs (dgN bs)).ns.length ≤ cP) (h4 : w.heap.size ≤ L) (h5 : w.heap.size ≤ Q) (hb : Below w.heap.size w w') => (show RDoc9 w bs e w' from .inr ⟨hh, L, cL, Q, cP, he, h1, h2, h3, h4, h5, hb⟩))
  have HN := Lib.hid (dgN_eq bs)
  obtain ⟨n, hn⟩ : ∃ n, n = dgN bs := ⟨_, rfl⟩
  rw [← hn] at HN
  have HNE := Lib.hid hn
  clear hx hl hn
  generalize hE : RDoc9 w bs = E at *
  clear hE
  have hA := below_alloc (Below.refl _ w) (.cells ZF9 34)
  have hZ := World.alloc_heap_new w (.cells ZF9 34)
  go_enter Tryd.func17, Tryd.ntmps17
  go_upto_region 1 with fail
  have HA := Lib.hid (show Below w.heap.size w (w.alloc (.cells #[.slice none 0 0, .slice none 0 0, .int .i64 0, .int .i64 0, .int .i64 0, .int .i64 0] 34)) from hA)
  have HZ := Lib.hid (show (w.alloc (.cells #[.slice none 0 0, .slice none 0 0, .int .i64 0, .int .i64 0, .int .i64 0, .int .i64 0] 34)).heap[w.heap.size]? = some (.cells ZF9 34 (0, 0)) from hZ)
  clear hA hZ
  generalize w.alloc (.cells #[.slice none 0 0, .slice none 0 0, .int .i64 0, .int .i64 0, .int .i64 0, .int .i64 0] 34) = W1 at *
  have HG1 := Lib.hid (HG0.out.small 64)
  have HG2 := Lib.hid (show Good (dg1 bs).1 from HG1.out.small 2000)
  have HG3 := Lib.hid (show Good (dg2 bs).1 from HG2.out.small 2000)
  have HG4 := Lib.hid (show Good (dg3 bs).1 from HG3.out.small 2000)
  have HG5 := Lib.hid (show Good (dg4 bs).1 from HG4.out.int)
  obtain ⟨S, hS⟩ : ∃ x, x = (dg1 bs).2 := ⟨_, rfl⟩
  obtain ⟨D, hD⟩ : ∃ x, x = (dg2 bs).2 := ⟨_, rfl⟩
  obtain ⟨P, hP⟩ : ∃ x, x = (dg3 bs).2 := ⟨_, rfl⟩
  obtain ⟨vs, hvs⟩ : ∃ x, x = (dg4 bs).2 := ⟨_, rfl⟩
  obtain ⟨sw, hsw⟩ : ∃ x, x = (dg5 bs).2 := ⟨_, rfl⟩
  obtain ⟨sp, hsp⟩ : ∃ x, x = dgS bs := ⟨_, rfl⟩
  have hcv : IntKind.u64.wrap vs = nv sp := by rw [hsp, hvs]; exact (nv_ofInt' _).symm
  have HCV := Lib.hid hcv
  have KS0 := Lib.hid (fun X => rs9_first HG0.out n HN.out.1 X)
  have K1 := Lib.hid (fun X => by rw [hS]; exact rsmall_any (h0 bs).1 HG1.out.b HG1.out.l 2000 X : ∀ X, Calls Tryd.prog 49 #[.agg #[.string (strOfNums (h0 bs).1.xs), .int .i64 (h0 bs).1.bad], .int .i64 2000] X fun e w' => e = .returned (.tuple #[.agg #[.string (strOfNums (dg1 bs).1.xs), .int .i64 (dg1 bs).1.bad], .int .i64 S]) ∧ Below X.heap.size X w')
  have K2 := Lib.hid (fun X => by rw [hD]; exact rsmall_any (dg1 bs).1 HG2.out.b HG2.out.l 2000 X : ∀ X, Calls Tryd.prog 49 #[.agg #[.string (strOfNums (dg1 bs).1.xs), .int .i64 (dg1 bs).1.bad], .int .i64 2000] X fun e w' => e = .returned (.tuple #[.agg #[.string (strOfNums (dg2 bs).1.xs), .int .i64 (dg2 bs).1.bad], .int .i64 D]) ∧ Below X.heap.size X w')
  have K3 := Lib.hid (fun X => by rw [hP]; exact rsmall_any (dg2 bs).1 HG3.out.b HG3.out.l 2000 X : ∀ X, Calls Tryd.prog 49 #[.agg #[.string (strOfNums (dg2 bs).1.xs), .int .i64 (dg2 bs).1.bad], .int .i64 2000] X fun e w' => e = .returned (.tuple #[.agg #[.string (strOfNums (dg3 bs).1.xs), .int .i64 (dg3 bs).1.bad], .int .i64 P]) ∧ Below X.heap.size X w')
  have K4 := Lib.hid (fun X => by rw [hvs]; exact rint_any (dg3 bs).1 HG4.out.b HG4.out.l X : ∀ X, Calls Tryd.prog 50 #[.agg #[.string (strOfNums (dg3 bs).1.xs), .int .i64 (dg3 bs).1.bad]] X fun e w' => e = .returned (.tuple #[.agg #[.string (strOfNums (dg4 bs).1.xs), .int .i64 (dg4 bs).1.bad], .int .i64 vs]) ∧ Below X.heap.size X w')
  have K5 := Lib.hid (fun X => by rw [hsw]; exact rint_any (dg4 bs).1 HG5.out.b HG5.out.l X : ∀ X, Calls Tryd.prog 50 #[.agg #[.string (strOfNums (dg4 bs).1.xs), .int .i64 (dg4 bs).1.bad]] X fun e w' => e = .returned (.tuple #[.agg #[.string (strOfNums (dg5 bs).1.xs), .int .i64 (dg5 bs).1.bad], .int .i64 sw]) ∧ Below X.heap.size X w')
  have HD := Lib.hid (show headD bs = (((dg5 bs).1.bad == 0) && decide (0 ≤ sw) && rightR S D P && decide (1 ≤ (n : Int))) by unfold headD; rw [hS, hD, hP, hsw, HN.out.1])
  have HEQ := Lib.hid (And.intro hS (And.intro hD (And.intro hP (And.intro hsw hsp))))
  clear hS hD hP hvs hsw hsp hcv HG1 HG2 HG3 HG4 HG5
  obtain ⟨ss, hss⟩ : ∃ x, x = strOfNums bs := ⟨_, rfl⟩
  have HSS := Lib.hid hss
  rw [← hss] at KS0 ⊢
  clear hss
  obtain ⟨s0, hs0⟩ : ∃ x, x = strOfNums (h0 bs).1.xs := ⟨_, rfl⟩
  obtain ⟨b0, hb0⟩ : ∃ x, x = (h0 bs).1.bad := ⟨_, rfl⟩
  rw [← hs0, ← hb0] at KS0 K1
  have HC0 := Lib.hid (show cur9 (h0 bs).1 = #[.string s0, .int .i64 b0] by unfold cur9; rw [hs0, hb0])
  clear hs0 hb0
  go_wp2_with fail
  refine (KS0.out _).mono ?_
  rintro e wc ⟨rfl, hb⟩
  have hB := below_next HA.out hb
  have hZ := (hb.block _ (Array.getElem?_eq_some_iff.1 HZ.out).1).trans HZ.out
  have b1 := below_alloc (Below.refl _ wc) (.cells #[.string s0, .int .i64 b0] 81)
  have h3 := World.alloc_heap_new wc (.cells #[.string s0, .int .i64 b0] 81)
  have b2 := below_alloc (Below.refl _ (wc.alloc (.cells #[.string s0, .int .i64 b0] 81))) (.cells #[.int .i64 0, .int .i64 0, .int .i64 0] 32)
  have h4 := World.alloc_heap_new (wc.alloc (.cells #[.string s0, .int .i64 b0] 81)) (.cells #[.int .i64 0, .int .i64 0, .int .i64 0] 32)
  have hlt := (Array.getElem?_eq_some_iff.1 hZ).1
  rw [World.size_alloc] at h4
  have hb2 := below_next b1 b2
  have HR0 := Lib.hid (show Rd9 w ((wc.alloc (.cells #[.string s0, .int .i64 b0] 81)).alloc (.cells #[.int .i64 0, .int .i64 0, .int .i64 0] 32)) wc.heap.size (wc.heap.size + 1) (h0 bs).1 0 0 0 from
    ⟨(hb2.block _ hlt).trans hZ, ((b2.block _ (by simp)).trans h3).trans (by rw [HC0.out]), h4, hlt, Nat.lt_succ_self _, below_next hB hb2⟩)
  clear hb hB hZ b1 h3 b2 h4 hlt hb2 KS0
  go_upto_region 3 with fail
  generalize (wc.alloc (.cells #[.string s0, .int .i64 b0] 81)).alloc (.cells #[.int .i64 0, .int .i64 0, .int .i64 0] 32) = X0 at *
  obtain ⟨R, hR⟩ : ∃ R, R = wc.heap.size + 1 := ⟨_, rfl⟩
  rw [← hR] at HR0 ⊢
  clear hR
  generalize wc.heap.size = C at *
  have hne1 : C ≠ R := Nat.ne_of_lt HR0.out.cr
  have hne2 : R ≠ C := Ne.symm hne1
  have c0 : X0.cell? ⟨C, 0, none⟩ = some (.string s0) := cell_of_block (o := 0) (show X0.heap[C]? = some (.cells #[.string s0, .int .i64 b0] 81 (0, 0)) by rw [← HC0.out]; exact HR0.out.cur) rfl
  have c1 : X0.cell? ⟨C, 1, none⟩ = some (.int .i64 b0) := cell_of_block (o := 1) (show X0.heap[C]? = some (.cells #[.string s0, .int .i64 b0] 81 (0, 0)) by rw [← HC0.out]; exact HR0.out.cur) rfl
  go_wp2_with fail
  refine (K1.out _).mono ?_
  rintro e Y1 ⟨rfl, hb⟩
  have HY1 := Lib.hid (HR0.out.below hb)
  clear hb c0 c1 K1
  have c0 := HY1.out.k0
  have c1 := HY1.out.k1
  have f0 := free_of_block 0 HY1.out.cur
  have f1 := free_of_block 1 HY1.out.cur
  have r0 := HY1.out.q0
  have g0 := free_of_block 0 HY1.out.rul
  have HR1 := Lib.hid ((HY1.out.wroteC (HY1.out.setC ((dg1 bs).1))).rules 0 S S 0 0 rfl)
  go_upto_region 4 with fail
  generalize ((Y1.setCell ⟨C, 0, none⟩ (.string (strOfNums ((dg1 bs).1).xs))).setCell ⟨C, 1, none⟩ (.int .i64 ((dg1 bs).1).bad)).setCell ⟨R, 0, none⟩ (.int .i64 S) = X1 at *
  clear r0 g0 c0 c1 f0 f1 HY1 HR0
  have c0 := HR1.out.k0
  have c1 := HR1.out.k1
  go_wp2_with fail
  refine (K2.out _).mono ?_
  rintro e Y2 ⟨rfl, hb⟩
  have HY2 := Lib.hid (HR1.out.below hb)
  clear hb c0 c1 K2
  have c0 := HY2.out.k0
  have c1 := HY2.out.k1
  have f0 := free_of_block 0 HY2.out.cur
  have f1 := free_of_block 1 HY2.out.cur
  have r0 := HY2.out.q1
  have g0 := free_of_block 1 HY2.out.rul
  have HR2 := Lib.hid ((HY2.out.wroteC (HY2.out.setC ((dg2 bs).1))).rules 1 D S D 0 rfl)
  go_upto_region 5 with fail
  generalize ((Y2.setCell ⟨C, 0, none⟩ (.string (strOfNums ((dg2 bs).1).xs))).setCell ⟨C, 1, none⟩ (.int .i64 ((dg2 bs).1).bad)).setCell ⟨R, 1, none⟩ (.int .i64 D) = X2 at *
  clear r0 g0 c0 c1 f0 f1 HY2 HR1
  have c0 := HR2.out.k0
  have c1 := HR2.out.k1
  go_wp2_with fail
  refine (K3.out _).mono ?_
  rintro e Y3 ⟨rfl, hb⟩
  have HY3 := Lib.hid (HR2.out.below hb)
  clear hb c0 c1 K3
  have c0 := HY3.out.k0
  have c1 := HY3.out.k1
  have f0 := free_of_block 0 HY3.out.cur
  have f1 := free_of_block 1 HY3.out.cur
  have r0 := HY3.out.q2
  have g0 := free_of_block 2 HY3.out.rul
  have HR3 := Lib.hid ((HY3.out.wroteC (HY3.out.setC ((dg3 bs).1))).rules 2 P S D P rfl)
  go_upto_region 6 with fail
  generalize ((Y3.setCell ⟨C, 0, none⟩ (.string (strOfNums ((dg3 bs).1).xs))).setCell ⟨C, 1, none⟩ (.int .i64 ((dg3 bs).1).bad)).setCell ⟨R, 2, none⟩ (.int .i64 P) = X3 at *
  clear r0 g0 c0 c1 f0 f1 HY3 HR2
  have c0 := HR3.out.k0
  have c1 := HR3.out.k1
  go_wp2_with fail
  refine (K4.out _).mono ?_
  rintro e Y4 ⟨rfl, hb⟩
  have HY4 := Lib.hid (HR3.out.below hb)
  clear hb c0 c1 K4
  have c0 := HY4.out.k0
  have c1 := HY4.out.k1
  have f0 := free_of_block 0 HY4.out.cur
  have f1 := free_of_block 1 HY4.out.cur
  have HR4 := Lib.hid (HY4.out.wroteC (HY4.out.setC ((dg4 bs).1)))
  go_upto_region 7 with fail
  generalize (Y4.setCell ⟨C, 0, none⟩ (.string (strOfNums ((dg4 bs).1).xs))).setCell ⟨C, 1, none⟩ (.int .i64 ((dg4 bs).1).bad) = X4 at *
  clear c0 c1 f0 f1 HY4 HR3
  have c0 := HR4.out.k0
  have c1 := HR4.out.k1
  go_wp2_with fail
  refine (K5.out _).mono ?_
  rintro e Y5 ⟨rfl, hb⟩
  have HY5 := Lib.hid (HR4.out.below hb)
  clear hb c0 c1 K5
  have c0 := HY5.out.k0
  have c1 := HY5.out.k1
  have f0 := free_of_block 0 HY5.out.cur
  have f1 := free_of_block 1 HY5.out.cur
  have HR5 := Lib.hid (HY5.out.wroteC (HY5.out.setC ((dg5 bs).1)))
  go_upto_region 8 with fail
  generalize (Y5.setCell ⟨C, 0, none⟩ (.string (strOfNums ((dg5 bs).1).xs))).setCell ⟨C, 1, none⟩ (.int .i64 ((dg5 bs).1).bad) = X5 at *
  clear c0 c1 f0 f1 HY5 HR4
  have r0 := HR5.out.q0
  have r1 := HR5.out.q1
  have r2 := HR5.out.q2
  have bq := below_alloc (Below.refl _ X5) (.cells #[.slice none 0 0, .slice none 0 0, .int .i64 S, .int .i64 D, .int .i64 P, .int .i64 sw] 34)
  have HL0 := Lib.hid (show Lp9 w (X5.alloc (.cells #[.slice none 0 0, .slice none 0 0, .int .i64 S, .int .i64 D, .int .i64 P, .int .i64 sw] 34)) C R X5.heap.size (dg5 bs).1 S D P sw [] 0 0 sp (.slice none 0 0) (.slice none 0 0) from
    ⟨HR5.out.below bq, World.alloc_heap_new X5 _, World.ownsRow_nil _ _ _ _, World.ownsRow_nil _ _ _ _, (fun g hg => by cases hg), HR5.out.lt⟩)
  clear bq
  go_upto_region 9 with fail
  generalize X5.alloc (.cells #[.slice none 0 0, .slice none 0 0, .int .i64 S, .int .i64 D, .int .i64 P, .int .i64 sw] 34) = V at *
  obtain ⟨Q, hQ⟩ : ∃ Q, Q = X5.heap.size := ⟨_, rfl⟩
  rw [← hQ] at HL0 ⊢
  clear hQ r0 r1 r2 HR5
  have r0 := HL0.out.base.q0
  have r1 := HL0.out.base.q1
  have r2 := HL0.out.base.q2
  obtain ⟨b5, hb5⟩ : ∃ x, x = (dg5 bs).1.bad := ⟨_, rfl⟩
  have c1 : V.cell? ⟨C, 1, none⟩ = some (.int .i64 b5) := by rw [hb5]; exact HL0.out.base.k1
  rw [← hb5] at HD
  have HB5 := Lib.hid hb5
  clear hb5
  have KR := Lib.hid (fun X => rr8_any S D P X)
  by_cases hb5 : b5 = 0
  case neg =>
    have d1 : (b5 != 0) = true := by simpa using hb5
    have d2 : (b5 == 0) = false := by simpa using hb5
    have HD2 := Lib.hid d2
    have HRS := Lib.hid HL0.out.base.res
    have HBE := Lib.hid HL0.out.base.bel
    have HOF := Lib.hid (show okD bs = false from by unfold okD; rw [HD.out]; rw [HD2.out]; rfl)
    go_upto_region 10 with fail
    refine wp_region_lit ?_
    refine wpList_yield (w' := V) (v := .agg ZF9) rfl (by unfold ZF9; go_simp) ?_
    refine wpList_store_all rfl 34 _ _ rfl w.heap.size (T := 34) ZF9.toList (by go_simp) (by go_simp) HRS.out rfl (by kernel_rfl) (by decide) ?_
    intro w8 hw8
    have HW8 := Lib.hid hw8.there
    have HB8 := Lib.hid (hw8.below HBE.out (Nat.le_refl _))
    clear hw8
    go_wp2_with fail
    exact bodyPost_ret (results_all2 ZF9.toList _ Tryd.results17 (by go_simp) HW8.out Tryd.underlying34 rfl (by kernel_rfl)) rfl (HNO.out HOF.out _ _ rfl HB8.out)
  subst hb5
  by_cases hs0 : sw < 0
  case pos =>
    have d1 : decide (sw < 0) = true := decide_eq_true hs0
    have HD2 := Lib.hid hs0
    have HRS := Lib.hid HL0.out.base.res
    have HBE := Lib.hid HL0.out.base.bel
    have HOF := Lib.hid (show okD bs = false from by unfold okD; rw [HD.out]; rw [show decide (0 ≤ sw) = false from decide_eq_false (by have := HD2.out; omega)]; rfl)
    go_upto_region 10 with fail
    refine wp_region_lit ?_
    refine wpList_yield (w' := V) (v := .agg ZF9) rfl (by unfold ZF9; go_simp) ?_
    refine wpList_store_all rfl 34 _ _ rfl w.heap.size (T := 34) ZF9.toList (by go_simp) (by go_simp) HRS.out rfl (by kernel_rfl) (by decide) ?_
    intro w8 hw8
    have HW8 := Lib.hid hw8.there
    have HB8 := Lib.hid (hw8.below HBE.out (Nat.le_refl _))
    clear hw8
    go_wp2_with fail
    exact bodyPost_ret (results_all2 ZF9.toList _ Tryd.results17 (by go_simp) HW8.out Tryd.underlying34 rfl (by kernel_rfl)) rfl (HNO.out HOF.out _ _ rfl HB8.out)
  have d1 : decide (sw < 0) = false := decide_eq_false hs0
  have HS0 := Lib.hid hs0
  clear hs0
  go_wp2_with fail
  refine (KR.out _).mono ?_
  rintro e V1 ⟨rfl, hb⟩
  have HL1 := Lib.hid (HL0.out.below hb)
  clear hb r0 r1 r2 c1 HL0 KR
  generalize hrr : rightR S D P = rr at *
  cases rr with
  | false =>
    have HRS := Lib.hid HL1.out.base.res
    have HBE := Lib.hid HL1.out.base.bel
    have HOF := Lib.hid (show okD bs = false from by unfold okD; rw [HD.out]; simp)
    go_upto_region 10 with fail
    refine wp_region_lit ?_
    refine wpList_yield (w' := V1) (v := .agg ZF9) rfl (by unfold ZF9; go_simp) ?_
    refine wpList_store_all rfl 34 _ _ rfl w.heap.size (T := 34) ZF9.toList (by go_simp) (by go_simp) HRS.out rfl (by kernel_rfl) (by decide) ?_
    intro w8 hw8
    have HW8 := Lib.hid hw8.there
    have HB8 := Lib.hid (hw8.below HBE.out (Nat.le_refl _))
    clear hw8
    go_wp2_with fail
    exact bodyPost_ret (results_all2 ZF9.toList _ Tryd.results17 (by go_simp) HW8.out Tryd.underlying34 rfl (by kernel_rfl)) rfl (HNO.out HOF.out _ _ rfl HB8.out)
  | true =>
  have HRR := Lib.hid hrr
  clear hrr
  by_cases hn1 : n < 1
  case pos =>
    have d2 : decide ((n : Int) < 1) = true := decide_eq_true (by omega)
    have d3 : decide (n < 1) = true := decide_eq_true hn1
    have HD2 := Lib.hid hn1
    clear hn1
    have HRS := Lib.hid HL1.out.base.res
    have HBE := Lib.hid HL1.out.base.bel
    have HOF := Lib.hid (show okD bs = false from by unfold okD; rw [HD.out]; rw [show decide (1 ≤ (n : Int)) = false from decide_eq_false (by have := HD2.out; omega)]; simp)
    go_upto_region 10 with fail
    refine wp_region_lit ?_
    refine wpList_yield (w' := V1) (v := .agg ZF9) rfl (by unfold ZF9; go_simp) ?_
    refine wpList_store_all rfl 34 _ _ rfl w.heap.size (T := 34) ZF9.toList (by go_simp) (by go_simp) HRS.out rfl (by kernel_rfl) (by decide) ?_
    intro w8 hw8
    have HW8 := Lib.hid hw8.there
    have HB8 := Lib.hid (hw8.below HBE.out (Nat.le_refl _))
    clear hw8
    go_wp2_with fail
    exact bodyPost_ret (results_all2 ZF9.toList _ Tryd.results17 (by go_simp) HW8.out Tryd.underlying34 rfl (by kernel_rfl)) rfl (HNO.out HOF.out _ _ rfl HB8.out)
  have d2 : decide ((n : Int) < 1) = false := decide_eq_false (by omega)
  have d3 : decide (n < 1) = false := decide_eq_false hn1
  have d4 : decide (n = 0) = false := decide_eq_false (by omega)
  have HN1 := Lib.hid (show 1 ≤ n by omega)
  have HHD := Lib.hid (show headD bs = true by rw [HD.out, decide_eq_true (by have := HS0.out; omega), decide_eq_true (show 1 ≤ (n : Int) by omega)]; rfl)
  clear hn1
  clear HD
  go_upto_region 12 with fail
  clear d1 d2 d3 d4
  have HDS := Lib.hid (show rightR S D P = true from HRR.out)
  go_wp2_with fail
  go_loopw [11, 10] (fun i kc wr => ∃ (k : Nat) (vL vP : Value), k ≤ n ∧ i = .int .i64 k ∧ kc = .int .i64 (card (firstK sp k) : Int) ∧ allD bs k = true ∧ Lp9 w wr C R Q (dgC bs k).1 S D P sw (dgC bs k).2 k k sp vL vP) (fun i _ _ => n - (intOf i).toNat)
  case atStart => exact ⟨0, _, _, Nat.zero_le _, rfl, by rw [firstK_zero, card_zero]; rfl, rfl, HL1.out⟩
  case round =>
    obtain ⟨k, vL, vP, hk, rfl, rfl, hall, hlp⟩ := hrel
    by_cases hlt : k < n
    case pos =>
      have hd : decide (k < n) = true := decide_eq_true hlt
      have hd2 : decide ((k : Int) < (n : Int)) = true := decide_eq_true (by omega)
      have hw1 : IntKind.i64.wrap ((k : Int) + 1) = (k : Int) + 1 := by have := HN.out; rw [IntKind.wrap_i64]; omega
      have hwu : IntKind.u64.wrap (k : Int) = (k : Int) := by have := HN.out; rw [IntKind.wrap_u64]; omega
      have hmin : min k 64 = k := by have := HN.out; omega
      have HK64 := Lib.hid (show k < 64 by have := HN.out; omega)
      have HLT := Lib.hid hlt
      obtain ⟨aL, cL, rfl⟩ := own_form hlp.rL
      obtain ⟨aP, cP, rfl⟩ := own_form hlp.rP
      have HRN0 := Lib.hid hlp.begin
      have HALL := Lib.hid hall
      have HGD := Lib.hid (dgC_good HG0.out k)
      have HNX := Lib.hid (show dgC bs (k + 1) = ((rs3 (dgC bs k).1).1, (dgC bs k).2 ++ [(rs3 (dgC bs k).1).2]) from rfl)
      have HAN := Lib.hid (allD_next bs k)
      have hbit := bit_eq sp k
      have hbit2 := bit_tm sp k
      have HCK := Lib.hid (card_step sp HK64.out)
      have HCL := Lib.hid (card_le (firstK sp k))
      clear hlp hall hlt hk HL1
      obtain ⟨st, hst⟩ : ∃ x, x = (dgC bs k).1 := ⟨_, rfl⟩
      obtain ⟨ns, hns⟩ : ∃ x, x = (dgC bs k).2 := ⟨_, rfl⟩
      rw [← hst, ← hns] at HRN0
      rw [← hst] at HGD HAN
      rw [← hst, ← hns] at HNX
      clear hst hns
      obtain ⟨t, ht⟩ : ∃ x, x = (smallF st 4).2 := ⟨_, rfl⟩
      obtain ⟨m, hm⟩ : ∃ x, x = (smallF (smallF st 4).1 2000).2 := ⟨_, rfl⟩
      obtain ⟨b, hb⟩ : ∃ x, x = (smallF (smallF (smallF st 4).1 2000).1 2000).2 := ⟨_, rfl⟩
      have HX3 := Lib.hid (show rs3 st = ((smallF (smallF (smallF st 4).1 2000).1 2000).1, (t, m, b)) by unfold rs3; rw [ht, hm, hb])
      have HG2 := Lib.hid (HGD.out.small 4)
      have HG3 := Lib.hid (HG2.out.small 2000)
      have L1 := Lib.hid (fun X => by rw [ht]; exact rsmall_any st HGD.out.b HGD.out.l 4 X : ∀ X, Calls Tryd.prog 49 #[.agg #[.string (strOfNums st.xs), .int .i64 st.bad], .int .i64 4] X fun e w' => e = .returned (.tuple #[.agg #[.string (strOfNums (smallF st 4).1.xs), .int .i64 (smallF st 4).1.bad], .int .i64 t]) ∧ Below X.heap.size X w')
      have L2 := Lib.hid (fun X => by rw [hm]; exact rsmall_any (smallF st 4).1 HG2.out.b HG2.out.l 2000 X : ∀ X, Calls Tryd.prog 49 #[.agg #[.string (strOfNums (smallF st 4).1.xs), .int .i64 (smallF st 4).1.bad], .int .i64 2000] X fun e w' => e = .returned (.tuple #[.agg #[.string (strOfNums (smallF (smallF st 4).1 2000).1.xs), .int .i64 (smallF (smallF st 4).1 2000).1.bad], .int .i64 m]) ∧ Below X.heap.size X w')
      have L3 := Lib.hid (fun X => by rw [hb]; exact rsmall_any (smallF (smallF st 4).1 2000).1 HG3.out.b HG3.out.l 2000 X : ∀ X, Calls Tryd.prog 49 #[.agg #[.string (strOfNums (smallF (smallF st 4).1 2000).1.xs), .int .i64 (smallF (smallF st 4).1 2000).1.bad], .int .i64 2000] X fun e w' => e = .returned (.tuple #[.agg #[.string (strOfNums (smallF (smallF (smallF st 4).1 2000).1 2000).1.xs), .int .i64 (smallF (smallF (smallF st 4).1 2000).1 2000).1.bad], .int .i64 b]) ∧ Below X.heap.size X w')
      clear ht hm hb HG2 HG3 HGD
      obtain ⟨s1, hs1⟩ : ∃ x, x = (smallF st 4).1 := ⟨_, rfl⟩
      rw [← hs1] at L1 L2 L3 HX3
      obtain ⟨s2, hs2⟩ : ∃ x, x = (smallF s1 2000).1 := ⟨_, rfl⟩
      rw [← hs2] at L2 L3 HX3
      obtain ⟨s3, hs3⟩ : ∃ x, x = (smallF s2 2000).1 := ⟨_, rfl⟩
      rw [← hs3] at L3 HX3
      clear hs1 hs2 hs3
      go_upto_region 16 with fail
      generalize wr.alloc (.cells #[.int .i64 0, .int .i64 0, .int .i64 0] 67) = Z0 at *
      obtain ⟨A, hA⟩ : ∃ A, A = wr.heap.size := ⟨_, rfl⟩
      rw [← hA] at HRN0 ⊢
      clear hA
      have hne3 : C ≠ A := by have := HRN0.out.base.cr; have := HRN0.out.rq; have := HRN0.out.qa; omega
      have hne4 : A ≠ C := Ne.symm hne3
      have c0 := HRN0.out.base.k0
      have c1 := HRN0.out.base.k1
      go_wp2_with fail
      refine (L1.out _).mono ?_
      rintro e U1 ⟨rfl, hb⟩
      have HU1 := Lib.hid (HRN0.out.below hb)
      clear hb c0 c1 L1
      have c0 := HU1.out.base.k0
      have c1 := HU1.out.base.k1
      have f0 := free_of_block 0 HU1.out.base.cur
      have f1 := free_of_block 1 HU1.out.base.cur
      have x0 := HU1.out.x0
      have y0 := free_of_block 0 HU1.out.xb
      have HRN1 := Lib.hid (HU1.out.read (s1) 0 t (t, 0, 0) rfl)
      go_upto_region 17 with fail
      generalize ((U1.setCell ⟨C, 0, none⟩ (.string (strOfNums (s1).xs))).setCell ⟨C, 1, none⟩ (.int .i64 (s1).bad)).setCell ⟨A, 0, none⟩ (.int .i64 t) = Z1 at *
      clear x0 y0 c0 c1 f0 f1 HU1 HRN0
      have c0 := HRN1.out.base.k0
      have c1 := HRN1.out.base.k1
      go_wp2_with fail
      refine (L2.out _).mono ?_
      rintro e U2 ⟨rfl, hb⟩
      have HU2 := Lib.hid (HRN1.out.below hb)
      clear hb c0 c1 L2
      have c0 := HU2.out.base.k0
      have c1 := HU2.out.base.k1
      have f0 := free_of_block 0 HU2.out.base.cur
      have f1 := free_of_block 1 HU2.out.base.cur
      have x0 := HU2.out.x1
      have y0 := free_of_block 1 HU2.out.xb
      have HRN2 := Lib.hid (HU2.out.read (s2) 1 m (t, m, 0) rfl)
      go_upto_region 18 with fail
      generalize ((U2.setCell ⟨C, 0, none⟩ (.string (strOfNums (s2).xs))).setCell ⟨C, 1, none⟩ (.int .i64 (s2).bad)).setCell ⟨A, 1, none⟩ (.int .i64 m) = Z2 at *
      clear x0 y0 c0 c1 f0 f1 HU2 HRN1
      have c0 := HRN2.out.base.k0
      have c1 := HRN2.out.base.k1
      go_wp2_with fail
      refine (L3.out _).mono ?_
      rintro e U3 ⟨rfl, hb⟩
      have HU3 := Lib.hid (HRN2.out.below hb)
      clear hb c0 c1 L3
      have c0 := HU3.out.base.k0
      have c1 := HU3.out.base.k1
      have f0 := free_of_block 0 HU3.out.base.cur
      have f1 := free_of_block 1 HU3.out.base.cur
      have x0 := HU3.out.x2
      have y0 := free_of_block 2 HU3.out.xb
      have HRN3 := Lib.hid (HU3.out.read (s3) 2 b (t, m, b) rfl)
      go_upto_region 19 with fail
      generalize ((U3.setCell ⟨C, 0, none⟩ (.string (strOfNums (s3).xs))).setCell ⟨C, 1, none⟩ (.int .i64 (s3).bad)).setCell ⟨A, 2, none⟩ (.int .i64 b) = Z3 at *
      clear x0 y0 c0 c1 f0 f1 HU3 HRN2
      have hcv := HCV.out
      generalize hbb : sp.getLsbD k = bb at *
      have HBB := Lib.hid hbb
      clear hbb
      go_upto_region 20 with fail
      clear hbit hbit2 hcv hwu hmin
      have x0 := HRN3.out.x0
      have x1 := HRN3.out.x1
      have x2 := HRN3.out.x2
      have KN := Lib.hid (fun X => by have h := rn8_any t m b S D P X; rw [HRR.out, Bool.true_and] at h; exact h : ∀ X, Calls Tryd.prog 51 #[.agg #[.int .i64 t, .int .i64 m, .int .i64 b], .agg #[.int .i64 S, .int .i64 D, .int .i64 P]] X fun e w' => e = .returned (.bool (rightN t m b S D P)) ∧ Below X.heap.size X w')
      cases bb with
      | true =>
        have hc : (card (firstK sp (k + 1)) : Int) = (card (firstK sp k) : Int) + 1 := by have := HCK.out; rw [this]; simp
        have HCC := Lib.hid hc
        have hw2 : IntKind.i64.wrap ((card (firstK sp k) : Int) + 1) = (card (firstK sp k) : Int) + 1 := by have := HCL.out; rw [IntKind.wrap_i64]; omega
        clear hc
        go_upto_region 22 with fail
        clear hw2
        have q0 : Z3.cell? ⟨Q, 0, none⟩ = some (.slice aL k cL) := cell_of_block (o := 0) HRN3.out.blk rfl
        refine wp_region_lit ?_
        refine wpList_yield (w' := Z3) (v := .pointer (some ⟨Q, 0, none⟩)) rfl (by go_simp) ?_
        refine wpList_yield (w' := Z3) (v := .slice aL k cL) rfl (by go_simp) ?_
        refine wpList_yield (w' := Z3) (v := .agg #[.int .i64 t, .int .i64 m, .int .i64 b]) rfl (by go_simp) ?_
        refine wpList_yield (w' := Z3.alloc (.cells #[.int .i64 t, .int .i64 m, .int .i64 b] 67)) (v := .slice (some ⟨Z3.heap.size, 0, none⟩) 1 1) rfl (by go_simp) ?_
        obtain ⟨a2, c2, Wb, g0, g1, g2⟩ := HRN3.out.stepL HK64.out 30
        refine wpList_yield (w' := Wb) (v := .slice a2 (k + 1) c2) rfl (Ap.exec_app rfl (by go_simp) (by go_simp) g0) ?_
        have HRN4 := Lib.hid g2
        have e0 : Wb.cell? ⟨Q, 0, none⟩ = some (.slice aL k cL) := cell_of_block (o := 0) g1 rfl
        have f0 := free_of_block 0 g1
        clear g0 g1 g2 q0 x0 x1 x2
        go_upto_region 23 with fail
        clear e0 f0
        generalize Wb.setCell ⟨Q, 0, none⟩ (.slice a2 (k + 1) c2) = Z4 at *
        have q1 : Z4.cell? ⟨Q, 1, none⟩ = some (.slice aP k cP) := cell_of_block (o := 1) HRN4.out.blk rfl
        refine wp_region_lit ?_
        refine wpList_yield (w' := Z4) (v := .pointer (some ⟨Q, 1, none⟩)) rfl (by go_simp) ?_
        refine wpList_yield (w' := Z4) (v := .slice aP k cP) rfl (by go_simp) ?_
        refine wpList_yield (w' := Z4) (v := .bool true) rfl (by go_simp) ?_
        refine wpList_yield (w' := Z4.alloc (.cells #[.bool true] 4)) (v := .slice (some ⟨Z4.heap.size, 0, none⟩) 1 1) rfl (by go_simp) ?_
        obtain ⟨a3, c3, Wd, g0, g1, g2⟩ := HRN4.out.stepP HK64.out 31 true HBB.out.symm
        refine wpList_yield (w' := Wd) (v := .slice a3 (k + 1) c3) rfl (Ap.exec_app rfl (by go_simp) (by go_simp) g0) ?_
        have HRN5 := Lib.hid g2
        have e0 : Wd.cell? ⟨Q, 1, none⟩ = some (.slice aP k cP) := cell_of_block (o := 1) g1 rfl
        have f0 := free_of_block 1 g1
        clear g0 g1 g2 q1 HRN3 HRN4
        go_upto_region 24 with fail
        clear e0 f0
        generalize Wd.setCell ⟨Q, 1, none⟩ (.slice a3 (k + 1) c3) = Z5 at *
        have x0 := HRN5.out.x0
        have x1 := HRN5.out.x1
        have x2 := HRN5.out.x2
        have r0 := HRN5.out.base.q0
        have r1 := HRN5.out.base.q1
        have r2 := HRN5.out.base.q2
        go_wp2_with fail
        refine (KN.out _).mono ?_
        rintro e Z6 ⟨rfl, hb6⟩
        have HL6 := Lib.hid (HRN5.out.lp.below hb6)
        clear hb6 x0 x1 x2 r0 r1 r2 HRN5 KN
        have HX4 := Lib.hid (show allD bs (k + 1) = rightN t m b S D P by rw [HAN.out, HALL.out, HX3.out, Bool.true_and, HEQ.out.1, HEQ.out.2.1, HEQ.out.2.2.1])
        generalize rightN t m b S D P = rn at *
        cases rn with
        | false =>
          have HRS := Lib.hid HL6.out.base.res
          have HBE := Lib.hid HL6.out.base.bel
          have HOF := Lib.hid (show okD bs = false from by
              cases hz : okD bs with
              | false => rfl
              | true =>
                unfold okD at hz
                rw [Bool.and_eq_true, Bool.and_eq_true] at hz
                have h2 := hz.1.2
                rw [← HNE.out] at h2
                have h3 := allD_le (k := k + 1) (n - (k + 1)) (by rw [Nat.add_sub_cancel' (by have := HLT.out; omega)]; exact h2)
                rw [HX4.out] at h3
                cases h3)
          go_upto_region 25 with fail
          refine wp_region_lit ?_
          refine wpList_yield (w' := Z6) (v := .agg ZF9) rfl (by unfold ZF9; go_simp) ?_
          refine wpList_store_all rfl 34 _ _ rfl w.heap.size (T := 34) ZF9.toList (by go_simp) (by go_simp) HRS.out rfl (by kernel_rfl) (by decide) ?_
          intro w8 hw8
          have HW8 := Lib.hid hw8.there
          have HB8 := Lib.hid (hw8.below HBE.out (Nat.le_refl _))
          clear hw8
          go_wp2_with fail
          exact bodyPost_ret (results_all2 ZF9.toList _ Tryd.results17 (by go_simp) HW8.out Tryd.underlying34 rfl (by kernel_rfl)) rfl (HNO.out HOF.out _ _ rfl HB8.out)
        | true =>
          have HREL := Lib.hid (show ∃ (k' : Nat) (vL vP : Value), k' ≤ n ∧ Value.int .i64 ((k : Int) + 1) = .int .i64 k' ∧ Value.int .i64 ((card (firstK sp k) : Int) + 1) = .int .i64 (card (firstK sp k') : Int) ∧ allD bs k' = true ∧ Lp9 w Z6 C R Q (dgC bs k').1 S D P sw (dgC bs k').2 k' k' sp vL vP from
            ⟨k + 1, _, _, by have := HLT.out; omega, by simp, by rw [HCC.out], HX4.out, by rw [HNX.out, HX3.out]; exact HL6.out⟩)
          have HLT2 := Lib.hid HLT.out
          clear HL6
          go_wp2_with fail
          go_roundw
          case rel => exact HREL.out
          case measure => have := HLT2.out; simp [intOf]; omega
      | false =>
        have hc : (card (firstK sp (k + 1)) : Int) = (card (firstK sp k) : Int) + 0 := by have := HCK.out; rw [this]; simp
        have HCC := Lib.hid hc
        have hw2 : IntKind.i64.wrap ((card (firstK sp k) : Int) + 1) = (card (firstK sp k) : Int) + 1 := by have := HCL.out; rw [IntKind.wrap_i64]; omega
        clear hc
        go_upto_region 22 with fail
        clear hw2
        have q0 : Z3.cell? ⟨Q, 0, none⟩ = some (.slice aL k cL) := cell_of_block (o := 0) HRN3.out.blk rfl
        refine wp_region_lit ?_
        refine wpList_yield (w' := Z3) (v := .pointer (some ⟨Q, 0, none⟩)) rfl (by go_simp) ?_
        refine wpList_yield (w' := Z3) (v := .slice aL k cL) rfl (by go_simp) ?_
        refine wpList_yield (w' := Z3) (v := .agg #[.int .i64 t, .int .i64 m, .int .i64 b]) rfl (by go_simp) ?_
        refine wpList_yield (w' := Z3.alloc (.cells #[.int .i64 t, .int .i64 m, .int .i64 b] 67)) (v := .slice (some ⟨Z3.heap.size, 0, none⟩) 1 1) rfl (by go_simp) ?_
        obtain ⟨a2, c2, Wb, g0, g1, g2⟩ := HRN3.out.stepL HK64.out 30
        refine wpList_yield (w' := Wb) (v := .slice a2 (k + 1) c2) rfl (Ap.exec_app rfl (by go_simp) (by go_simp) g0) ?_
        have HRN4 := Lib.hid g2
        have e0 : Wb.cell? ⟨Q, 0, none⟩ = some (.slice aL k cL) := cell_of_block (o := 0) g1 rfl
        have f0 := free_of_block 0 g1
        clear g0 g1 g2 q0 x0 x1 x2
        go_upto_region 23 with fail
        clear e0 f0
        generalize Wb.setCell ⟨Q, 0, none⟩ (.slice a2 (k + 1) c2) = Z4 at *
        have q1 : Z4.cell? ⟨Q, 1, none⟩ = some (.slice aP k cP) := cell_of_block (o := 1) HRN4.out.blk rfl
        refine wp_region_lit ?_
        refine wpList_yield (w' := Z4) (v := .pointer (some ⟨Q, 1, none⟩)) rfl (by go_simp) ?_
        refine wpList_yield (w' := Z4) (v := .slice aP k cP) rfl (by go_simp) ?_
        refine wpList_yield (w' := Z4) (v := .bool false) rfl (by go_simp) ?_
        refine wpList_yield (w' := Z4.alloc (.cells #[.bool false] 4)) (v := .slice (some ⟨Z4.heap.size, 0, none⟩) 1 1) rfl (by go_simp) ?_
        obtain ⟨a3, c3, Wd, g0, g1, g2⟩ := HRN4.out.stepP HK64.out 31 false HBB.out.symm
        refine wpList_yield (w' := Wd) (v := .slice a3 (k + 1) c3) rfl (Ap.exec_app rfl (by go_simp) (by go_simp) g0) ?_
        have HRN5 := Lib.hid g2
        have e0 : Wd.cell? ⟨Q, 1, none⟩ = some (.slice aP k cP) := cell_of_block (o := 1) g1 rfl
        have f0 := free_of_block 1 g1
        clear g0 g1 g2 q1 HRN3 HRN4
        go_upto_region 24 with fail
        clear e0 f0
        generalize Wd.setCell ⟨Q, 1, none⟩ (.slice a3 (k + 1) c3) = Z5 at *
        have x0 := HRN5.out.x0
        have x1 := HRN5.out.x1
        have x2 := HRN5.out.x2
        have r0 := HRN5.out.base.q0
        have r1 := HRN5.out.base.q1
        have r2 := HRN5.out.base.q2
        go_wp2_with fail
        refine (KN.out _).mono ?_
        rintro e Z6 ⟨rfl, hb6⟩
        have HL6 := Lib.hid (HRN5.out.lp.below hb6)
        clear hb6 x0 x1 x2 r0 r1 r2 HRN5 KN
        have HX4 := Lib.hid (show allD bs (k + 1) = rightN t m b S D P by rw [HAN.out, HALL.out, HX3.out, Bool.true_and, HEQ.out.1, HEQ.out.2.1, HEQ.out.2.2.1])
        generalize rightN t m b S D P = rn at *
        cases rn with
        | false =>
          have HRS := Lib.hid HL6.out.base.res
          have HBE := Lib.hid HL6.out.base.bel
          have HOF := Lib.hid (show okD bs = false from by
              cases hz : okD bs with
              | false => rfl
              | true =>
                unfold okD at hz
                rw [Bool.and_eq_true, Bool.and_eq_true] at hz
                have h2 := hz.1.2
                rw [← HNE.out] at h2
                have h3 := allD_le (k := k + 1) (n - (k + 1)) (by rw [Nat.add_sub_cancel' (by have := HLT.out; omega)]; exact h2)
                rw [HX4.out] at h3
                cases h3)
          go_upto_region 25 with fail
          refine wp_region_lit ?_
          refine wpList_yield (w' := Z6) (v := .agg ZF9) rfl (by unfold ZF9; go_simp) ?_
          refine wpList_store_all rfl 34 _ _ rfl w.heap.size (T := 34) ZF9.toList (by go_simp) (by go_simp) HRS.out rfl (by kernel_rfl) (by decide) ?_
          intro w8 hw8
          have HW8 := Lib.hid hw8.there
          have HB8 := Lib.hid (hw8.below HBE.out (Nat.le_refl _))
          clear hw8
          go_wp2_with fail
          exact bodyPost_ret (results_all2 ZF9.toList _ Tryd.results17 (by go_simp) HW8.out Tryd.underlying34 rfl (by kernel_rfl)) rfl (HNO.out HOF.out _ _ rfl HB8.out)
        | true =>
          have HREL := Lib.hid (show ∃ (k' : Nat) (vL vP : Value), k' ≤ n ∧ Value.int .i64 ((k : Int) + 1) = .int .i64 k' ∧ Value.int .i64 ((card (firstK sp k) : Int)) = .int .i64 (card (firstK sp k') : Int) ∧ allD bs k' = true ∧ Lp9 w Z6 C R Q (dgC bs k').1 S D P sw (dgC bs k').2 k' k' sp vL vP from
            ⟨k + 1, _, _, by have := HLT.out; omega, by simp, by rw [HCC.out]; simp, HX4.out, by rw [HNX.out, HX3.out]; exact HL6.out⟩)
          have HLT2 := Lib.hid HLT.out
          clear HL6
          go_wp2_with fail
          go_roundw
          case rel => exact HREL.out
          case measure => have := HLT2.out; simp [intOf]; omega
    case neg =>
      obtain rfl : k = n := by omega
      have hd : decide (k < k) = false := decide_eq_false (by omega)
      have hd2 : decide ((k : Int) < (k : Int)) = false := decide_eq_false (by omega)
      have HALL := Lib.hid (show allD bs (dgN bs) = true by rw [← HNE.out]; exact hall)
      have HLP := Lib.hid hlp
      have hlenN : (dgC bs k).2.length = k := by unfold dgC; exact rsN_len _ _
      obtain ⟨gL, cL, rfl, hgL, hcL, hLc⟩ := own_cells hlp.rL (by have := HN1.out; omega)
      obtain ⟨gP, cP, rfl, hgP, hcP, hPc⟩ := own_cells hlp.rP (by have := HN1.out; omega)
      obtain ⟨f, hf⟩ : ∃ f, f = dgV bs k := ⟨_, rfl⟩
      have hfn : f.ns = (dgC bs k).2 := by rw [hf]; rfl
      have hfs : f.sp = firstK sp k := by rw [hf, HEQ.out.2.2.2.2]; rfl
      have hfl : f.ns.length = k := by rw [hfn, hlenN]
      have hfv : f.S = S ∧ f.D = D ∧ f.P = P ∧ f.sw = sw := by rw [hf]; exact ⟨HEQ.out.1.symm, HEQ.out.2.1.symm, HEQ.out.2.2.1.symm, HEQ.out.2.2.2.1.symm⟩
      have HRF := Lib.hid (show RF9 wr gL 0 gP 0 f from by
        refine ⟨by rw [hfl]; have := HN1.out; have := HN.out; omega, fun j hj => ?_, fun j hj => ?_⟩
        · rw [Nat.zero_add, hfn]
          rw [hfn] at hj
          exact ⟨hLc _ _ (flatN_get0 _ _ hj), hLc _ _ (flatN_get1 _ _ hj), hLc _ _ (flatN_get2 _ _ hj)⟩
        · rw [hfl] at hj
          have hj6 : j < 64 := by have := HN.out; omega
          rw [Nat.zero_add, hfs, firstK_get _ _ _ hj6, decide_eq_true hj, Bool.and_true]
          exact hPc j _ (by rw [List.getElem?_map, List.getElem?_range hj]; rfl))
      have HFC := Lib.hid (show rf9C f f.ns.length gL 0 cL gP 0 cP = #[.slice (some ⟨gL, 0, none⟩) k cL, .slice (some ⟨gP, 0, none⟩) k cP, .int .i64 S, .int .i64 D, .int .i64 P, .int .i64 sw] by unfold rf9C; rw [hfl, hfv.1, hfv.2.1, hfv.2.2.1, hfv.2.2.2])
      have HCAP := Lib.hid (show f.ns.length ≤ cL ∧ f.ns.length ≤ cP by rw [hfl]; exact ⟨hcL, hcP⟩)
      have HSUB := Lib.hid (show ∀ i, i < 64 → f.sp.getLsbD i = true → i < f.ns.length from fun i hi hg => by
        rw [hfs, firstK_get _ _ _ hi, Bool.and_eq_true, decide_eq_true_eq] at hg
        rw [hfl]; exact hg.2)
      have HFB := Lib.hid (show FB f from by
        have h1 : ∀ x ∈ f.ns, rightN x.1 x.2.1 x.2.2 f.S f.D f.P = true := by
          have h2 := hall
          unfold allD at h2
          rw [List.all_eq_true] at h2
          rw [hfn, hfv.1, hfv.2.1, hfv.2.2.1, HEQ.out.1, HEQ.out.2.1, HEQ.out.2.2.1]
          exact h2
        have h3 := intF_in (dg_by HX.out).2.1
        refine (fb_of (f := f) (by rw [hfl]; exact HN.out.2) (by rw [hfv.1, hfv.2.1, hfv.2.2.1]; exact HDS.out) h1 ?_ ?_).1
        · rw [hfv.2.2.2]; have := HS0.out; omega
        · rw [hfv.2.2.2, HEQ.out.2.2.2.1]
          have : -9223372036854775808 ≤ (dg5 bs).2 ∧ (dg5 bs).2 ≤ 9223372036854775807 := h3
          exact this.2)
      have HGB := Lib.hid (show w.heap.size ≤ gL ∧ w.heap.size ≤ gP ∧ gL ≠ w.heap.size ∧ gP ≠ w.heap.size by have := hlp.base.c0; have := hlp.base.cr; have := hlp.rq; omega)
      have HBY := Lib.hid (show bytesF f = bytesF (dgV bs (dgN bs)) by rw [hf, HNE.out])
      have HFE := Lib.hid (show dgV bs (dgN bs) = f by rw [hf, HNE.out])
      have HTL := Lib.hid (show tailD bs = ((endF (dgC bs k).1 == 0) && decide (card (firstK sp k) < k) && (goneF f == 0#64 || freeF f == 0#64) && decide (bytesF f = bs)) by unfold tailD; rw [← HNE.out, ← hf, HEQ.out.2.2.2.2])
      have HOT := Lib.hid (show okD bs = tailD bs by unfold okD; rw [HHD.out, HALL.out]; rfl)
      have KE := Lib.hid (fun X => rend_any (dgC bs k).1 X)
      have KA := fun X (hX : Below wr.heap.size wr X) => least_any (HRF.out.below hX) HCAP.out.1 HCAP.out.2 false false (goneF f) (gone_hit f)
      have KB := fun X (hX : Below wr.heap.size wr X) => least_any (HRF.out.below hX) HCAP.out.1 HCAP.out.2 true true (freeF f) (free_hit f)
      have KP := fun X (hX : Below wr.heap.size wr X) => put9_any (HRF.out.below hX) HCAP.out.1 HCAP.out.2 HSUB.out HFB.out
      rw [HFC.out] at KA KB KP
      have HKA := Lib.hid KA
      have HKB := Lib.hid KB
      have HKP := Lib.hid KP
      have c0 := hlp.base.k0
      have c1 := hlp.base.k1
      have HCD := Lib.hid (card_le (firstK sp k))
      have HPB := Lib.hid (fun x (h : x ∈ bytesF f) => (show 0 ≤ x ∧ x ≤ 255 from by
        unfold bytesF putsF at h
        obtain ⟨y, _, h2⟩ := List.mem_flatMap.1 h
        exact putU_bytes _ x h2))
      clear KA KB KP hall hlp hgL hcL hLc hgP hcP hPc hf hfn hfs hfl hfv hlenN HL1 HALL
      generalize hef : endF (dgC bs k).1 = ef at *
      clear hef
      go_wp2_with fail
      refine (KE.out _).mono ?_
      rintro e Z1 ⟨rfl, hb⟩
      have HZ1 := Lib.hid hb
      have HQ1 := Lib.hid ((hb.block _ (Array.getElem?_eq_some_iff.1 HLP.out.blk).1).trans HLP.out.blk)
      clear hb c0 c1 KE
      by_cases he0 : ef = 0
      case neg =>
        have d1 : (ef != 0) = true := by simpa using he0
        have d2 : (ef == 0) = false := by simpa using he0
        have HD2 := Lib.hid d2
        have HRS := Lib.hid (HLP.out.below HZ1.out).base.res
        have HBE := Lib.hid (HLP.out.below HZ1.out).base.bel
        have HOF := Lib.hid (show okD bs = false from by rw [HOT.out, HTL.out]; rw [HD2.out]; rfl)
        go_upto_region 27 with fail
        refine wp_region_lit ?_
        refine wpList_yield (w' := Z1) (v := .agg ZF9) rfl (by unfold ZF9; go_simp) ?_
        refine wpList_store_all rfl 34 _ _ rfl w.heap.size (T := 34) ZF9.toList (by go_simp) (by go_simp) HRS.out rfl (by kernel_rfl) (by decide) ?_
        intro w8 hw8
        have HW8 := Lib.hid hw8.there
        have HB8 := Lib.hid (hw8.below HBE.out (Nat.le_refl _))
        clear hw8
        go_wp2_with fail
        exact bodyPost_ret (results_all2 ZF9.toList _ Tryd.results17 (by go_simp) HW8.out Tryd.underlying34 rfl (by kernel_rfl)) rfl (HNO.out HOF.out _ _ rfl HB8.out)
      subst he0
      by_cases hcd : card (firstK sp k) < k
      case neg =>
        have d1 : decide ((card (firstK sp k) : Int) ≥ (k : Int)) = true := decide_eq_true (by omega)
        have d2 : decide (k ≤ card (firstK sp k)) = true := decide_eq_true (by omega)
        have d3 : decide (card (firstK sp k) ≥ k) = true := decide_eq_true (by omega)
        have HD2 := Lib.hid hcd
        have HRS := Lib.hid (HLP.out.below HZ1.out).base.res
        have HBE := Lib.hid (HLP.out.below HZ1.out).base.bel
        have HOF := Lib.hid (show okD bs = false from by rw [HOT.out, HTL.out]; rw [decide_eq_false HD2.out]; rfl)
        go_upto_region 27 with fail
        refine wp_region_lit ?_
        refine wpList_yield (w' := Z1) (v := .agg ZF9) rfl (by unfold ZF9; go_simp) ?_
        refine wpList_store_all rfl 34 _ _ rfl w.heap.size (T := 34) ZF9.toList (by go_simp) (by go_simp) HRS.out rfl (by kernel_rfl) (by decide) ?_
        intro w8 hw8
        have HW8 := Lib.hid hw8.there
        have HB8 := Lib.hid (hw8.below HBE.out (Nat.le_refl _))
        clear hw8
        go_wp2_with fail
        exact bodyPost_ret (results_all2 ZF9.toList _ Tryd.results17 (by go_simp) HW8.out Tryd.underlying34 rfl (by kernel_rfl)) rfl (HNO.out HOF.out _ _ rfl HB8.out)
      have d1 : decide ((card (firstK sp k) : Int) ≥ (k : Int)) = false := decide_eq_false (by omega)
      have d2 : decide (k ≤ card (firstK sp k)) = false := decide_eq_false (by omega)
      have d3 : decide (card (firstK sp k) ≥ k) = false := decide_eq_false (by omega)
      have HCD2 := Lib.hid hcd
      clear hcd
      have q0 : Z1.cell? ⟨Q, 0, none⟩ = some (.slice (some ⟨gL, 0, none⟩) k cL) := cell_of_block (o := 0) HQ1.out rfl
      have q1 : Z1.cell? ⟨Q, 1, none⟩ = some (.slice (some ⟨gP, 0, none⟩) k cP) := cell_of_block (o := 1) HQ1.out rfl
      have q2 : Z1.cell? ⟨Q, 2, none⟩ = some (.int .i64 S) := cell_of_block (o := 2) HQ1.out rfl
      have q3 : Z1.cell? ⟨Q, 3, none⟩ = some (.int .i64 D) := cell_of_block (o := 3) HQ1.out rfl
      have q4 : Z1.cell? ⟨Q, 4, none⟩ = some (.int .i64 P) := cell_of_block (o := 4) HQ1.out rfl
      have q5 : Z1.cell? ⟨Q, 5, none⟩ = some (.int .i64 sw) := cell_of_block (o := 5) HQ1.out rfl
      go_wp2_with fail
      refine (HKA.out _ HZ1.out).mono ?_
      rintro e Z2 ⟨rfl, hb⟩
      have HZ2 := Lib.hid (below_next HZ1.out hb)
      have HQ2 := Lib.hid ((hb.block _ (Array.getElem?_eq_some_iff.1 HQ1.out).1).trans HQ1.out)
      clear hb q0 q1 q2 q3 q4 q5
      by_cases hgz : goneF f = 0#64
      case pos =>
        have hlow : lowI (goneF f) = -1 := by rw [hgz]; rfl
        rw [hlow]
        have HGZ := Lib.hid hgz
        clear hgz hlow
        have q0 : Z2.cell? ⟨Q, 0, none⟩ = some (.slice (some ⟨gL, 0, none⟩) k cL) := cell_of_block (o := 0) HQ2.out rfl
        have q1 : Z2.cell? ⟨Q, 1, none⟩ = some (.slice (some ⟨gP, 0, none⟩) k cP) := cell_of_block (o := 1) HQ2.out rfl
        have q2 : Z2.cell? ⟨Q, 2, none⟩ = some (.int .i64 S) := cell_of_block (o := 2) HQ2.out rfl
        have q3 : Z2.cell? ⟨Q, 3, none⟩ = some (.int .i64 D) := cell_of_block (o := 3) HQ2.out rfl
        have q4 : Z2.cell? ⟨Q, 4, none⟩ = some (.int .i64 P) := cell_of_block (o := 4) HQ2.out rfl
        have q5 : Z2.cell? ⟨Q, 5, none⟩ = some (.int .i64 sw) := cell_of_block (o := 5) HQ2.out rfl
        have HST := Lib.hid (show (goneF f == 0#64 || freeF f == 0#64) = true from by rw [HGZ.out]; rfl)
        go_wp2_with fail
        refine (HKP.out _ HZ2.out).mono ?_
        rintro e Z2p ⟨rfl, hb⟩
        have HZ2p := Lib.hid (below_next HZ2.out hb)
        have HQ2p := Lib.hid ((hb.block _ (Array.getElem?_eq_some_iff.1 HQ2.out).1).trans HQ2.out)
        clear hb q0 q1 q2 q3 q4 q5
        by_cases hby : bytesF f = bs
        case neg =>
          have hsn : ((strOfNums (bytesF f)).toList == ss.toList) = false := by
            rw [beq_eq_false_iff_ne]
            intro h
            rw [HSS.out] at h
            refine hby (strOf_inj HPB.out HX.out ?_)
            refine ByteArray.ext (Array.ext' ?_)
            rw [ByteArray.toList_eq, ByteArray.toList_eq] at h
            exact h
          have HD2 := Lib.hid hby
          clear hby
          generalize strOfNums (bytesF f) = sq at *
          have HRS := Lib.hid (HLP.out.below HZ2p.out).base.res
          have HBE := Lib.hid (HLP.out.below HZ2p.out).base.bel
          have HOF := Lib.hid (show okD bs = false from by rw [HOT.out, HTL.out]; rw [decide_eq_false HD2.out]; simp)
          go_upto_region 27 with fail
          refine wp_region_lit ?_
          refine wpList_yield (w' := Z2p) (v := .agg ZF9) rfl (by unfold ZF9; go_simp) ?_
          refine wpList_store_all rfl 34 _ _ rfl w.heap.size (T := 34) ZF9.toList (by go_simp) (by go_simp) HRS.out rfl (by kernel_rfl) (by decide) ?_
          intro w8 hw8
          have HW8 := Lib.hid hw8.there
          have HB8 := Lib.hid (hw8.below HBE.out (Nat.le_refl _))
          clear hw8
          go_wp2_with fail
          exact bodyPost_ret (results_all2 ZF9.toList _ Tryd.results17 (by go_simp) HW8.out Tryd.underlying34 rfl (by kernel_rfl)) rfl (HNO.out HOF.out _ _ rfl HB8.out)
        case pos =>
          have hsn : ((strOfNums (bytesF f)).toList == ss.toList) = true := by
            rw [beq_iff_eq, HSS.out, hby]
          have HOF := Lib.hid (show okD bs = true from by rw [HOT.out, HTL.out, decide_eq_true hby, decide_eq_true HCD2.out, HST.out]; rfl)
          clear hby
          generalize strOfNums (bytesF f) = sq at *
          have HB7 := Lib.hid (HLP.out.below HZ2p.out).base.bel
          have HRS := Lib.hid (HLP.out.below HZ2p.out).base.res
          go_upto_region 28 with fail
          refine wp_region_lit ?_
          refine wpList_load_all rfl 34 _ rfl Q [.slice (some ⟨gL, 0, none⟩) k cL, .slice (some ⟨gP, 0, none⟩) k cP, .int .i64 S, .int .i64 D, .int .i64 P, .int .i64 sw] _ (by go_simp) HQ2p.out Tryd.underlying34 rfl (by kernel_rfl) ?_
          refine wpList_store_all rfl 34 _ _ rfl w.heap.size (T := 34) [.slice (some ⟨gL, 0, none⟩) k cL, .slice (some ⟨gP, 0, none⟩) k cP, .int .i64 S, .int .i64 D, .int .i64 P, .int .i64 sw] (by go_simp) (by go_simp) HRS.out rfl (by kernel_rfl) rfl ?_
          intro w8 hw8
          have HW8 := Lib.hid hw8.there
          have HB8 := Lib.hid (hw8.below HB7.out (Nat.le_refl _))
          have HRF8 := Lib.hid ((HRF.out.below HZ2p.out).wrote hw8 HGB.out.2.2.1 HGB.out.2.2.2)
          clear hw8
          go_wp2_with fail
          exact bodyPost_ret (results_all2 [.slice (some ⟨gL, 0, none⟩) k cL, .slice (some ⟨gP, 0, none⟩) k cP, .int .i64 S, .int .i64 D, .int .i64 P, .int .i64 sw] _ Tryd.results17 (by go_simp) HW8.out Tryd.underlying34 rfl (by kernel_rfl)) rfl (HYES.out HOF.out _ _ gL cL gP cP (by rw [HFE.out, HFC.out]; rfl) (by rw [HFE.out]; exact HRF8.out) (by rw [HFE.out]; exact HCAP.out.1) (by rw [HFE.out]; exact HCAP.out.2) HGB.out.1 HGB.out.2.1 HB8.out)
      case neg =>
        obtain ⟨x, hx, _, _⟩ := low_get hgz
        rw [hx]
        have HGZ := Lib.hid hgz
        have d4 : decide ((x : Int) ≥ 0) = true := decide_eq_true (by omega)
        have d5 : decide (0 ≤ x) = true := decide_eq_true (by omega)
        clear hgz hx
        have q0 : Z2.cell? ⟨Q, 0, none⟩ = some (.slice (some ⟨gL, 0, none⟩) k cL) := cell_of_block (o := 0) HQ2.out rfl
        have q1 : Z2.cell? ⟨Q, 1, none⟩ = some (.slice (some ⟨gP, 0, none⟩) k cP) := cell_of_block (o := 1) HQ2.out rfl
        have q2 : Z2.cell? ⟨Q, 2, none⟩ = some (.int .i64 S) := cell_of_block (o := 2) HQ2.out rfl
        have q3 : Z2.cell? ⟨Q, 3, none⟩ = some (.int .i64 D) := cell_of_block (o := 3) HQ2.out rfl
        have q4 : Z2.cell? ⟨Q, 4, none⟩ = some (.int .i64 P) := cell_of_block (o := 4) HQ2.out rfl
        have q5 : Z2.cell? ⟨Q, 5, none⟩ = some (.int .i64 sw) := cell_of_block (o := 5) HQ2.out rfl
        go_wp2_with fail
        refine (HKB.out _ HZ2.out).mono ?_
        rintro e Z3 ⟨rfl, hb⟩
        have HZ3 := Lib.hid (below_next HZ2.out hb)
        have HQ3 := Lib.hid ((hb.block _ (Array.getElem?_eq_some_iff.1 HQ2.out).1).trans HQ2.out)
        clear hb q0 q1 q2 q3 q4 q5
        clear d4 d5
        by_cases hfz : freeF f = 0#64
        case pos =>
          have hlow : lowI (freeF f) = -1 := by rw [hfz]; rfl
          rw [hlow]
          have HFZ := Lib.hid hfz
          clear hfz hlow
          have q0 : Z3.cell? ⟨Q, 0, none⟩ = some (.slice (some ⟨gL, 0, none⟩) k cL) := cell_of_block (o := 0) HQ3.out rfl
          have q1 : Z3.cell? ⟨Q, 1, none⟩ = some (.slice (some ⟨gP, 0, none⟩) k cP) := cell_of_block (o := 1) HQ3.out rfl
          have q2 : Z3.cell? ⟨Q, 2, none⟩ = some (.int .i64 S) := cell_of_block (o := 2) HQ3.out rfl
          have q3 : Z3.cell? ⟨Q, 3, none⟩ = some (.int .i64 D) := cell_of_block (o := 3) HQ3.out rfl
          have q4 : Z3.cell? ⟨Q, 4, none⟩ = some (.int .i64 P) := cell_of_block (o := 4) HQ3.out rfl
          have q5 : Z3.cell? ⟨Q, 5, none⟩ = some (.int .i64 sw) := cell_of_block (o := 5) HQ3.out rfl
          have HST := Lib.hid (show (goneF f == 0#64 || freeF f == 0#64) = true from by rw [HFZ.out]; simp)
          go_wp2_with fail
          refine (HKP.out _ HZ3.out).mono ?_
          rintro e Z3p ⟨rfl, hb⟩
          have HZ3p := Lib.hid (below_next HZ3.out hb)
          have HQ3p := Lib.hid ((hb.block _ (Array.getElem?_eq_some_iff.1 HQ3.out).1).trans HQ3.out)
          clear hb q0 q1 q2 q3 q4 q5
          by_cases hby : bytesF f = bs
          case neg =>
            have hsn : ((strOfNums (bytesF f)).toList == ss.toList) = false := by
              rw [beq_eq_false_iff_ne]
              intro h
              rw [HSS.out] at h
              refine hby (strOf_inj HPB.out HX.out ?_)
              refine ByteArray.ext (Array.ext' ?_)
              rw [ByteArray.toList_eq, ByteArray.toList_eq] at h
              exact h
            have HD2 := Lib.hid hby
            clear hby
            generalize strOfNums (bytesF f) = sq at *
            have HRS := Lib.hid (HLP.out.below HZ3p.out).base.res
            have HBE := Lib.hid (HLP.out.below HZ3p.out).base.bel
            have HOF := Lib.hid (show okD bs = false from by rw [HOT.out, HTL.out]; rw [decide_eq_false HD2.out]; simp)
            go_upto_region 27 with fail
            refine wp_region_lit ?_
            refine wpList_yield (w' := Z3p) (v := .agg ZF9) rfl (by unfold ZF9; go_simp) ?_
            refine wpList_store_all rfl 34 _ _ rfl w.heap.size (T := 34) ZF9.toList (by go_simp) (by go_simp) HRS.out rfl (by kernel_rfl) (by decide) ?_
            intro w8 hw8
            have HW8 := Lib.hid hw8.there
            have HB8 := Lib.hid (hw8.below HBE.out (Nat.le_refl _))
            clear hw8
            go_wp2_with fail
            exact bodyPost_ret (results_all2 ZF9.toList _ Tryd.results17 (by go_simp) HW8.out Tryd.underlying34 rfl (by kernel_rfl)) rfl (HNO.out HOF.out _ _ rfl HB8.out)
          case pos =>
            have hsn : ((strOfNums (bytesF f)).toList == ss.toList) = true := by
              rw [beq_iff_eq, HSS.out, hby]
            have HOF := Lib.hid (show okD bs = true from by rw [HOT.out, HTL.out, decide_eq_true hby, decide_eq_true HCD2.out, HST.out]; rfl)
            clear hby
            generalize strOfNums (bytesF f) = sq at *
            have HB7 := Lib.hid (HLP.out.below HZ3p.out).base.bel
            have HRS := Lib.hid (HLP.out.below HZ3p.out).base.res
            go_upto_region 28 with fail
            refine wp_region_lit ?_
            refine wpList_load_all rfl 34 _ rfl Q [.slice (some ⟨gL, 0, none⟩) k cL, .slice (some ⟨gP, 0, none⟩) k cP, .int .i64 S, .int .i64 D, .int .i64 P, .int .i64 sw] _ (by go_simp) HQ3p.out Tryd.underlying34 rfl (by kernel_rfl) ?_
            refine wpList_store_all rfl 34 _ _ rfl w.heap.size (T := 34) [.slice (some ⟨gL, 0, none⟩) k cL, .slice (some ⟨gP, 0, none⟩) k cP, .int .i64 S, .int .i64 D, .int .i64 P, .int .i64 sw] (by go_simp) (by go_simp) HRS.out rfl (by kernel_rfl) rfl ?_
            intro w8 hw8
            have HW8 := Lib.hid hw8.there
            have HB8 := Lib.hid (hw8.below HB7.out (Nat.le_refl _))
            have HRF8 := Lib.hid ((HRF.out.below HZ3p.out).wrote hw8 HGB.out.2.2.1 HGB.out.2.2.2)
            clear hw8
            go_wp2_with fail
            exact bodyPost_ret (results_all2 [.slice (some ⟨gL, 0, none⟩) k cL, .slice (some ⟨gP, 0, none⟩) k cP, .int .i64 S, .int .i64 D, .int .i64 P, .int .i64 sw] _ Tryd.results17 (by go_simp) HW8.out Tryd.underlying34 rfl (by kernel_rfl)) rfl (HYES.out HOF.out _ _ gL cL gP cP (by rw [HFE.out, HFC.out]; rfl) (by rw [HFE.out]; exact HRF8.out) (by rw [HFE.out]; exact HCAP.out.1) (by rw [HFE.out]; exact HCAP.out.2) HGB.out.1 HGB.out.2.1 HB8.out)
        case neg =>
          obtain ⟨y, hy, _, _⟩ := low_get hfz
          rw [hy]
          have HFZ := Lib.hid hfz
          have d4 : decide ((y : Int) ≥ 0) = true := decide_eq_true (by omega)
          have d5 : decide (0 ≤ y) = true := decide_eq_true (by omega)
          have HBZ := Lib.hid (And.intro (show (goneF f == 0#64) = false by rw [beq_eq_false_iff_ne]; exact HGZ.out) (show (freeF f == 0#64) = false by rw [beq_eq_false_iff_ne]; exact HFZ.out))
          clear hfz hy
          have HRS := Lib.hid (HLP.out.below HZ3.out).base.res
          have HBE := Lib.hid (HLP.out.below HZ3.out).base.bel
          have HOF := Lib.hid (show okD bs = false from by rw [HOT.out, HTL.out]; rw [HBZ.out.1, HBZ.out.2]; simp)
          go_upto_region 27 with fail
          refine wp_region_lit ?_
          refine wpList_yield (w' := Z3) (v := .agg ZF9) rfl (by unfold ZF9; go_simp) ?_
          refine wpList_store_all rfl 34 _ _ rfl w.heap.size (T := 34) ZF9.toList (by go_simp) (by go_simp) HRS.out rfl (by kernel_rfl) (by decide) ?_
          intro w8 hw8
          have HW8 := Lib.hid hw8.there
          have HB8 := Lib.hid (hw8.below HBE.out (Nat.le_refl _))
          clear hw8
          go_wp2_with fail
          exact bodyPost_ret (results_all2 ZF9.toList _ Tryd.results17 (by go_simp) HW8.out Tryd.underlying34 rfl (by kernel_rfl)) rfl (HNO.out HOF.out _ _ rfl HB8.out)
end Go.Proofs.YtnofgffkfapodaaDoor
namespace Go.Proofs.YtnofgffkfapodaaDoor
set_option linter.unusedVariables false
open Go.ChangeShapes Go.WideShapes Go.ChangeAt Go.RowKit
attribute [local go_sem ↓] Go.wp_at_zero Go.wp_at_succ comesTo_value_eq comesTo_skip_eq comesTo_enter_eq

theorem fread_no {w : World} {bs : List Int} {e : Ending} {w' : World} (h : FReadEnd w bs e w') (ho : okV bs = false) : e = .returned (.tuple #[.pointer none, .int .i64 11]) ∧ Below w.heap.size w w' := by
  rcases h with h | h
  · exact h.2
  · rw [ho] at h; cases h.1
theorem fread_yes {w : World} {bs : List Int} {e : Ending} {w' : World} (h : FReadEnd w bs e w') (ho : okV bs = true) : ∃ F G, e = .returned (.tuple #[.pointer (some ⟨F, 0, none⟩), .int .i64 0]) ∧ Fl w' F G (rdV bs) ∧ Below w.heap.size w w' := by
  rcases h with h | ⟨_, F, G, h1, h2, _, _, h5⟩
  · rw [ho] at h; cases h.1
  · exact ⟨F, G, h1, h2, h5⟩
theorem rdoc_no {w : World} {bs : List Int} {e : Ending} {w' : World} (h : RDoc9 w bs e w') (ho : okD bs = false) : e = .returned (.tuple #[.agg #[.slice none 0 0, .slice none 0 0, .int .i64 0, .int .i64 0, .int .i64 0, .int .i64 0], .int .i64 11]) ∧ Below w.heap.size w w' := by
  rcases h with h | h
  · exact h.2
  · rw [ho] at h; cases h.1
theorem rdoc_yes {w : World} {bs : List Int} {f : FV} {e : Ending} {w' : World} (h : RDoc9 w bs e w') (ho : okD bs = true) (hf : dgV bs (dgN bs) = f) : ∃ L cL Q cP, e = .returned (.tuple #[.agg #[.slice (some ⟨L, 0, none⟩) f.ns.length cL, .slice (some ⟨Q, 0, none⟩) f.ns.length cP, .int .i64 f.S, .int .i64 f.D, .int .i64 f.P, .int .i64 f.sw], .int .i64 0]) ∧ RF9 w' L 0 Q 0 f ∧ f.ns.length ≤ cL ∧ f.ns.length ≤ cP ∧ Below w.heap.size w w' := by
  subst hf
  rcases h with h | ⟨_, L, cL, Q, cP, h1, h2, h3, h4, _, _, h5⟩
  · rw [ho] at h; cases h.1
  · exact ⟨L, cL, Q, cP, h1, h2, h3, h4, h5⟩
set_option maxRecDepth 100000 in
set_option maxHeartbeats 8000000 in
theorem fleetreads_yes (ad : Option Addr) (n c : Nat) (bs : List Int) (hn : n ≤ 1000) (w : World) (ht : TxtAt w (.slice ad n c) bs) (hE : ErrAt w) (hT : TabZ w) :
    Calls Tryd.prog 4 #[.slice ad n c] w fun e w' => e = .returned (.bool true) ∧ Below w.heap.size w w' := by
  have hd0 : decide ((n : Int) > 1000) = false := decide_eq_false (by omega)
  have hd1 : decide (1000 < (n : Int)) = false := decide_eq_false (by omega)
  have hd2 : decide (1000 < n) = false := decide_eq_false (by omega)
  have hnb : n = bs.length := ht.form.1
  have hbb : ∀ x ∈ bs, 0 ≤ x ∧ x ≤ 255 := by
    intro x hx
    obtain ⟨i, hi, rfl⟩ := List.getElem_of_mem hx
    have h1 := ht.bytes.1 i hi
    have h2 := ht.bytes.2 i hi
    simp only [List.getD, List.getElem?_eq_getElem hi, Option.getD_some] at h1 h2
    omega
  have HCV := Lib.hid (fun W (hb : Below w.heap.size w W) => txt_conv ht W hb)
  have KJ := Lib.hid (fread_any ht (by omega) hE hT)
  have KR := Lib.hid (fun (X : World) => fread9_any bs hbb (by omega) X)
  have K1 := Lib.hid (fun (X : World) (hb : Below w.heap.size w X) => fone X (hT.below hb))
  have HTB := Lib.hid (fun (X : World) (hb : Below w.heap.size w X) => hT.below hb)
  obtain ⟨hok, hv⟩ := okD_is hbb
  have HX := Lib.hid hbb
  clear ht hE hn hnb hbb hT
  cases ho : okV bs with
  | false =>
    rw [ho] at hok
    have KJ2 := Lib.hid (KJ.out.mono (fun e w' h => fread_no h ho))
    have KR2 := Lib.hid (fun X => (KR.out X).mono (fun e w' h => rdoc_no h hok))
    clear KJ KR hv ho hok HX HTB
    generalize hS : strOfNums bs = S at *
    clear hS
    go_enter Tryd.func4, Tryd.ntmps4
    go_wp2_with fail
    refine KJ2.out.mono ?_
    rintro e W1 ⟨rfl, hb1⟩
    have hcv := HCV.out W1 hb1
    have HB1 := Lib.hid hb1
    clear hb1
    go_wp2_with fail
    refine (KR2.out W1).mono ?_
    rintro e W2 ⟨rfl, hb2⟩
    have HB2 := Lib.hid (below_next (below_next HB1.out hb2) (below_alloc (Below.refl _ W2) (.cells #[.slice none 0 0, .slice none 0 0, .int .i64 0, .int .i64 0, .int .i64 0, .int .i64 0] 34)))
    clear hb2 hcv
    go_upto_region 5 with fail
    generalize W2.alloc (.cells #[.slice none 0 0, .slice none 0 0, .int .i64 0, .int .i64 0, .int .i64 0, .int .i64 0] 34) = W3 at *
    have K := Lib.hid (K1.out W3 HB2.out)
    go_wp2_with fail
    refine K.out.mono ?_
    rintro e W4 ⟨rfl, hb⟩
    have HB4 := Lib.hid (below_next HB2.out hb)
    clear hb
    go_wp2_with fail
    go_ret
    exact ⟨rfl, HB4.out⟩
  | true =>
    rw [ho] at hok
    obtain ⟨hv1, hv2⟩ := hv hok
    rw [hv1] at hv2
    have HSP := Lib.hid (show ∀ i, i < 64 → (rdV bs).sp.getLsbD i = true → i < (rdV bs).ns.length from fun i hi hg => by
      have h5 := (okV_back HX.out ho).2.2.2.1
      have h6 := sub_iff.1 (rightG_is hv2.len h5).2.1 i hi hg
      unfold allF at h6
      rw [firstI_get _ _ hi, decide_eq_true_eq] at h6
      omega)
    have KJ2 := Lib.hid (KJ.out.mono (fun e w' h => fread_yes h ho))
    have KR2 := Lib.hid (fun X => (KR.out X).mono (fun e w' h => rdoc_yes h hok hv1))
    have HFB := Lib.hid hv2
    clear KJ KR ho hok HX hv hv1 hv2
    generalize rdV bs = f at *
    generalize hS : strOfNums bs = S at *
    clear hS
    go_enter Tryd.func4, Tryd.ntmps4
    go_wp2_with fail
    refine KJ2.out.mono ?_
    rintro e W1 ⟨F, G, rfl, hfl, hb1⟩
    have hcv := HCV.out W1 hb1
    have HB1 := Lib.hid hb1
    have HF := Lib.hid hfl
    clear hb1 hfl
    go_wp2_with fail
    refine (KR2.out W1).mono ?_
    rintro e W2 ⟨L, cL, Q, cP, rfl, hrf, h3, h4, hb2⟩
    have ba := below_alloc (Below.refl _ W2) (.cells #[.slice (some ⟨L, 0, none⟩) f.ns.length cL, .slice (some ⟨Q, 0, none⟩) f.ns.length cP, .int .i64 f.S, .int .i64 f.D, .int .i64 f.P, .int .i64 f.sw] 34)
    have HB2 := Lib.hid (below_next (below_next HB1.out hb2) ba)
    have HF2 := Lib.hid ((HF.out.below hb2).below ba)
    have HRF := Lib.hid (hrf.below ba)
    have HCP := Lib.hid (And.intro h3 h4)
    have HN := Lib.hid (World.alloc_heap_new W2 (.cells #[.slice (some ⟨L, 0, none⟩) f.ns.length cL, .slice (some ⟨Q, 0, none⟩) f.ns.length cP, .int .i64 f.S, .int .i64 f.D, .int .i64 f.P, .int .i64 f.sw] 34))
    clear hb2 hcv hrf h3 h4 ba HF HB1
    go_upto_region 5 with fail
    generalize W2.alloc (.cells #[.slice (some ⟨L, 0, none⟩) f.ns.length cL, .slice (some ⟨Q, 0, none⟩) f.ns.length cP, .int .i64 f.S, .int .i64 f.D, .int .i64 f.P, .int .i64 f.sw] 34) = W3 at *
    have KL := Lib.hid (like9_any HF2.out HRF.out HCP.out.1 HCP.out.2 HSP.out HFB.out (HTB.out W3 HB2.out))
    generalize W2.heap.size = q at *
    unfold rf9C at KL
    generalize f.ns.length = len at *
    generalize f.S = fS at *
    generalize f.D = fD at *
    generalize f.P = fP at *
    generalize f.sw = fw at *
    have q0 : W3.cell? ⟨q, 0, none⟩ = some (.slice (some ⟨L, 0, none⟩) len cL) := cell_of_block (o := 0) HN.out rfl
    have q1 : W3.cell? ⟨q, 1, none⟩ = some (.slice (some ⟨Q, 0, none⟩) len cP) := cell_of_block (o := 1) HN.out rfl
    have q2 : W3.cell? ⟨q, 2, none⟩ = some (.int .i64 fS) := cell_of_block (o := 2) HN.out rfl
    have q3 : W3.cell? ⟨q, 3, none⟩ = some (.int .i64 fD) := cell_of_block (o := 3) HN.out rfl
    have q4 : W3.cell? ⟨q, 4, none⟩ = some (.int .i64 fP) := cell_of_block (o := 4) HN.out rfl
    have q5 : W3.cell? ⟨q, 5, none⟩ = some (.int .i64 fw) := cell_of_block (o := 5) HN.out rfl
    go_wp2_with fail
    refine KL.out.mono ?_
    rintro e W4 ⟨rfl, hb⟩
    have HB4 := Lib.hid (below_next HB2.out hb)
    clear hb q0 q1 q2 q3 q4 q5
    have K := Lib.hid (K1.out W4 HB4.out)
    go_wp2_with fail
    refine K.out.mono ?_
    rintro e W5 ⟨rfl, hb⟩
    have HB5 := Lib.hid (below_next HB4.out hb)
    clear hb
    go_wp2_with fail
    go_ret
    exact ⟨rfl, HB5.out⟩
set_option maxRecDepth 100000 in
theorem fleetreads_any (ad : Option Addr) (n c : Nat) (bs : List Int) (w : World) (ht : TxtAt w (.slice ad n c) bs) (h : ErrAt w ∧ TabZ w) :
    Calls Tryd.prog 4 #[.slice ad n c] w fun e w' => e = .returned (.bool true) ∧ Below w.heap.size w w' := by
  by_cases hn : n ≤ 1000
  · exact fleetreads_yes ad n c bs hn w ht h.1 h.2
  · have hd0 : decide ((n : Int) > 1000) = true := decide_eq_true (by omega)
    have hd1 : decide (1000 < (n : Int)) = true := decide_eq_true (by omega)
    have hd2 : decide (1000 < n) = true := decide_eq_true (by omega)
    clear ht h hn
    go_enter Tryd.func4, Tryd.ntmps4
    go_wp2_with fail
    go_ret
    exact ⟨rfl, Below.refl _ _⟩
end Go.Proofs.YtnofgffkfapodaaDoor
