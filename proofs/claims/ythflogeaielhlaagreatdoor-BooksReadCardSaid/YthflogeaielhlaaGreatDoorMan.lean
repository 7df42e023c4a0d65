/- Laws that belong together: The document's Read of books (layer 14). Condition: the lengths' bound.; The document's Put of books (layer 14). Conditions: the numbers' bounds.; Are books the document's (layer 14); the walk of BooksRead. Conditions: the rows; the errors' table. -/
import Derived.Test.YthflogeaielhlaaGreatDoorMal
import Derived.Test.YthflogeaielhlaaGreatDoorMaj
import Derived.Test.YthflogeaielhlaaGreatDoorMCodRefE
import Derived.Test.YthflogeaielhlaaGreatDoorMad
import Derived.Test.YthflogeaielhlaaGreatDoorMae
import Derived.Test.YthflogeaielhlaaGreatDoorMab
import Derived.Test.YthflogeaielhlaaGreatDoorMag
namespace Go.Proofs.YthflogeaielhlaaGreatDoor
set_option linter.unusedVariables false
open Go.ChangeShapes Go.WideShapes Go.ChangeAt Go.RowKit Bk
attribute [local go_sem ↓] Go.wp_at_zero Go.wp_at_succ comesTo_value_eq comesTo_skip_eq comesTo_enter_eq

abbrev ZL14 : Array Value := #[.int .i64 0, .slice none 0 0]
def RDoc14 (w : World) (bs : List Int) (e : Ending) (w' : World) : Prop :=
  (okD bs = none ∧ e = .returned (.tuple #[.agg ZL14, .int .i64 11]) ∧ Below w.heap.size w w') ∨
  ∃ h L v, okD bs = some (h, L) ∧ e = .returned (.tuple #[.agg #[.int .i64 h, v], .int .i64 0]) ∧ w'.ownsRow w.heap.size 61 9 v L.length (vL L.flatten) ∧ Below w.heap.size w w'
def cur14 (st : CS) : Array Value := #[.string (strOfNums st.xs), .int .i64 st.bad]
theorem info_linD : (Tryz.prog.info? 61).map (fun i => (i.zero, i.size, i.bytes)) = some (some (.agg #[.int .i64 0, .int .i64 0, .int .i64 0, .int .i64 0, .int .i64 0, .int .i64 0, .int .i64 0, .int .i64 0, .int .i64 0]), 9, 72) := by kernel_rfl
theorem info_parts3d {i? : Option TypeInfo} {z : Value} {s b : Nat} (h : i?.map (fun i => (i.zero, i.size, i.bytes)) = some (some z, s, b)) : ∃ i, i? = some i ∧ i.zero = some z ∧ i.size = s ∧ i.bytes = b := by
  cases i? with
  | none => cases h
  | some i =>
    simp only [Option.map_some, Option.some.injEq, Prod.mk.injEq] at h
    exact ⟨i, rfl, h.1, h.2.1, h.2.2⟩
theorem eltD14 : Ap.Elt Tryz.prog 27 61 9 72 :=
  ⟨Tryz.underlying27, by obtain ⟨i, h1, h2, h3, h4⟩ := info_parts3d info_linD; exact ⟨i, _, h1, h2, h3, h4, rfl⟩, by decide⟩
theorem linInfoD {l : LV} (h : l.length = 9) : (Tryz.prog.info? 61).map (·.size) = some (vL l).length := by rw [vL_len, h]; kernel_rfl
/-- where the reading stands: the result, the cursor -/
structure Rd14 (w X : World) (C : Nat) (st : CS) : Prop where
  res : X.heap[w.heap.size]? = some (.cells ZL14 29 (0, 0))
  cur : X.heap[C]? = some (.cells (cur14 st) 53 (0, 0))
  c0 : w.heap.size < C
  bel : Below w.heap.size w X
theorem Rd14.k0 {w X : World} {C : Nat} {st : CS} (h : Rd14 w X C st) : X.cell? ⟨C, 0, none⟩ = some (.string (strOfNums st.xs)) := cell_of_block (o := 0) h.cur rfl
theorem Rd14.k1 {w X : World} {C : Nat} {st : CS} (h : Rd14 w X C st) : X.cell? ⟨C, 1, none⟩ = some (.int .i64 st.bad) := cell_of_block (o := 1) h.cur rfl
theorem Rd14.lt {w X : World} {C : Nat} {st : CS} (h : Rd14 w X C st) : C < X.heap.size := (Array.getElem?_eq_some_iff.1 h.cur).1
theorem Rd14.more {w X X' : World} {C Q : Nat} {st : CS} (h : Rd14 w X C st) (hb : Below Q X X') (hQ : C < Q) : Rd14 w X' C st :=
  have h1 := h.c0
  ⟨(hb.block _ (by omega)).trans h.res, (hb.block _ (by omega)).trans h.cur, h1, h.bel.trans (hb.mono (by omega))⟩
theorem Rd14.below {w X X' : World} {C : Nat} {st : CS} (h : Rd14 w X C st) (hb : Below X.heap.size X X') : Rd14 w X' C st := h.more hb h.lt
theorem Rd14.wroteC {w X X' : World} {C : Nat} {st st' : CS} (h : Rd14 w X C st) (hw : WroteTo C 53 (cur14 st') X X') : Rd14 w X' C st' :=
  have h1 := h.c0
  ⟨(hw.rest _ (by omega)).trans h.res, hw.there, h1, hw.below h.bel (by omega)⟩
theorem Rd14.setC {w X : World} {C : Nat} {st : CS} (h : Rd14 w X C st) (st' : CS) : WroteTo C 53 (cur14 st') X ((X.setCell ⟨C, 0, none⟩ (.string (strOfNums st'.xs))).setCell ⟨C, 1, none⟩ (.int .i64 st'.bad)) :=
  ((wrote_refl h.cur).set 0 (.string (strOfNums st'.xs))).set 1 (.int .i64 st'.bad)
/-- between two rounds -/
structure Lp14 (w X : World) (C Q : Nat) (st : CS) (hf : Int) (L : List LV) (v : Value) : Prop where
  base : Rd14 w X C st
  blk : X.heap[Q]? = some (.cells #[.int .i64 hf, v] 29 (0, 0))
  row : X.ownsRow (Q + 1) 61 9 v L.length (vL L.flatten)
  cq : C < Q
theorem Lp14.below {w X X' : World} {C Q : Nat} {st : CS} {hf : Int} {L : List LV} {v : Value} (h : Lp14 w X C Q st hf L v) (hb : Below X.heap.size X X') : Lp14 w X' C Q st hf L v :=
  ⟨h.base.below hb, (hb.block _ (Array.getElem?_eq_some_iff.1 h.blk).1).trans h.blk, Ap.own_below h.row hb, h.cq⟩
def arr9 (xs : List Int) : Array Value := #[.int .i64 (xs.getD 0 0), .int .i64 (xs.getD 1 0), .int .i64 (xs.getD 2 0), .int .i64 (xs.getD 3 0), .int .i64 (xs.getD 4 0), .int .i64 (xs.getD 5 0), .int .i64 (xs.getD 6 0), .int .i64 (xs.getD 7 0), .int .i64 (xs.getD 8 0)]
theorem arr9_set {xs : List Int} {k : Nat} (hl : xs.length = k) (hk : k < 9) (v : Int) : (arr9 xs).setIfInBounds k (.int .i64 v) = arr9 (xs ++ [v]) := by
  subst hl
  match xs, hk with
  | [], _ => rfl
  | [_], _ => rfl
  | [_, _], _ => rfl
  | [_, _, _], _ => rfl
  | [_, _, _, _], _ => rfl
  | [_, _, _, _, _], _ => rfl
  | [_, _, _, _, _, _], _ => rfl
  | [_, _, _, _, _, _, _], _ => rfl
  | [_, _, _, _, _, _, _, _], _ => rfl
  | _ :: _ :: _ :: _ :: _ :: _ :: _ :: _ :: _ :: _, h => simp at h; omega
theorem arr9_get (xs : List Int) {j : Nat} (hj : j < 9) : ∃ v, (arr9 xs)[j]? = some v := by
  have : j < (arr9 xs).size := hj
  exact ⟨_, Array.getElem?_eq_getElem this⟩
/-- a round: the numbers read so far -/
structure Rn14 (w X : World) (C Q A : Nat) (st : CS) (hf : Int) (L : List LV) (v : Value) (xs : List Int) : Prop where
  lp : Lp14 w X C Q st hf L v
  arr : X.heap[A]? = some (.cells (arr9 xs) 61 (0, 0))
  qa : Q < A
  va : ∀ g, v.ownBlock = some g → g ≠ A
theorem Rn14.below {w X X' : World} {C Q A : Nat} {st : CS} {hf : Int} {L : List LV} {v : Value} {xs : List Int} (h : Rn14 w X C Q A st hf L v xs) (hb : Below X.heap.size X X') : Rn14 w X' C Q A st hf L v xs :=
  ⟨h.lp.below hb, (hb.block _ (Array.getElem?_eq_some_iff.1 h.arr).1).trans h.arr, h.qa, h.va⟩
theorem Lp14.begin {w X : World} {C Q : Nat} {st : CS} {hf : Int} {L : List LV} {v : Value} (h : Lp14 w X C Q st hf L v) : Rn14 w (X.alloc (.cells #[.int .i64 0, .int .i64 0, .int .i64 0, .int .i64 0, .int .i64 0, .int .i64 0, .int .i64 0, .int .i64 0, .int .i64 0] 61)) C Q X.heap.size st hf L v [] := by
  have hb := below_alloc (Below.refl _ X) (.cells #[.int .i64 0, .int .i64 0, .int .i64 0, .int .i64 0, .int .i64 0, .int .i64 0, .int .i64 0, .int .i64 0, .int .i64 0] 61)
  exact ⟨h.below hb, World.alloc_heap_new X _, (Array.getElem?_eq_some_iff.1 h.blk).1, fun g hg => by have := Ap.own_lt h.row g hg; omega⟩
/-- a reading: the cursor's block and the number's turn -/
theorem Rn14.read {w X : World} {C Q A : Nat} {st : CS} {hf : Int} {L : List LV} {v : Value} {xs : List Int} (h : Rn14 w X C Q A st hf L v xs) (st' : CS) (i : Nat) (x : Int) (hl : xs.length = i) (hi : i < 9) :
    Rn14 w (((X.setCell ⟨C, 0, none⟩ (.string (strOfNums st'.xs))).setCell ⟨C, 1, none⟩ (.int .i64 st'.bad)).setCell ⟨A, i, none⟩ (.int .i64 x)) C Q A st' hf L v (xs ++ [x]) := by
  have h1 := h.lp.base.c0
  have h2 := h.lp.cq
  have h4 := h.qa
  have w1 := h.lp.base.setC st'
  have b1 := h.lp.base.wroteC w1
  generalize (X.setCell ⟨C, 0, none⟩ (.string (strOfNums st'.xs))).setCell ⟨C, 1, none⟩ (.int .i64 st'.bad) = Y at *
  have xb := (w1.rest A (by omega)).trans h.arr
  have w2 := (wrote_refl xb).set i (.int .i64 x)
  rw [arr9_set hl hi x] at w2
  have hr : ∀ j, j ≠ C → j ≠ A → (Y.setCell ⟨A, i, none⟩ (.int .i64 x)).heap[j]? = X.heap[j]? := fun j j1 j2 => (w2.rest j j2).trans (w1.rest j j1)
  refine ⟨⟨⟨(hr _ (by omega) (by omega)).trans h.lp.base.res, (w2.rest _ (by omega)).trans b1.cur, h1, w2.below b1.bel (by omega)⟩, (hr _ (by omega) (by omega)).trans h.lp.blk,
    Ap.own_keep h.lp.row fun g hg => hr g (by have := Ap.own_blk h.lp.row g hg; omega) (h.va g hg), h2⟩, w2.there, h4, h.va⟩
theorem vL_one9 (x : LV) : ∀ u ∈ vL x, u.oneCell' = true := by
  intro u hu
  unfold vL at hu
  obtain ⟨y, _, rfl⟩ := List.mem_map.1 hu
  rfl
/-- one more -/
theorem Lp14.step {w W : World} {C Q : Nat} {st : CS} {hf : Int} {L : List LV} {v : Value} (h : Lp14 w W C Q st hf L v) (hk : L.length < 64) {x : LV} (hx : x.length = 9) (ty : TypeId) :
    ∃ a c Wb, (Builtin.append_ #[27, 27] ty #[v, .slice (some ⟨W.heap.size, 0, none⟩) 1 1]).run Tryz.prog (W.alloc (.cells (vL x).toArray 61)) = .ok (.slice a (L.length + 1) c) Wb ∧
      Wb.heap[Q]? = some (.cells #[.int .i64 hf, v] 29 (0, 0)) ∧ Lp14 w (Wb.setCell ⟨Q, 1, none⟩ (.slice a (L.length + 1) c)) C Q st hf (L ++ [x]) (.slice a (L.length + 1) c) := by
  have hQ := (Array.getElem?_eq_some_iff.1 h.blk).1
  obtain ⟨v', Wb, g0, g1, g2, g3, g4, g5⟩ := Ao.app_one eltD14 ty h.row (vL x) (by rw [vL_len, hx]) (vL_one9 x) (by omega) (by decide) hQ
  have hform : ∃ a c, v' = .slice a (L.length + 1) c := by
    rcases g1.2 with ⟨_, h0⟩ | ⟨g, cap, cur, hv, _⟩
    · omega
    · exact ⟨_, _, hv⟩
  obtain ⟨a, c, rfl⟩ := hform
  have hbQ : Wb.heap[Q]? = W.heap[Q]? := g5.block Q (by omega)
  have hb := hbQ.trans h.blk
  have hw := (wrote_refl hb).set 1 (.slice a (L.length + 1) c)
  have hL := Ap.own_blk g1
  have h2 := h.cq
  refine ⟨a, c, Wb, g0, hb, ⟨(h.base.more (g5.mono (by omega) : Below Q W Wb) h2).more (hw.below (Below.refl _ _) (Nat.le_refl _)) h2, hw.there, ?_, h2⟩⟩
  rw [List.length_append, List.flatten_append, show vL (L.flatten ++ [x].flatten) = vL L.flatten ++ vL x from by unfold vL; simp]
  exact Ap.own_keep g1 fun g hg => hw.rest g (by have := hL g hg; omega)
/-- a reading leaves no more bytes -/
theorem rdI_lessB (st : CS) : (intF st).1.xs.length ≤ st.xs.length := by
  unfold intF
  split
  · exact (scan_suffix st.xs 0 0).length_le
  · exact Nat.le_refl _
theorem rdS_lessB (st : CS) (m : Int) : (smallF st m).1.xs.length ≤ st.xs.length := by
  have h := rdI_lessB st
  unfold smallF
  split
  · unfold failF
    split
    · exact Nat.zero_le _
    · exact h
  · exact h
/-- of a cursor's state: the calls' bounds -/
structure GoodB (st : CS) : Prop where
  b : ∀ x ∈ st.xs, 0 ≤ x ∧ x ≤ 255
  l : st.xs.length ≤ 1099511627775
theorem GoodB.small {st : CS} (h : GoodB st) (m : Int) : GoodB (smallF st m).1 := ⟨Cs.smallF_by h.b m, Nat.le_trans (rdS_lessB st m) h.l⟩
theorem GoodB.int {st : CS} (h : GoodB st) : GoodB (intF st).1 := ⟨Cs.intF_by h.b, Nat.le_trans (rdI_lessB st) h.l⟩
theorem GoodB.rdf {st : CS} (h : GoodB st) (k : Nat) : GoodB (rdf k st).1 := by
  unfold Go.Proofs.YthflogeaielhlaaGreatDoor.rdf
  split
  · exact h.small 16
  · split
    · exact h.small 1073741824
    · exact h.int
theorem GoodB.dK {st : CS} (h : GoodB st) : ∀ k, GoodB (dK st k).1
  | 0 => h
  | k + 1 => (GoodB.dK h k).rdf k
theorem rsm_dk {st : CS} (h : GoodB st) (k : Nat) (most : Int) (hm : ∀ s, rdf k s = smallF s most) (X : World) : Calls Tryz.prog 16 #[.agg #[.string (strOfNums (dK st k).1.xs), .int .i64 (dK st k).1.bad], .int .i64 most] X fun e w' => e = .returned (.tuple #[.agg #[.string (strOfNums (dK st (k + 1)).1.xs), .int .i64 (dK st (k + 1)).1.bad], .int .i64 (rdf k (dK st k).1).2]) ∧ Below X.heap.size X w' := by
  have := rsmall_any (dK st k).1 (h.dK k).b (Nat.le_trans (h.dK k).l (by decide)) most X
  rw [← hm] at this
  exact this
theorem rin_dk {st : CS} (h : GoodB st) (k : Nat) (hm : ∀ s, rdf k s = intF s) (X : World) : Calls Tryz.prog 15 #[.agg #[.string (strOfNums (dK st k).1.xs), .int .i64 (dK st k).1.bad]] X fun e w' => e = .returned (.tuple #[.agg #[.string (strOfNums (dK st (k + 1)).1.xs), .int .i64 (dK st (k + 1)).1.bad], .int .i64 (rdf k (dK st k).1).2]) ∧ Below X.heap.size X w' := by
  have := rint_any (dK st k).1 (h.dK k).b (Nat.le_trans (h.dK k).l (by decide)) X
  rw [← hm] at this
  exact this
theorem okD_no {bs : List Int} {hf n : Int} {s1 s2 : CS} (e1 : intF ⟨bs, 0⟩ = (s1, hf)) (e2 : smallF s1 16 = (s2, n)) (h : dB n.toNat s2 [] = none) : okD bs = none := by
  unfold okD
  rw [e1]
  dsimp only
  rw [e2]
  dsimp only
  rw [h]
  split <;> rfl
theorem okD_end {bs : List Int} {hf n : Int} {s1 s2 st : CS} {M : List LV} (e1 : intF ⟨bs, 0⟩ = (s1, hf)) (e2 : smallF s1 16 = (s2, n)) (h : dB n.toNat s2 [] = some (st, M)) : okD bs = if endF st = 0 ∧ 1 ≤ hf ∧ hf ≤ 1099511627776 then some (hf, M) else none := by
  unfold okD
  rw [e1]
  dsimp only
  rw [e2]
  dsimp only
  rw [h]
  unfold finB
  dsimp only
  by_cases h1 : 1 ≤ hf ∧ hf ≤ 1099511627776
  · rw [if_pos h1]
    by_cases h2 : endF st = 0
    · rw [if_pos h2, if_pos ⟨h2, h1⟩]; rfl
    · rw [if_neg h2, if_neg (fun h => h2 h.1)]; rfl
  · rw [if_neg h1, if_neg (fun h => h1 h.2)]
set_option maxRecDepth 100000 in
set_option maxHeartbeats 8000000 in
theorem rread14_any (bs : List Int) (hx : ∀ x ∈ bs, 0 ≤ x ∧ x ≤ 255) (hl : bs.length ≤ 1099511627775) (w : World) : Calls Tryz.prog 5 #[.string (strOfNums bs)] w fun e w' => RDoc14 w bs e w' := by
  have hmx : Tryz.prog.follows .mixedOrders = true := by kernel_rfl
  have HG0 := Lib.hid (show GoodB ⟨bs, 0⟩ from ⟨hx, hl⟩)
  have HNO := Lib.hid (fun (hh : okD bs = none) e w' (he : e = .returned (.tuple #[.agg ZL14, .int .i64 11])) (hb : Below w.heap.size w w') => (show RDoc14 w bs e w' from .inl ⟨hh, he, hb⟩))
  have HYES := Lib.hid (fun h L v e w' (hh : okD bs = some (h, L)) (he : e = .returned (.tuple #[.agg #[.int .i64 h, v], .int .i64 0])) (h1 : w'.ownsRow w.heap.size 61 9 v L.length (vL L.flatten)) (hb : Below w.heap.size w w') => (show RDoc14 w bs e w' from .inr ⟨h, L, v, hh, he, h1, hb⟩))
  obtain ⟨s1, hf, e1⟩ : ∃ s v, intF ⟨bs, 0⟩ = (s, v) := ⟨_, _, rfl⟩
  obtain ⟨s2, n, e2⟩ : ∃ s v, smallF s1 16 = (s, v) := ⟨_, _, rfl⟩
  have hnb := small_bd s1 (m := 16) (by decide)
  rw [e2] at hnb
  have HNB := Lib.hid (show 0 ≤ n ∧ n ≤ 16 from hnb)
  have hg1 := HG0.out.int
  rw [e1] at hg1
  have HG1 := Lib.hid (show GoodB s1 from hg1)
  have hg2 := HG1.out.small 16
  rw [e2] at hg2
  have HG2 := Lib.hid (show GoodB s2 from hg2)
  have HDN := Lib.hid (fun h => okD_no e1 e2 h)
  have HDE := Lib.hid (fun st M h => okD_end (st := st) (M := M) e1 e2 h)
  have k0 := fun X => rint_any ⟨bs, 0⟩ HG0.out.b (Nat.le_trans HG0.out.l (by decide)) X
  have k1 := fun X => rsmall_any s1 HG1.out.b (Nat.le_trans HG1.out.l (by decide)) 16 X
  rw [e1] at k0
  rw [e2] at k1
  have K0 := Lib.hid (show ∀ X, Calls Tryz.prog 15 #[.agg #[.string (strOfNums bs), .int .i64 0]] X fun e w' => e = .returned (.tuple #[.agg #[.string (strOfNums s1.xs), .int .i64 s1.bad], .int .i64 hf]) ∧ Below X.heap.size X w' from k0)
  have K1 := Lib.hid (show ∀ X, Calls Tryz.prog 16 #[.agg #[.string (strOfNums s1.xs), .int .i64 s1.bad], .int .i64 16] X fun e w' => e = .returned (.tuple #[.agg #[.string (strOfNums s2.xs), .int .i64 s2.bad], .int .i64 n]) ∧ Below X.heap.size X w' from k1)
  clear hx hl e1 e2 hnb hg1 hg2 k0 k1 HG0
  generalize hE : RDoc14 w bs = E at *
  clear hE
  obtain ⟨N, hN⟩ : ∃ N : Nat, n = (N : Int) := ⟨n.toNat, by have := HNB.out; omega⟩
  subst hN
  rw [Int.toNat_natCast] at HDN HDE
  obtain ⟨ss, hss⟩ : ∃ x, x = strOfNums bs := ⟨_, rfl⟩
  rw [← hss] at K0 ⊢
  clear hss
  obtain ⟨x1, hx1⟩ : ∃ x, x = strOfNums s1.xs := ⟨_, rfl⟩
  obtain ⟨b1, hb1⟩ : ∃ x, x = s1.bad := ⟨_, rfl⟩
  rw [← hx1, ← hb1] at K0 K1
  have HC0 := Lib.hid (show cur14 s1 = #[.string x1, .int .i64 b1] by unfold cur14; rw [hx1, hb1])
  clear hx1 hb1
  have hA := below_alloc (Below.refl _ w) (.cells ZL14 29)
  have hZ := World.alloc_heap_new w (.cells ZL14 29)
  go_enter Tryz.func5, Tryz.ntmps5
  go_upto_region 1 with fail
  have HA := Lib.hid (show Below w.heap.size w (w.alloc (.cells #[.int .i64 0, .slice none 0 0] 29)) from hA)
  have HZ := Lib.hid (show (w.alloc (.cells #[.int .i64 0, .slice none 0 0] 29)).heap[w.heap.size]? = some (.cells ZL14 29 (0, 0)) from hZ)
  clear hA hZ
  generalize w.alloc (.cells #[.int .i64 0, .slice none 0 0] 29) = W1 at *
  go_wp2_with fail
  refine (K0.out _).mono ?_
  rintro e wc ⟨rfl, hb⟩
  have hB := below_next HA.out hb
  have hZ := (hb.block _ (Array.getElem?_eq_some_iff.1 HZ.out).1).trans HZ.out
  have q1 := below_alloc (Below.refl _ wc) (.cells #[.string x1, .int .i64 b1] 53)
  have h3 := World.alloc_heap_new wc (.cells #[.string x1, .int .i64 b1] 53)
  have hlt := (Array.getElem?_eq_some_iff.1 hZ).1
  have HR0 := Lib.hid (show Rd14 w (wc.alloc (.cells #[.string x1, .int .i64 b1] 53)) wc.heap.size s1 from
    ⟨(q1.block _ hlt).trans hZ, h3.trans (by rw [HC0.out]), hlt, below_next hB q1⟩)
  clear hb hB hZ q1 h3 hlt K0
  go_upto_region 2 with fail
  generalize wc.alloc (.cells #[.string x1, .int .i64 b1] 53) = X0 at *
  generalize wc.heap.size = C at *
  have c0 : X0.cell? ⟨C, 0, none⟩ = some (.string x1) := cell_of_block (o := 0) (show X0.heap[C]? = some (.cells #[.string x1, .int .i64 b1] 53 (0, 0)) by rw [← HC0.out]; exact HR0.out.cur) rfl
  have c1 : X0.cell? ⟨C, 1, none⟩ = some (.int .i64 b1) := cell_of_block (o := 1) (show X0.heap[C]? = some (.cells #[.string x1, .int .i64 b1] 53 (0, 0)) by rw [← HC0.out]; exact HR0.out.cur) rfl
  go_wp2_with fail
  refine (K1.out _).mono ?_
  rintro e Y1 ⟨rfl, hb⟩
  have HY1 := Lib.hid (HR0.out.below hb)
  clear hb c0 c1 K1
  have c0 := HY1.out.k0
  have c1 := HY1.out.k1
  have f0 := free_of_block 0 HY1.out.cur
  have f1 := free_of_block 1 HY1.out.cur
  have HR1 := Lib.hid (HY1.out.wroteC (HY1.out.setC s2))
  go_upto_region 3 with fail
  generalize (Y1.setCell ⟨C, 0, none⟩ (.string (strOfNums s2.xs))).setCell ⟨C, 1, none⟩ (.int .i64 s2.bad) = X1 at *
  clear c0 c1 f0 f1 HY1 HR0 HC0
  have bq := below_alloc (Below.refl _ X1) (.cells #[.int .i64 hf, .slice none 0 0] 29)
  have HL0 := Lib.hid (show Lp14 w (X1.alloc (.cells #[.int .i64 hf, .slice none 0 0] 29)) C X1.heap.size s2 hf [] (.slice none 0 0) from
    ⟨HR1.out.below bq, World.alloc_heap_new X1 _, World.ownsRow_nil _ _ _ _, HR1.out.lt⟩)
  clear bq
  go_upto_region 4 with fail
  generalize X1.alloc (.cells #[.int .i64 hf, .slice none 0 0] 29) = V at *
  generalize X1.heap.size = Q at *
  clear HR1
  go_wp2_with fail
  go_loopw [9, 8] (fun i la wr => ∃ (k : Nat) (st : CS) (M : List LV) (v : Value), k ≤ N ∧ M.length = k ∧ i = .int .i64 k ∧ la = .int .i64 (lastB M) ∧ GoodB st ∧ dB N s2 [] = dB (N - k) st M ∧ Lp14 w wr C Q st hf M v) (fun i _ _ => N - (intOf i).toNat)
  case atStart => exact ⟨0, s2, [], _, Nat.zero_le _, rfl, rfl, rfl, HG2.out, rfl, HL0.out⟩
  case round =>
    obtain ⟨k, st, M, v, hk, hMl, rfl, rfl, hgd, hdb, hlp⟩ := hrel
    have HML := Lib.hid hMl
    have HGD := Lib.hid hgd
    have HDB := Lib.hid hdb
    obtain ⟨aL, cL, rfl⟩ : ∃ a c, v = .slice a k c := by
      rcases hlp.row.2 with ⟨rfl, h0⟩ | ⟨g, cap, cur, hv, _⟩
      · exact ⟨none, 0, by rw [← hMl, h0]⟩
      · exact ⟨_, _, by rw [← hMl]; exact hv⟩
    clear hMl hgd hdb
    by_cases hlt : k < N
    case pos =>
      have hd : decide (k < N) = true := decide_eq_true hlt
      have hd2 : decide ((k : Int) < (N : Int)) = true := decide_eq_true (by omega)
      have hkI : (k : Int) < (N : Int) := by omega
      have hw1 : IntKind.i64.wrap ((k : Int) + 1) = (k : Int) + 1 := by have := HNB.out; rw [IntKind.wrap_i64]; omega
      have HLT := Lib.hid hlt
      have HRN0 := Lib.hid hlp.begin
      clear hlp hlt hk HL0
      obtain ⟨la, hla⟩ : ∃ x, x = lastB M := ⟨_, rfl⟩
      rw [← hla]
      have HLA := Lib.hid hla
      clear hla
      obtain ⟨q, hq⟩ : ∃ q, q = N - (k + 1) := ⟨_, rfl⟩
      have HDB2 := Lib.hid (show dB N s2 [] = if okW la (dK st 9).2 then dB q (dK st 9).1 (M ++ [(dK st 9).2]) else none from by rw [HDB.out, show N - k = q + 1 by have := HLT.out; omega, HLA.out]; rfl)
      have HQ := Lib.hid hq
      clear hq HDB
      have HBAD := Lib.hid (fun (hb : okW la (dK st 9).2 = false) => HDN.out (by rw [HDB2.out, hb]; rfl))
      go_upto_region 9 with fail
      generalize wr.alloc (.cells #[.int .i64 0, .int .i64 0, .int .i64 0, .int .i64 0, .int .i64 0, .int .i64 0, .int .i64 0, .int .i64 0, .int .i64 0] 61) = Z0 at *
      obtain ⟨A, hA⟩ : ∃ A, A = wr.heap.size := ⟨_, rfl⟩
      rw [← hA] at HRN0 ⊢
      clear hA
      have hne3 : C ≠ A := by have := HRN0.out.lp.cq; have := HRN0.out.qa; omega
      have hne4 : A ≠ C := Ne.symm hne3
      have HNEQ := Lib.hid hne3
      have KI := Lib.hid (rsm_dk HGD.out 0 16 (fun s => by unfold rdf; rw [if_pos rfl]))
      have HJL := Lib.hid (dK_len st 0)
      have HNJ := Lib.hid (show (dK st (0 + 1)).2 = (dK st 0).2 ++ [(rdf 0 (dK st 0).1).2] from rfl)
      have c0 : Z0.cell? ⟨C, 0, none⟩ = some (.string (strOfNums (dK st 0).1.xs)) := HRN0.out.lp.base.k0
      have c1 : Z0.cell? ⟨C, 1, none⟩ = some (.int .i64 (dK st 0).1.bad) := HRN0.out.lp.base.k1
      have HRNa := Lib.hid (show Rn14 w Z0 C Q A (dK st 0).1 hf M (.slice aL k cL) (dK st 0).2 from HRN0.out)
      clear HRN0
      obtain ⟨sn, hsn⟩ : ∃ x, x = (dK st (0 + 1)).1 := ⟨_, rfl⟩
      obtain ⟨xn, hxn⟩ : ∃ x, x = (dK st (0 + 1)).2 := ⟨_, rfl⟩
      obtain ⟨xv, hxv⟩ : ∃ x, x = (rdf (0) (dK st (0)).1).2 := ⟨_, rfl⟩
      rw [← hsn, ← hxv] at KI
      rw [← hxn, ← hxv] at HNJ
      have HSN := Lib.hid hsn
      have HXN := Lib.hid hxn
      clear hsn hxn hxv
      obtain ⟨sj, hsj⟩ : ∃ x, x = (dK st (0)).1 := ⟨_, rfl⟩
      obtain ⟨xj, hxj⟩ : ∃ x, x = (dK st (0)).2 := ⟨_, rfl⟩
      rw [← hsj] at KI c0 c1 HRNa
      rw [← hxj] at HJL HNJ HRNa
      clear hsj hxj
      obtain ⟨tj, htj⟩ : ∃ x, x = strOfNums sj.xs := ⟨_, rfl⟩
      obtain ⟨bj, hbj⟩ : ∃ x, x = sj.bad := ⟨_, rfl⟩
      rw [← htj, ← hbj] at KI
      rw [← htj] at c0
      rw [← hbj] at c1
      clear htj hbj
      go_wp2_with fail
      refine (KI.out _).mono ?_
      rintro e U ⟨rfl, hb⟩
      have HU := Lib.hid (HRNa.out.below hb)
      clear hb c0 c1 KI HRNa
      have c0 := HU.out.lp.base.k0
      have c1 := HU.out.lp.base.k1
      have f0 := free_of_block 0 HU.out.lp.base.cur
      have f1 := free_of_block 1 HU.out.lp.base.cur
      obtain ⟨vk, hvk⟩ := arr9_get xj (j := 0) (by decide)
      have cA := cell_of_block (o := 0) HU.out.arr hvk
      have fA := free_of_block (0) HU.out.arr
      clear hvk
      have HRNb := Lib.hid (show Rn14 w (((U.setCell ⟨C, 0, none⟩ (.string (strOfNums sn.xs))).setCell ⟨C, 1, none⟩ (.int .i64 sn.bad)).setCell ⟨A, 0, none⟩ (.int .i64 xv)) C Q A sn hf M (.slice aL k cL) xn from by rw [HNJ.out]; exact HU.out.read sn (0) xv HJL.out (by decide))
      generalize hts : strOfNums sn.xs = tn at *
      generalize hbs : sn.bad = bn at *
      clear hts hbs
      go_upto_region 10 with fail
      generalize ((U.setCell ⟨C, 0, none⟩ (.string tn)).setCell ⟨C, 1, none⟩ (.int .i64 bn)).setCell ⟨A, 0, none⟩ (.int .i64 xv) = Z1 at *
      clear c0 c1 f0 f1 cA fA HU HNJ HJL
      rw [HSN.out, HXN.out] at HRNb
      clear HSN HXN sn xn
      go_wp2_with fail
      go_loopw [11] (fun i wr => ∃ j : Nat, j ≤ 5 ∧ i = .int .i64 j ∧ Rn14 w wr C Q A (dK st (1 + j)).1 hf M (.slice aL k cL) (dK st (1 + j)).2) (fun i _ => 5 - (intOf i).toNat)
      case atStart => exact ⟨0, Nat.zero_le _, rfl, HRNb.out⟩
      case round =>
        obtain ⟨j, hj, rfl, hrn⟩ := hrel
        have HRN := Lib.hid hrn
        clear hrn HRNb
        by_cases hj4 : j < 5
        case pos =>
          have hd3 : decide ((j : Int) < 5) = true := decide_eq_true (by omega)
          have hkI : (j : Int) < 5 := by omega
          have hwj : IntKind.i64.wrap ((j : Int) + 1) = (j : Int) + 1 := by rw [IntKind.wrap_i64]; omega
          have KI := Lib.hid (rsm_dk HGD.out (1 + j) 1073741824 (fun s => by unfold rdf; rw [if_neg (by omega), if_pos (by omega)]))
          have HJL := Lib.hid (dK_len st (1 + j))
          have HNJ := Lib.hid (show (dK st (1 + j + 1)).2 = (dK st (1 + j)).2 ++ [(rdf (1 + j) (dK st (1 + j)).1).2] from rfl)
          have c0 := HRN.out.lp.base.k0
          have c1 := HRN.out.lp.base.k1
          have HJ := Lib.hid hj4
          clear hj hj4
          obtain ⟨sn, hsn⟩ : ∃ x, x = (dK st (1 + j + 1)).1 := ⟨_, rfl⟩
          obtain ⟨xn, hxn⟩ : ∃ x, x = (dK st (1 + j + 1)).2 := ⟨_, rfl⟩
          obtain ⟨xv, hxv⟩ : ∃ x, x = (rdf (1 + j) (dK st (1 + j)).1).2 := ⟨_, rfl⟩
          rw [← hsn, ← hxv] at KI
          rw [← hxn, ← hxv] at HNJ
          have HSN := Lib.hid hsn
          have HXN := Lib.hid hxn
          clear hsn hxn hxv
          obtain ⟨sj, hsj⟩ : ∃ x, x = (dK st (1 + j)).1 := ⟨_, rfl⟩
          obtain ⟨xj, hxj⟩ : ∃ x, x = (dK st (1 + j)).2 := ⟨_, rfl⟩
          rw [← hsj] at KI c0 c1 HRN
          rw [← hxj] at HJL HNJ HRN
          clear hsj hxj
          obtain ⟨tj, htj⟩ : ∃ x, x = strOfNums sj.xs := ⟨_, rfl⟩
          obtain ⟨bj, hbj⟩ : ∃ x, x = sj.bad := ⟨_, rfl⟩
          rw [← htj, ← hbj] at KI
          rw [← htj] at c0
          rw [← hbj] at c1
          clear htj hbj
          go_wp2_with fail
          refine (KI.out _).mono ?_
          rintro e U ⟨rfl, hb⟩
          have HU := Lib.hid (HRN.out.below hb)
          clear hb c0 c1 KI HRN
          have c0 := HU.out.lp.base.k0
          have c1 := HU.out.lp.base.k1
          have f0 := free_of_block 0 HU.out.lp.base.cur
          have f1 := free_of_block 1 HU.out.lp.base.cur
          obtain ⟨vk, hvk⟩ := arr9_get xj (j := 1 + j) (by have := HJ.out; omega)
          have cA := cell_of_block (o := 1 + j) HU.out.arr hvk
          have fA := free_of_block (1 + j) HU.out.arr
          clear hvk
          have HRNc := Lib.hid (show Rn14 w (((U.setCell ⟨C, 0, none⟩ (.string (strOfNums sn.xs))).setCell ⟨C, 1, none⟩ (.int .i64 sn.bad)).setCell ⟨A, 1 + j, none⟩ (.int .i64 xv)) C Q A sn hf M (.slice aL k cL) xn from by rw [HNJ.out]; exact HU.out.read sn (1 + j) xv HJL.out (by have := HJ.out; omega))
          generalize hts : strOfNums sn.xs = tn at *
          generalize hbs : sn.bad = bn at *
          clear hts hbs
          clear HU HNJ HJL
          have HREL := Lib.hid (show Rn14 w (((U.setCell ⟨C, 0, none⟩ (.string tn)).setCell ⟨C, 1, none⟩ (.int .i64 bn)).setCell ⟨A, 1 + j, none⟩ (.int .i64 xv)) C Q A (dK st (1 + (j + 1))).1 hf M (.slice aL k cL) (dK st (1 + (j + 1))).2 from by
            have := HRNc.out
            rw [HSN.out, HXN.out] at this
            exact this)
          clear HRNc HSN HXN
          go_wp2_with fail
          go_roundw
          case rel => exact ⟨j + 1, by have := HJ.out; omega, by go_num, HREL.out⟩
          case measure => have := HJ.out; simp [intOf]; omega
        case neg =>
          obtain rfl : j = 5 := by omega
          have hd3 : decide ((5 : Int) < 5) = false := by decide
          clear hj hj4
          have HRNd := Lib.hid (show Rn14 w wr C Q A (dK st 6).1 hf M (.slice aL k cL) (dK st 6).2 from HRN.out)
          clear HRN
          have KI := Lib.hid (rin_dk HGD.out 6 (fun s => by unfold rdf; rw [if_neg (by decide), if_neg (by decide)]))
          have HJL := Lib.hid (dK_len st 6)
          have HNJ := Lib.hid (show (dK st (6 + 1)).2 = (dK st 6).2 ++ [(rdf 6 (dK st 6).1).2] from rfl)
          have c0 := HRNd.out.lp.base.k0
          have c1 := HRNd.out.lp.base.k1
          obtain ⟨sn, hsn⟩ : ∃ x, x = (dK st (6 + 1)).1 := ⟨_, rfl⟩
          obtain ⟨xn, hxn⟩ : ∃ x, x = (dK st (6 + 1)).2 := ⟨_, rfl⟩
          obtain ⟨xv, hxv⟩ : ∃ x, x = (rdf (6) (dK st (6)).1).2 := ⟨_, rfl⟩
          rw [← hsn, ← hxv] at KI
          rw [← hxn, ← hxv] at HNJ
          have HSN := Lib.hid hsn
          have HXN := Lib.hid hxn
          clear hsn hxn hxv
          obtain ⟨sj, hsj⟩ : ∃ x, x = (dK st (6)).1 := ⟨_, rfl⟩
          obtain ⟨xj, hxj⟩ : ∃ x, x = (dK st (6)).2 := ⟨_, rfl⟩
          rw [← hsj] at KI c0 c1 HRNd
          rw [← hxj] at HJL HNJ HRNd
          clear hsj hxj
          obtain ⟨tj, htj⟩ : ∃ x, x = strOfNums sj.xs := ⟨_, rfl⟩
          obtain ⟨bj, hbj⟩ : ∃ x, x = sj.bad := ⟨_, rfl⟩
          rw [← htj, ← hbj] at KI
          rw [← htj] at c0
          rw [← hbj] at c1
          clear htj hbj
          go_wp2_with fail
          refine (KI.out _).mono ?_
          rintro e U ⟨rfl, hb⟩
          have HU := Lib.hid (HRNd.out.below hb)
          clear hb c0 c1 KI HRNd
          have c0 := HU.out.lp.base.k0
          have c1 := HU.out.lp.base.k1
          have f0 := free_of_block 0 HU.out.lp.base.cur
          have f1 := free_of_block 1 HU.out.lp.base.cur
          obtain ⟨vk, hvk⟩ := arr9_get xj (j := 6) (by decide)
          have cA := cell_of_block (o := 6) HU.out.arr hvk
          have fA := free_of_block (6) HU.out.arr
          clear hvk
          have HRNe := Lib.hid (show Rn14 w (((U.setCell ⟨C, 0, none⟩ (.string (strOfNums sn.xs))).setCell ⟨C, 1, none⟩ (.int .i64 sn.bad)).setCell ⟨A, 6, none⟩ (.int .i64 xv)) C Q A sn hf M (.slice aL k cL) xn from by rw [HNJ.out]; exact HU.out.read sn (6) xv HJL.out (by decide))
          generalize hts : strOfNums sn.xs = tn at *
          generalize hbs : sn.bad = bn at *
          clear hts hbs
          go_upto_region 15 with fail
          generalize ((U.setCell ⟨C, 0, none⟩ (.string tn)).setCell ⟨C, 1, none⟩ (.int .i64 bn)).setCell ⟨A, 6, none⟩ (.int .i64 xv) = Z2 at *
          clear c0 c1 f0 f1 cA fA HU HNJ HJL
          rw [HSN.out, HXN.out] at HRNe
          clear HSN HXN sn xn
          have KI := Lib.hid (rin_dk HGD.out 7 (fun s => by unfold rdf; rw [if_neg (by decide), if_neg (by decide)]))
          have HJL := Lib.hid (dK_len st 7)
          have HNJ := Lib.hid (show (dK st (7 + 1)).2 = (dK st 7).2 ++ [(rdf 7 (dK st 7).1).2] from rfl)
          have c0 := HRNe.out.lp.base.k0
          have c1 := HRNe.out.lp.base.k1
          obtain ⟨sn, hsn⟩ : ∃ x, x = (dK st (7 + 1)).1 := ⟨_, rfl⟩
          obtain ⟨xn, hxn⟩ : ∃ x, x = (dK st (7 + 1)).2 := ⟨_, rfl⟩
          obtain ⟨xv, hxv⟩ : ∃ x, x = (rdf (7) (dK st (7)).1).2 := ⟨_, rfl⟩
          rw [← hsn, ← hxv] at KI
          rw [← hxn, ← hxv] at HNJ
          have HSN := Lib.hid hsn
          have HXN := Lib.hid hxn
          clear hsn hxn hxv
          obtain ⟨sj, hsj⟩ : ∃ x, x = (dK st (7)).1 := ⟨_, rfl⟩
          obtain ⟨xj, hxj⟩ : ∃ x, x = (dK st (7)).2 := ⟨_, rfl⟩
          rw [← hsj] at KI c0 c1 HRNe
          rw [← hxj] at HJL HNJ HRNe
          clear hsj hxj
          obtain ⟨tj, htj⟩ : ∃ x, x = strOfNums sj.xs := ⟨_, rfl⟩
          obtain ⟨bj, hbj⟩ : ∃ x, x = sj.bad := ⟨_, rfl⟩
          rw [← htj, ← hbj] at KI
          rw [← htj] at c0
          rw [← hbj] at c1
          clear htj hbj
          go_wp2_with fail
          refine (KI.out _).mono ?_
          rintro e U ⟨rfl, hb⟩
          have HU := Lib.hid (HRNe.out.below hb)
          clear hb c0 c1 KI HRNe
          have c0 := HU.out.lp.base.k0
          have c1 := HU.out.lp.base.k1
          have f0 := free_of_block 0 HU.out.lp.base.cur
          have f1 := free_of_block 1 HU.out.lp.base.cur
          obtain ⟨vk, hvk⟩ := arr9_get xj (j := 7) (by decide)
          have cA := cell_of_block (o := 7) HU.out.arr hvk
          have fA := free_of_block (7) HU.out.arr
          clear hvk
          have HRNf := Lib.hid (show Rn14 w (((U.setCell ⟨C, 0, none⟩ (.string (strOfNums sn.xs))).setCell ⟨C, 1, none⟩ (.int .i64 sn.bad)).setCell ⟨A, 7, none⟩ (.int .i64 xv)) C Q A sn hf M (.slice aL k cL) xn from by rw [HNJ.out]; exact HU.out.read sn (7) xv HJL.out (by decide))
          generalize hts : strOfNums sn.xs = tn at *
          generalize hbs : sn.bad = bn at *
          clear hts hbs
          go_upto_region 16 with fail
          generalize ((U.setCell ⟨C, 0, none⟩ (.string tn)).setCell ⟨C, 1, none⟩ (.int .i64 bn)).setCell ⟨A, 7, none⟩ (.int .i64 xv) = Z3 at *
          clear c0 c1 f0 f1 cA fA HU HNJ HJL
          rw [HSN.out, HXN.out] at HRNf
          clear HSN HXN sn xn
          have KI := Lib.hid (rin_dk HGD.out 8 (fun s => by unfold rdf; rw [if_neg (by decide), if_neg (by decide)]))
          have HJL := Lib.hid (dK_len st 8)
          have HNJ := Lib.hid (show (dK st (8 + 1)).2 = (dK st 8).2 ++ [(rdf 8 (dK st 8).1).2] from rfl)
          have c0 := HRNf.out.lp.base.k0
          have c1 := HRNf.out.lp.base.k1
          obtain ⟨sn, hsn⟩ : ∃ x, x = (dK st (8 + 1)).1 := ⟨_, rfl⟩
          obtain ⟨xn, hxn⟩ : ∃ x, x = (dK st (8 + 1)).2 := ⟨_, rfl⟩
          obtain ⟨xv, hxv⟩ : ∃ x, x = (rdf (8) (dK st (8)).1).2 := ⟨_, rfl⟩
          rw [← hsn, ← hxv] at KI
          rw [← hxn, ← hxv] at HNJ
          have HSN := Lib.hid hsn
          have HXN := Lib.hid hxn
          clear hsn hxn hxv
          obtain ⟨sj, hsj⟩ : ∃ x, x = (dK st (8)).1 := ⟨_, rfl⟩
          obtain ⟨xj, hxj⟩ : ∃ x, x = (dK st (8)).2 := ⟨_, rfl⟩
          rw [← hsj] at KI c0 c1 HRNf
          rw [← hxj] at HJL HNJ HRNf
          clear hsj hxj
          obtain ⟨tj, htj⟩ : ∃ x, x = strOfNums sj.xs := ⟨_, rfl⟩
          obtain ⟨bj, hbj⟩ : ∃ x, x = sj.bad := ⟨_, rfl⟩
          rw [← htj, ← hbj] at KI
          rw [← htj] at c0
          rw [← hbj] at c1
          clear htj hbj
          go_wp2_with fail
          refine (KI.out _).mono ?_
          rintro e U ⟨rfl, hb⟩
          have HU := Lib.hid (HRNf.out.below hb)
          clear hb c0 c1 KI HRNf
          have c0 := HU.out.lp.base.k0
          have c1 := HU.out.lp.base.k1
          have f0 := free_of_block 0 HU.out.lp.base.cur
          have f1 := free_of_block 1 HU.out.lp.base.cur
          obtain ⟨vk, hvk⟩ := arr9_get xj (j := 8) (by decide)
          have cA := cell_of_block (o := 8) HU.out.arr hvk
          have fA := free_of_block (8) HU.out.arr
          clear hvk
          have HRNg := Lib.hid (show Rn14 w (((U.setCell ⟨C, 0, none⟩ (.string (strOfNums sn.xs))).setCell ⟨C, 1, none⟩ (.int .i64 sn.bad)).setCell ⟨A, 8, none⟩ (.int .i64 xv)) C Q A sn hf M (.slice aL k cL) xn from by rw [HNJ.out]; exact HU.out.read sn (8) xv HJL.out (by decide))
          generalize hts : strOfNums sn.xs = tn at *
          generalize hbs : sn.bad = bn at *
          clear hts hbs
          go_upto_region 17 with fail
          generalize ((U.setCell ⟨C, 0, none⟩ (.string tn)).setCell ⟨C, 1, none⟩ (.int .i64 bn)).setCell ⟨A, 8, none⟩ (.int .i64 xv) = Z4 at *
          clear c0 c1 f0 f1 cA fA HU HNJ HJL
          rw [HSN.out, HXN.out] at HRNg
          clear HSN HXN sn xn
          clear hd3
          have hxl : (dK st 9).2.length = 9 := dK_len st 9
          have HR9 := Lib.hid (show Rn14 w Z4 C Q A (dK st 9).1 hf M (.slice aL k cL) (dK st 9).2 from HRNg.out)
          have HG9 := Lib.hid (HGD.out.dK 9)
          clear HRNg
          obtain ⟨s9, hs9⟩ : ∃ x, x = (dK st 9).1 := ⟨_, rfl⟩
          obtain ⟨x9, hx9⟩ : ∃ x, x = (dK st 9).2 := ⟨_, rfl⟩
          rw [← hs9] at HG9 HDB2 HR9
          rw [← hx9] at HDB2 HR9 HBAD hxl
          clear hs9 hx9
          obtain ⟨a0, a1, a2, a3, a4, a5, a6, a7, a8, rfl⟩ := nine hxl
          clear hxl
          have HOW := Lib.hid (show okW la [a0, a1, a2, a3, a4, a5, a6, a7, a8] = (decide (la < a0) && decide (0 ≤ a6 ∧ a6 ≤ 1125899906842624) && decide (0 ≤ a7 ∧ a7 ≤ 1125899906842624) && decide (0 ≤ a8 ∧ a8 ≤ 1099511627776)) from rfl)
          have HAB := Lib.hid (show Z4.heap[A]? = some (.cells #[.int .i64 a0, .int .i64 a1, .int .i64 a2, .int .i64 a3, .int .i64 a4, .int .i64 a5, .int .i64 a6, .int .i64 a7, .int .i64 a8] 61 (0, 0)) from HR9.out.arr)
          have x0 : Z4.cell? ⟨A, 0, none⟩ = some (.int .i64 a0) := cell_of_block (o := 0) HAB.out rfl
          have x6 : Z4.cell? ⟨A, 6, none⟩ = some (.int .i64 a6) := cell_of_block (o := 6) HAB.out rfl
          have x7 : Z4.cell? ⟨A, 7, none⟩ = some (.int .i64 a7) := cell_of_block (o := 7) HAB.out rfl
          have x8 : Z4.cell? ⟨A, 8, none⟩ = some (.int .i64 a8) := cell_of_block (o := 8) HAB.out rfl
          by_cases h0 : a0 ≤ la
          case pos =>
            have d0 : decide (a0 ≤ la) = true := decide_eq_true h0
            have HD2 := Lib.hid h0
            clear h0
            have HRS := Lib.hid (HR9.out.lp.base.res)
            have HBE := Lib.hid (HR9.out.lp.base.bel)
            have HOF := Lib.hid (HBAD.out (by rw [HOW.out, decide_eq_false (show ¬ la < a0 by have := HD2.out; omega), Bool.false_and, Bool.false_and, Bool.false_and]))
            go_upto_region 18 with fail
            refine wp_region_lit ?_
            refine wpList_yield (w' := Z4) (v := .agg ZL14) rfl (by unfold ZL14; go_simp) ?_
            refine wpList_store_all rfl 29 _ _ rfl w.heap.size (T := 29) ZL14.toList (by go_simp) (by go_simp) HRS.out rfl (by kernel_rfl) (by decide) ?_
            intro w8 hw8
            have HW8 := Lib.hid hw8.there
            have HB8 := Lib.hid (hw8.below HBE.out (Nat.le_refl _))
            clear hw8
            go_wp2_with fail
            exact bodyPost_ret (results_all2 ZL14.toList _ Tryz.results5 (by go_simp) HW8.out Tryz.underlying29 rfl (by kernel_rfl)) rfl (HNO.out HOF.out _ _ rfl HB8.out)
          have d0 : decide (a0 ≤ la) = false := decide_eq_false h0
          by_cases h1 : a6 < 0
          case pos =>
            have d1 : decide (a6 < 0) = true := decide_eq_true h1
            have HD2 := Lib.hid h1
            clear h0 h1
            have HRS := Lib.hid (HR9.out.lp.base.res)
            have HBE := Lib.hid (HR9.out.lp.base.bel)
            have HOF := Lib.hid (HBAD.out (by rw [HOW.out, decide_eq_false (show ¬ (0 ≤ a6 ∧ a6 ≤ 1125899906842624) by have := HD2.out; omega), Bool.and_false, Bool.false_and, Bool.false_and]))
            go_upto_region 18 with fail
            refine wp_region_lit ?_
            refine wpList_yield (w' := Z4) (v := .agg ZL14) rfl (by unfold ZL14; go_simp) ?_
            refine wpList_store_all rfl 29 _ _ rfl w.heap.size (T := 29) ZL14.toList (by go_simp) (by go_simp) HRS.out rfl (by kernel_rfl) (by decide) ?_
            intro w8 hw8
            have HW8 := Lib.hid hw8.there
            have HB8 := Lib.hid (hw8.below HBE.out (Nat.le_refl _))
            clear hw8
            go_wp2_with fail
            exact bodyPost_ret (results_all2 ZL14.toList _ Tryz.results5 (by go_simp) HW8.out Tryz.underlying29 rfl (by kernel_rfl)) rfl (HNO.out HOF.out _ _ rfl HB8.out)
          have d1 : decide (a6 < 0) = false := decide_eq_false h1
          by_cases h2 : a6 > 1125899906842624
          case pos =>
            have d2 : decide (a6 > 1125899906842624) = true := decide_eq_true h2
            have e2 : decide (1125899906842624 < a6) = true := decide_eq_true h2
            have HD2 := Lib.hid h2
            clear h0 h1 h2
            have HRS := Lib.hid (HR9.out.lp.base.res)
            have HBE := Lib.hid (HR9.out.lp.base.bel)
            have HOF := Lib.hid (HBAD.out (by rw [HOW.out, decide_eq_false (show ¬ (0 ≤ a6 ∧ a6 ≤ 1125899906842624) by have := HD2.out; omega), Bool.and_false, Bool.false_and, Bool.false_and]))
            go_upto_region 18 with fail
            refine wp_region_lit ?_
            refine wpList_yield (w' := Z4) (v := .agg ZL14) rfl (by unfold ZL14; go_simp) ?_
            refine wpList_store_all rfl 29 _ _ rfl w.heap.size (T := 29) ZL14.toList (by go_simp) (by go_simp) HRS.out rfl (by kernel_rfl) (by decide) ?_
            intro w8 hw8
            have HW8 := Lib.hid hw8.there
            have HB8 := Lib.hid (hw8.below HBE.out (Nat.le_refl _))
            clear hw8
            go_wp2_with fail
            exact bodyPost_ret (results_all2 ZL14.toList _ Tryz.results5 (by go_simp) HW8.out Tryz.underlying29 rfl (by kernel_rfl)) rfl (HNO.out HOF.out _ _ rfl HB8.out)
          have d2 : decide (a6 > 1125899906842624) = false := decide_eq_false h2
          have e2 : decide (1125899906842624 < a6) = false := decide_eq_false h2
          by_cases h3 : a7 < 0
          case pos =>
            have d3 : decide (a7 < 0) = true := decide_eq_true h3
            have HD2 := Lib.hid h3
            clear h0 h1 h2 h3
            have HRS := Lib.hid (HR9.out.lp.base.res)
            have HBE := Lib.hid (HR9.out.lp.base.bel)
            have HOF := Lib.hid (HBAD.out (by rw [HOW.out, decide_eq_false (show ¬ (0 ≤ a7 ∧ a7 ≤ 1125899906842624) by have := HD2.out; omega), Bool.and_false, Bool.false_and]))
            go_upto_region 18 with fail
            refine wp_region_lit ?_
            refine wpList_yield (w' := Z4) (v := .agg ZL14) rfl (by unfold ZL14; go_simp) ?_
            refine wpList_store_all rfl 29 _ _ rfl w.heap.size (T := 29) ZL14.toList (by go_simp) (by go_simp) HRS.out rfl (by kernel_rfl) (by decide) ?_
            intro w8 hw8
            have HW8 := Lib.hid hw8.there
            have HB8 := Lib.hid (hw8.below HBE.out (Nat.le_refl _))
            clear hw8
            go_wp2_with fail
            exact bodyPost_ret (results_all2 ZL14.toList _ Tryz.results5 (by go_simp) HW8.out Tryz.underlying29 rfl (by kernel_rfl)) rfl (HNO.out HOF.out _ _ rfl HB8.out)
          have d3 : decide (a7 < 0) = false := decide_eq_false h3
          by_cases h4 : a7 > 1125899906842624
          case pos =>
            have d4 : decide (a7 > 1125899906842624) = true := decide_eq_true h4
            have e4 : decide (1125899906842624 < a7) = true := decide_eq_true h4
            have HD2 := Lib.hid h4
            clear h0 h1 h2 h3 h4
            have HRS := Lib.hid (HR9.out.lp.base.res)
            have HBE := Lib.hid (HR9.out.lp.base.bel)
            have HOF := Lib.hid (HBAD.out (by rw [HOW.out, decide_eq_false (show ¬ (0 ≤ a7 ∧ a7 ≤ 1125899906842624) by have := HD2.out; omega), Bool.and_false, Bool.false_and]))
            go_upto_region 18 with fail
            refine wp_region_lit ?_
            refine wpList_yield (w' := Z4) (v := .agg ZL14) rfl (by unfold ZL14; go_simp) ?_
            refine wpList_store_all rfl 29 _ _ rfl w.heap.size (T := 29) ZL14.toList (by go_simp) (by go_simp) HRS.out rfl (by kernel_rfl) (by decide) ?_
            intro w8 hw8
            have HW8 := Lib.hid hw8.there
            have HB8 := Lib.hid (hw8.below HBE.out (Nat.le_refl _))
            clear hw8
            go_wp2_with fail
            exact bodyPost_ret (results_all2 ZL14.toList _ Tryz.results5 (by go_simp) HW8.out Tryz.underlying29 rfl (by kernel_rfl)) rfl (HNO.out HOF.out _ _ rfl HB8.out)
          have d4 : decide (a7 > 1125899906842624) = false := decide_eq_false h4
          have e4 : decide (1125899906842624 < a7) = false := decide_eq_false h4
          by_cases h5 : a8 < 0
          case pos =>
            have d5 : decide (a8 < 0) = true := decide_eq_true h5
            have HD2 := Lib.hid h5
            clear h0 h1 h2 h3 h4 h5
            have HRS := Lib.hid (HR9.out.lp.base.res)
            have HBE := Lib.hid (HR9.out.lp.base.bel)
            have HOF := Lib.hid (HBAD.out (by rw [HOW.out, decide_eq_false (show ¬ (0 ≤ a8 ∧ a8 ≤ 1099511627776) by have := HD2.out; omega), Bool.and_false]))
            go_upto_region 18 with fail
            refine wp_region_lit ?_
            refine wpList_yield (w' := Z4) (v := .agg ZL14) rfl (by unfold ZL14; go_simp) ?_
            refine wpList_store_all rfl 29 _ _ rfl w.heap.size (T := 29) ZL14.toList (by go_simp) (by go_simp) HRS.out rfl (by kernel_rfl) (by decide) ?_
            intro w8 hw8
            have HW8 := Lib.hid hw8.there
            have HB8 := Lib.hid (hw8.below HBE.out (Nat.le_refl _))
            clear hw8
            go_wp2_with fail
            exact bodyPost_ret (results_all2 ZL14.toList _ Tryz.results5 (by go_simp) HW8.out Tryz.underlying29 rfl (by kernel_rfl)) rfl (HNO.out HOF.out _ _ rfl HB8.out)
          have d5 : decide (a8 < 0) = false := decide_eq_false h5
          by_cases h6 : a8 > 1099511627776
          case pos =>
            have d6 : decide (a8 > 1099511627776) = true := decide_eq_true h6
            have e6 : decide (1099511627776 < a8) = true := decide_eq_true h6
            have HD2 := Lib.hid h6
            clear h0 h1 h2 h3 h4 h5 h6
            have HRS := Lib.hid (HR9.out.lp.base.res)
            have HBE := Lib.hid (HR9.out.lp.base.bel)
            have HOF := Lib.hid (HBAD.out (by rw [HOW.out, decide_eq_false (show ¬ (0 ≤ a8 ∧ a8 ≤ 1099511627776) by have := HD2.out; omega), Bool.and_false]))
            go_upto_region 18 with fail
            refine wp_region_lit ?_
            refine wpList_yield (w' := Z4) (v := .agg ZL14) rfl (by unfold ZL14; go_simp) ?_
            refine wpList_store_all rfl 29 _ _ rfl w.heap.size (T := 29) ZL14.toList (by go_simp) (by go_simp) HRS.out rfl (by kernel_rfl) (by decide) ?_
            intro w8 hw8
            have HW8 := Lib.hid hw8.there
            have HB8 := Lib.hid (hw8.below HBE.out (Nat.le_refl _))
            clear hw8
            go_wp2_with fail
            exact bodyPost_ret (results_all2 ZL14.toList _ Tryz.results5 (by go_simp) HW8.out Tryz.underlying29 rfl (by kernel_rfl)) rfl (HNO.out HOF.out _ _ rfl HB8.out)
          have d6 : decide (a8 > 1099511627776) = false := decide_eq_false h6
          have e6 : decide (1099511627776 < a8) = false := decide_eq_false h6
          have HOK := Lib.hid (show okW la [a0, a1, a2, a3, a4, a5, a6, a7, a8] = true from by rw [HOW.out, decide_eq_true (show la < a0 by omega), decide_eq_true (show 0 ≤ a6 ∧ a6 ≤ 1125899906842624 by omega), decide_eq_true (show 0 ≤ a7 ∧ a7 ≤ 1125899906842624 by omega), decide_eq_true (show 0 ≤ a8 ∧ a8 ≤ 1099511627776 by omega)]; rfl)
          clear h0 h1 h2 h3 h4 h5 h6 HBAD HOW
          go_upto_region 20 with fail
          clear x0 x6 x7 x8 d0 d1 d2 d3 d4 d5 d6 e2 e4 e6
          have q1 : Z4.cell? ⟨Q, 1, none⟩ = some (.slice aL k cL) := cell_of_block (o := 1) HR9.out.lp.blk rfl
          refine wp_region_lit ?_
          refine wpList_yield (w' := Z4) (v := .pointer (some ⟨Q, 1, none⟩)) rfl (by go_simp) ?_
          refine wpList_yield (w' := Z4) (v := .slice aL k cL) rfl (by go_simp) ?_
          refine wpList_load_all rfl 61 _ rfl A [.int .i64 a0, .int .i64 a1, .int .i64 a2, .int .i64 a3, .int .i64 a4, .int .i64 a5, .int .i64 a6, .int .i64 a7, .int .i64 a8] _ (by go_simp) HAB.out Tryz.underlying61 rfl (linInfoD (l := [a0, a1, a2, a3, a4, a5, a6, a7, a8]) rfl) ?_
          refine wpList_yield (w' := Z4.alloc (.cells #[.int .i64 a0, .int .i64 a1, .int .i64 a2, .int .i64 a3, .int .i64 a4, .int .i64 a5, .int .i64 a6, .int .i64 a7, .int .i64 a8] 61)) (v := .slice (some ⟨Z4.heap.size, 0, none⟩) 1 1) rfl (by go_simp) ?_
          obtain ⟨aa2, cc2, Wb, g0, g1, g2⟩ := HR9.out.lp.step (by rw [HML.out]; have := HLT.out; have := HNB.out; omega) (x := [a0, a1, a2, a3, a4, a5, a6, a7, a8]) rfl 27
          rw [HML.out] at g0 g2
          refine wpList_yield (w' := Wb) (v := .slice aa2 (k + 1) cc2) rfl (Ap.exec_app rfl (by go_simp) (by go_simp) g0) ?_
          have e0 : Wb.cell? ⟨Q, 1, none⟩ = some (.slice aL k cL) := cell_of_block (o := 1) g1 rfl
          have f0 := free_of_block 1 g1
          have HREL := Lib.hid (show ∃ (k' : Nat) (st : CS) (M' : List LV) (v : Value), k' ≤ N ∧ M'.length = k' ∧ Value.int .i64 ((k : Int) + 1) = .int .i64 k' ∧ Value.int .i64 a0 = .int .i64 (lastB M') ∧ GoodB st ∧ dB N s2 [] = dB (N - k') st M' ∧ Lp14 w (Wb.setCell ⟨Q, 1, none⟩ (.slice aa2 (k + 1) cc2)) C Q st hf M' v from
            ⟨k + 1, s9, M ++ [[a0, a1, a2, a3, a4, a5, a6, a7, a8]], _, by have := HLT.out; omega, by rw [List.length_append, HML.out]; rfl, by simp, by rw [last_app]; rfl, HG9.out, by rw [HDB2.out, HOK.out, ← HQ.out]; rfl, g2⟩)
          clear g0 g1 g2 q1 HR9 HAB HDB2 HOK HQ HG9
          have HLT2 := Lib.hid HLT.out
          go_wp2_with fail
          clear e0 f0
          go_roundw
          case rel => exact HREL.out
          case measure => have := HLT2.out; simp [intOf]; omega
    case neg =>
      obtain rfl : k = N := by omega
      have hd : decide (k < k) = false := decide_eq_false (by omega)
      have hd2 : decide ((k : Int) < (k : Int)) = false := decide_eq_false (by omega)
      have HLP := Lib.hid hlp
      have HOD := Lib.hid (show okD bs = if endF st = 0 ∧ 1 ≤ hf ∧ hf ≤ 1099511627776 then some (hf, M) else none from HDE.out st M (by rw [HDB.out, Nat.sub_self]; rfl))
      have KE := Lib.hid (rend_any st)
      have c0 := HLP.out.base.k0
      have c1 := HLP.out.base.k1
      clear hlp hlt hk HL0 HDB
      obtain ⟨tj, htj⟩ : ∃ x, x = strOfNums st.xs := ⟨_, rfl⟩
      obtain ⟨bj, hbj⟩ : ∃ x, x = st.bad := ⟨_, rfl⟩
      rw [← htj, ← hbj] at KE
      rw [← htj] at c0
      rw [← hbj] at c1
      clear htj hbj
      generalize hef : endF st = ef at *
      clear hef
      go_wp2_with fail
      refine (KE.out _).mono ?_
      rintro e Z1 ⟨rfl, hb⟩
      have HL6 := Lib.hid (HLP.out.below hb)
      clear hb c0 c1 KE HLP hd hd2
      by_cases he0 : ef = 0
      case neg =>
        have d1 : (ef != 0) = true := by simpa using he0
        have d2 : (ef == 0) = false := by simpa using he0
        have HD2 := Lib.hid he0
        clear he0
        have HRS := Lib.hid (HL6.out.base.res)
        have HBE := Lib.hid (HL6.out.base.bel)
        have HOF := Lib.hid (show okD bs = none from by rw [HOD.out, if_neg (by have := HD2.out; omega)])
        go_upto_region 22 with fail
        refine wp_region_lit ?_
        refine wpList_yield (w' := Z1) (v := .agg ZL14) rfl (by unfold ZL14; go_simp) ?_
        refine wpList_store_all rfl 29 _ _ rfl w.heap.size (T := 29) ZL14.toList (by go_simp) (by go_simp) HRS.out rfl (by kernel_rfl) (by decide) ?_
        intro w8 hw8
        have HW8 := Lib.hid hw8.there
        have HB8 := Lib.hid (hw8.below HBE.out (Nat.le_refl _))
        clear hw8
        go_wp2_with fail
        exact bodyPost_ret (results_all2 ZL14.toList _ Tryz.results5 (by go_simp) HW8.out Tryz.underlying29 rfl (by kernel_rfl)) rfl (HNO.out HOF.out _ _ rfl HB8.out)
      subst he0
      by_cases h1 : hf < 1
      case pos =>
        have d1 : decide (hf < 1) = true := decide_eq_true h1
        have HD2 := Lib.hid h1
        clear h1
        have HRS := Lib.hid (HL6.out.base.res)
        have HBE := Lib.hid (HL6.out.base.bel)
        have HOF := Lib.hid (show okD bs = none from by rw [HOD.out, if_neg (by have := HD2.out; omega)])
        go_upto_region 22 with fail
        refine wp_region_lit ?_
        refine wpList_yield (w' := Z1) (v := .agg ZL14) rfl (by unfold ZL14; go_simp) ?_
        refine wpList_store_all rfl 29 _ _ rfl w.heap.size (T := 29) ZL14.toList (by go_simp) (by go_simp) HRS.out rfl (by kernel_rfl) (by decide) ?_
        intro w8 hw8
        have HW8 := Lib.hid hw8.there
        have HB8 := Lib.hid (hw8.below HBE.out (Nat.le_refl _))
        clear hw8
        go_wp2_with fail
        exact bodyPost_ret (results_all2 ZL14.toList _ Tryz.results5 (by go_simp) HW8.out Tryz.underlying29 rfl (by kernel_rfl)) rfl (HNO.out HOF.out _ _ rfl HB8.out)
      have d1 : decide (hf < 1) = false := decide_eq_false h1
      by_cases h2 : hf > 1099511627776
      case pos =>
        have d2 : decide (hf > 1099511627776) = true := decide_eq_true h2
        have d3 : decide (1099511627776 < hf) = true := decide_eq_true h2
        have HD2 := Lib.hid h2
        clear h1 h2
        have HRS := Lib.hid (HL6.out.base.res)
        have HBE := Lib.hid (HL6.out.base.bel)
        have HOF := Lib.hid (show okD bs = none from by rw [HOD.out, if_neg (by have := HD2.out; omega)])
        go_upto_region 22 with fail
        refine wp_region_lit ?_
        refine wpList_yield (w' := Z1) (v := .agg ZL14) rfl (by unfold ZL14; go_simp) ?_
        refine wpList_store_all rfl 29 _ _ rfl w.heap.size (T := 29) ZL14.toList (by go_simp) (by go_simp) HRS.out rfl (by kernel_rfl) (by decide) ?_
        intro w8 hw8
        have HW8 := Lib.hid hw8.there
        have HB8 := Lib.hid (hw8.below HBE.out (Nat.le_refl _))
        clear hw8
        go_wp2_with fail
        exact bodyPost_ret (results_all2 ZL14.toList _ Tryz.results5 (by go_simp) HW8.out Tryz.underlying29 rfl (by kernel_rfl)) rfl (HNO.out HOF.out _ _ rfl HB8.out)
      have d2 : decide (hf > 1099511627776) = false := decide_eq_false h2
      have d3 : decide (1099511627776 < hf) = false := decide_eq_false h2
      have HOD2 := Lib.hid (show okD bs = some (hf, M) from by rw [HOD.out, if_pos ⟨rfl, by omega, by omega⟩])
      clear h1 h2
      go_upto_region 23 with fail
      refine wp_region_lit ?_
      refine wpList_load_all rfl 29 _ rfl Q [.int .i64 hf, .slice aL k cL] _ (by go_simp) HL6.out.blk Tryz.underlying29 rfl (by kernel_rfl) ?_
      refine wpList_store_all rfl 29 _ _ rfl w.heap.size (T := 29) [.int .i64 hf, .slice aL k cL] (by go_simp) (by go_simp) HL6.out.base.res rfl (by kernel_rfl) rfl ?_
      intro w8 hw8
      have HW8 := Lib.hid hw8.there
      have HB8 := Lib.hid (hw8.below HL6.out.base.bel (Nat.le_refl _))
      have HRW := Lib.hid (show w8.ownsRow w.heap.size 61 9 (.slice aL k cL) M.length (vL M.flatten) from by
        have h0 := HL6.out.base.c0
        have h1 := HL6.out.cq
        have hk := Ap.own_keep HL6.out.row fun g hg => hw8.rest g (by have := Ap.own_blk HL6.out.row g hg; omega)
        exact ownsRow_base_a hk (by omega))
      clear hw8
      go_wp2_with fail
      exact bodyPost_ret (results_all2 [.int .i64 hf, .slice aL k cL] _ Tryz.results5 (by go_simp) HW8.out Tryz.underlying29 rfl (by kernel_rfl)) rfl (HYES.out hf M (.slice aL k cL) _ _ HOD2.out (by first | rfl | (go_simp; done)) HRW.out HB8.out)
end Go.Proofs.YthflogeaielhlaaGreatDoor
namespace Go.Proofs.YthflogeaielhlaaGreatDoor
set_option linter.unusedVariables false
open Go.ChangeShapes Go.WideShapes Go.ChangeAt Go.RowKit Bk
attribute [local go_sem ↓] Go.wp_at_zero Go.wp_at_succ comesTo_value_eq comesTo_skip_eq comesTo_enter_eq Rl.comesToR_value_eq Rl.comesToR_skip_eq Rl.comesToR_enter_eq

/-- the cells of a row of lines -/
def Row9 (w : World) (g : Nat) (L : List LV) : Prop := ∀ k, k < L.length → ∀ i, i < 9 → w.cell? ⟨g, k * 9 + i, none⟩ = some (.int .i64 ((L.getD k zL).getD i 0))
theorem Row9.mono {w w' : World} {g : Nat} {L : List LV} (h : Row9 w g L) (hb : w'.heap[g]? = w.heap[g]?) : Row9 w' g L := fun k hk i hi => by
  rw [← h k hk i hi]
  unfold World.cell?
  rw [hb]
theorem flat_get : ∀ (L : List LV) (k : Nat), (∀ l ∈ L, l.length = 9) → k < L.length → ∀ i, i < 9 → L.flatten[k * 9 + i]? = some ((L.getD k zL).getD i 0)
  | [], k, _, h, _, _ => by simp at h
  | l :: L, 0, hl, _, i, hi => by
    have h9 := hl l List.mem_cons_self
    simp only [List.flatten_cons, Nat.zero_mul, Nat.zero_add]
    rw [List.getElem?_append_left (by omega), List.getElem?_eq_getElem (by omega)]
    simp [List.getD, List.getElem?_eq_getElem (show i < l.length by omega)]
  | l :: L, k + 1, hl, hk, i, hi => by
    have h9 := hl l List.mem_cons_self
    have ih := flat_get L k (fun x hx => hl x (List.mem_cons_of_mem _ hx)) (by simpa using hk) i hi
    simp only [List.flatten_cons]
    rw [List.getElem?_append_right (by omega), show (k + 1) * 9 + i - l.length = k * 9 + i by omega, ih]
    simp [List.getD]
theorem own_row9 {w : World} {B : Nat} {T : TypeId} {v : Value} {L : List LV} (h : w.ownsRow B T 9 v L.length (vL L.flatten)) (hl : ∀ l ∈ L, l.length = 9) : ∃ ad c, v = .slice ad L.length c ∧ (0 < L.length → ∃ g, ad = some ⟨g, 0, none⟩ ∧ B ≤ g ∧ g < w.heap.size ∧ Row9 w g L) := by
  rcases h.2 with ⟨rfl, h1⟩ | ⟨g, cap, cur, hv, hB, hg, hc, _, hcs, ht⟩
  · exact ⟨none, 0, by rw [h1], fun hp => by omega⟩
  · refine ⟨some ⟨g, 0, none⟩, cap, hv, fun _ => ⟨g, rfl, hB, (Array.getElem?_eq_some_iff.1 hg).1, fun k hk i hi => ?_⟩⟩
    have hf := flat_get L k hl hk i hi
    refine cell_of_block hg ?_
    have hx : (vL L.flatten)[k * 9 + i]? = some (.int .i64 ((L.getD k zL).getD i 0)) := by unfold vL; rw [List.getElem?_map, hf]; rfl
    rw [← ht, List.getElem?_take, if_pos (by have := Nat.mul_le_mul_right 9 (show k + 1 ≤ L.length by omega); omega)] at hx
    simpa using hx
theorem nine_cells {w : World} {g k : Nat} {L : List LV} (h : Row9 w g L) (hk : k < L.length) {a0 a1 a2 a3 a4 a5 a6 a7 a8 : Int} (e : L.getD k zL = [a0, a1, a2, a3, a4, a5, a6, a7, a8]) :
    w.cell? ⟨g, k * 9, none⟩ = some (.int .i64 a0) ∧ w.cell? ⟨g, k * 9 + 1, none⟩ = some (.int .i64 a1) ∧ w.cell? ⟨g, k * 9 + 2, none⟩ = some (.int .i64 a2) ∧ w.cell? ⟨g, k * 9 + 3, none⟩ = some (.int .i64 a3) ∧ w.cell? ⟨g, k * 9 + 4, none⟩ = some (.int .i64 a4) ∧ w.cell? ⟨g, k * 9 + 5, none⟩ = some (.int .i64 a5) ∧ w.cell? ⟨g, k * 9 + 6, none⟩ = some (.int .i64 a6) ∧ w.cell? ⟨g, k * 9 + 7, none⟩ = some (.int .i64 a7) ∧ w.cell? ⟨g, k * 9 + 8, none⟩ = some (.int .i64 a8) := by
  have h' := h k hk
  rw [e] at h'
  exact ⟨h' 0 (by decide), h' 1 (by decide), h' 2 (by decide), h' 3 (by decide), h' 4 (by decide), h' 5 (by decide), h' 6 (by decide), h' 7 (by decide), h' 8 (by decide)⟩
theorem take_getD (l : List Int) {j : Nat} (h : j < l.length) : l.take (j + 1) = l.take j ++ [l.getD j 0] := by
  rw [List.take_succ_eq_append_getElem h, List.getD_eq_getElem?_getD, List.getElem?_eq_getElem h]; rfl
set_option maxRecDepth 100000 in
set_option maxHeartbeats 8000000 in
theorem rput14_any {w : World} {ad : Option Addr} {c : Nat} {L : List LV} (hrow : 0 < L.length → ∃ g, ad = some ⟨g, 0, none⟩ ∧ g < w.heap.size ∧ Row9 w g L) (hl9 : ∀ l ∈ L, l.length = 9) (hlen : L.length ≤ 16) (hx : ∀ l ∈ L, ∀ x ∈ l, i64B x) {h : Int} (hh : i64B h) :
    Calls Tryz.prog 20 #[.agg #[.int .i64 h, .slice ad L.length c]] w fun e w' => e = .returned (.string (strOfNums (bytesB h L))) ∧ Below w.heap.size w w' := by
  have hmx : Tryz.prog.follows .mixedOrders = true := by kernel_rfl
  obtain ⟨len, hln⟩ : ∃ x, x = L.length := ⟨_, rfl⟩
  have HLEN := Lib.hid hln
  have H4 := Lib.hid hrow
  have HL9 := Lib.hid hl9
  have HX := Lib.hid hx
  have HL := Lib.hid hlen
  rw [← hln] at H4 HL ⊢
  have HB0 := Lib.hid (below_alloc (Below.refl _ w) (.cells #[.int .i64 h, .slice ad len c] 29))
  have HC := Lib.hid (World.alloc_heap_new w (.cells #[.int .i64 h, .slice ad len c] 29))
  have HP1 := Lib.hid (putI_le hh)
  have HP2 := Lib.hid (putI_le (show i64B (len : Int) from by have := HL.out; unfold i64B; omega))
  obtain ⟨x1, hx1⟩ : ∃ x, x = [] ++ putI h := ⟨_, rfl⟩
  obtain ⟨pre, hpre⟩ : ∃ x, x = x1 ++ putI (len : Int) := ⟨_, rfl⟩
  have HX1L := Lib.hid (show x1.length ≤ 10 from by rw [hx1, List.nil_append]; exact HP1.out)
  have HPL := Lib.hid (show pre.length ≤ 20 from by rw [hpre, List.length_append]; have := HX1L.out; have := HP2.out; omega)
  have K1 := Lib.hid (fun X => by rw [hx1]; exact rputint_any [] (by decide) (n := h) hh X : ∀ X, Calls Tryz.prog 38 #[.string (strOfNums []), .int .i64 h] X fun e w' => e = .returned (.string (strOfNums x1)) ∧ Below X.heap.size X w')
  have K2 := Lib.hid (fun X => by rw [hpre]; exact rputint_any x1 (by have := HX1L.out; omega) (n := (len : Int)) (by have := HL.out; omega) X : ∀ X, Calls Tryz.prog 38 #[.string (strOfNums x1), .int .i64 (len : Int)] X fun e w' => e = .returned (.string (strOfNums pre)) ∧ Below X.heap.size X w')
  have HBY := Lib.hid (show bytesB h L = pre ++ putsB L.flatten from by rw [hpre, hx1]; unfold bytesB; rw [HLEN.out]; simp only [List.append_assoc, List.nil_append])
  clear hx1 hpre hrow hl9 hlen hx hh hln
  obtain ⟨res, hres⟩ : ∃ r, r = strOfNums (bytesB h L) := ⟨_, rfl⟩
  rw [← hres]
  have HRES := Lib.hid hres
  clear hres
  go_enter Tryz.func20, Tryz.ntmps20
  go_upto_region 1 with fail
  generalize w.alloc (.cells #[.int .i64 h, .slice ad len c] 29) = W1 at *
  have QF := Lib.hid (fun (X : World) (hX : Below W1.heap.size W1 X) => (hX.block _ (Array.getElem?_eq_some_iff.1 HC.out).1).trans HC.out)
  have q0 := Lib.hid (fun X hX => cell_of_block (o := 0) (QF.out X hX) rfl)
  have q1 := Lib.hid (fun X hX => cell_of_block (o := 1) (QF.out X hX) rfl)
  refine Rl.wp_region_rel (fun a b => Below a.heap.size a b) W1 (fun a b c h h' => below_next h h') (fun a => Below.refl _ _) hmx (by kernel_rfl) (Below.refl _ _).drew ?_
  (refine Rl.textR_run ?_ (fun ρ => ?_) (fun ρ W hS hd => ?_) ?_; rotate_left; (focus go_simp); (focus (obtain ⟨hc, hf⟩ := bcell hS; go_simp; first | exact ⟨rfl, Below.refl _ _⟩ | (refine ⟨?_, Below.refl _ _⟩; rfl))); (try go_simp))
  (refine Rl.textR_run ?_ (fun ρ => ?_) (fun ρ W hS hd => ?_) ?_; rotate_left; (focus go_simp); (focus (have hfact := q0.out W hS; go_simp; first | exact ⟨rfl, Below.refl _ _⟩ | (refine ⟨?_, Below.refl _ _⟩; rfl))); (try go_simp))
  (refine Rl.textR_run ?_ (fun ρ => ?_) (fun ρ W hS hd => ?_) ?_; rotate_left; (focus go_simp); (focus (obtain ⟨hc, hf⟩ := bcell hS; go_simp; refine (K1.out W).mono ?_; rintro e w1 ⟨rfl, hb⟩; refine ⟨_, rfl, ?_, hb⟩; rfl)); (try go_simp))
  (refine Rl.textR_run ?_ (fun ρ => ?_) (fun ρ W hS hd => ?_) ?_; rotate_left; (focus go_simp); (focus (obtain ⟨hc, hf⟩ := bcell hS; go_simp; first | exact ⟨rfl, Below.refl _ _⟩ | (refine ⟨?_, Below.refl _ _⟩; rfl))); (try go_simp))
  (refine Rl.textR_run ?_ (fun ρ => ?_) (fun ρ W hS hd => ?_) ?_; rotate_left; (focus go_simp); (focus (have hfact := q1.out W hS; go_simp; first | exact ⟨rfl, Below.refl _ _⟩ | (refine ⟨?_, Below.refl _ _⟩; rfl))); (try go_simp))
  (refine Rl.textR_run ?_ (fun ρ => ?_) (fun ρ W hS hd => ?_) ?_; rotate_left; (focus go_simp); (focus (obtain ⟨hc, hf⟩ := bcell hS; go_simp; first | exact ⟨rfl, Below.refl _ _⟩ | (refine ⟨?_, Below.refl _ _⟩; rfl))); (try go_simp))
  (refine Rl.textR_run ?_ (fun ρ => ?_) (fun ρ W hS hd => ?_) ?_; rotate_left; (focus go_simp); (focus (obtain ⟨hc, hf⟩ := bcell hS; go_simp; refine (K2.out W).mono ?_; rintro e w1 ⟨rfl, hb⟩; refine ⟨_, rfl, ?_, hb⟩; rfl)); (try go_simp))
  (refine Rl.textR_run ?_ (fun ρ => ?_) (fun ρ W hS hd => ?_) ?_; rotate_left; (focus go_simp); (focus (obtain ⟨hc, hf⟩ := bcell hS; go_simp; first | exact ⟨rfl, Below.refl _ _⟩ | (refine ⟨?_, Below.refl _ _⟩; rfl))); (try go_simp))
  refine Rl.textR_nil ?_
  intro ρ W2 hg hk
  dsimp only
  have HB2 := Lib.hid (below_next HB0.out hg)
  have HC2 := Lib.hid (QF.out W2 hg)
  clear hg hk QF q0 q1 K1 K2 HB0 HC
  go_simp
  by_cases h0 : 0 < len
  case neg =>
    obtain rfl : len = 0 := by omega
    have hln : L = [] := List.eq_nil_of_length_eq_zero HLEN.out.symm
    have HE := Lib.hid (show res = strOfNums pre from by rw [HRES.out, HBY.out, hln]; show strOfNums (pre ++ []) = _; rw [List.append_nil])
    clear hln h0
    have q1 : W2.cell? ⟨w.heap.size, 1, none⟩ = some (.slice ad 0 c) := cell_of_block (o := 1) HC2.out rfl
    go_wp2_with fail
    go_loopw [3, 4] (fun s i wr => s = .string (strOfNums pre) ∧ i = .int .i64 0 ∧ wr = W2) (fun _ _ _ => 0)
    case atStart => exact ⟨rfl, rfl, rfl⟩
    case round =>
      obtain ⟨rfl, rfl, rfl⟩ := hrel
      have hd : decide ((0 : Int) < 0) = false := by decide
      go_wp2_with fail
      go_ret
      exact ⟨by rw [HE.out]; first | done | rfl, HB2.out⟩
  case pos =>
  obtain ⟨g, rfl, hg, hrow⟩ := H4.out h0
  have HG := Lib.hid hg
  have HROW := Lib.hid (fun (X : World) (hX : X.heap[g]? = w.heap[g]?) => hrow.mono hX)
  clear hg hrow H4
  go_wp2_with fail
  go_loopw [3, 4] (fun s i wr => ∃ k : Nat, k ≤ len ∧ s = .string (strOfNums (pre ++ putsB (L.take k).flatten)) ∧ i = .int .i64 k ∧ Below W2.heap.size W2 wr) (fun _ i _ => len - (intOf i).toNat)
  case atStart => exact ⟨0, Nat.zero_le _, by rw [List.take_zero]; show _ = Value.string (strOfNums (pre ++ [])); rw [List.append_nil], rfl, Below.refl _ _⟩
  case round =>
    obtain ⟨k, hk, rfl, rfl, hb⟩ := hrel
    have HBW := Lib.hid hb
    have HBK := Lib.hid (below_next HB2.out hb)
    have HCK := Lib.hid ((hb.block _ (Array.getElem?_eq_some_iff.1 HC2.out).1).trans HC2.out)
    clear hb
    have q1 : wr.cell? ⟨w.heap.size, 1, none⟩ = some (.slice (some ⟨g, 0, none⟩) len c) := cell_of_block (o := 1) HCK.out rfl
    by_cases hlt : k < len
    case pos =>
      have hd : decide (k < len) = true := decide_eq_true hlt
      have hd2 : decide ((k : Int) < (len : Int)) = true := decide_eq_true (by omega)
      have hkl : (k : Int) < (len : Int) := by omega
      have hw1 : IntKind.i64.wrap ((k : Int) + 1) = (k : Int) + 1 := by have := HL.out; rw [IntKind.wrap_i64]; omega
      have HK := Lib.hid hlt
      have hkL : k < L.length := by rw [← HLEN.out]; exact hlt
      have hmem : L.getD k zL ∈ L := by simp only [List.getD, List.getElem?_eq_getElem hkL, Option.getD_some]; exact List.getElem_mem hkL
      obtain ⟨a0, a1, a2, a3, a4, a5, a6, a7, a8, e9⟩ := nine (HL9.out _ hmem)
      obtain ⟨y0, y1, y2, y3, y4, y5, y6, y7, y8⟩ := nine_cells (HROW.out wr (HBK.out.block g HG.out)) hkL e9
      have HI := Lib.hid (fun x hx => HX.out _ hmem x hx)
      rw [e9] at HI
      have HTK := Lib.hid (show putsB (L.take (k + 1)).flatten = putsB (L.take k).flatten ++ putsB [a0, a1, a2, a3, a4, a5, a6, a7, a8] from by rw [take_flat hkL, putsB_app, e9])
      obtain ⟨zs, hzs⟩ : ∃ zs, zs = pre ++ putsB (L.take k).flatten := ⟨_, rfl⟩
      have HZL := Lib.hid (show zs.length ≤ 5000 from by
        have h1 := putsB_len (L.take k).flatten (fun x hx => by
          obtain ⟨l, hl, hxl⟩ := List.mem_flatten.1 hx
          exact HX.out l (List.mem_of_mem_take hl) x hxl)
        have h2 := flat9 (L := L.take k) (fun l hl => HL9.out l (List.mem_of_mem_take hl))
        rw [List.length_take] at h2
        rw [hzs, List.length_append]
        have := HPL.out
        have := HL.out
        omega)
      have HZN := Lib.hid (show pre ++ putsB (L.take (k + 1)).flatten = zs ++ putsB [a0, a1, a2, a3, a4, a5, a6, a7, a8] from by rw [HTK.out, hzs, List.append_assoc])
      rw [← hzs]
      clear hzs hkL hk hmem e9 HTK
      have i0 := HI.out a0 (by simp)
      have i6 := HI.out a6 (by simp)
      have i7 := HI.out a7 (by simp)
      have i8 := HI.out a8 (by simp)
      have l0 := putI_le i0
      have l6 := putI_le i6
      have l7 := putI_le i7
      obtain ⟨z1, h1⟩ : ∃ x, x = zs ++ putI a0 := ⟨_, rfl⟩
      obtain ⟨z6, h6⟩ : ∃ x, x = z1 ++ putsB [a1, a2, a3, a4, a5] := ⟨_, rfl⟩
      obtain ⟨z7, h7⟩ : ∃ x, x = z6 ++ putI a6 := ⟨_, rfl⟩
      obtain ⟨z8, h8⟩ : ∃ x, x = z7 ++ putI a7 := ⟨_, rfl⟩
      obtain ⟨z9, h9⟩ : ∃ x, x = z8 ++ putI a8 := ⟨_, rfl⟩
      have e1 : z1.length ≤ 5010 := by rw [h1, List.length_append]; have := HZL.out; omega
      have l5 := putsB_len [a1, a2, a3, a4, a5] (fun x hx => HI.out x (by simp only [List.mem_cons, List.not_mem_nil, or_false] at hx ⊢; omega))
      have e6 : z6.length ≤ 5100 := by rw [h6, List.length_append]; simp only [List.length_cons, List.length_nil] at l5; omega
      have e7 : z7.length ≤ 5200 := by rw [h7, List.length_append]; omega
      have e8 : z8.length ≤ 5300 := by rw [h8, List.length_append]; omega
      have HZ9 := Lib.hid (show zs ++ putsB [a0, a1, a2, a3, a4, a5, a6, a7, a8] = z9 from by rw [h9, h8, h7, h6, h1]; simp [putsB])
      have HZ6 := Lib.hid h6
      have HE1 := Lib.hid e1
      have K1 := Lib.hid (fun X => by rw [h1]; exact rputint_any zs (by have := HZL.out; omega) (n := a0) i0 X : ∀ X, Calls Tryz.prog 38 #[.string (strOfNums zs), .int .i64 a0] X fun e w' => e = .returned (.string (strOfNums z1)) ∧ Below X.heap.size X w')
      have K6 := Lib.hid (fun X => by rw [h7]; exact rputint_any z6 (by omega) (n := a6) i6 X : ∀ X, Calls Tryz.prog 38 #[.string (strOfNums z6), .int .i64 a6] X fun e w' => e = .returned (.string (strOfNums z7)) ∧ Below X.heap.size X w')
      have K7 := Lib.hid (fun X => by rw [h8]; exact rputint_any z7 (by omega) (n := a7) i7 X : ∀ X, Calls Tryz.prog 38 #[.string (strOfNums z7), .int .i64 a7] X fun e w' => e = .returned (.string (strOfNums z8)) ∧ Below X.heap.size X w')
      have K8 := Lib.hid (fun X => by rw [h9]; exact rputint_any z8 (by omega) (n := a8) i8 X : ∀ X, Calls Tryz.prog 38 #[.string (strOfNums z8), .int .i64 a8] X fun e w' => e = .returned (.string (strOfNums z9)) ∧ Below X.heap.size X w')
      clear i0 i6 i7 i8 l0 l5 l6 l7 h1 h6 h7 h8 h9 e1 e6 e7 e8
      have ba := below_alloc (Below.refl _ wr) (.cells #[.int .i64 a0, .int .i64 a1, .int .i64 a2, .int .i64 a3, .int .i64 a4, .int .i64 a5, .int .i64 a6, .int .i64 a7, .int .i64 a8] 61)
      have HT := Lib.hid (World.alloc_heap_new wr (.cells #[.int .i64 a0, .int .i64 a1, .int .i64 a2, .int .i64 a3, .int .i64 a4, .int .i64 a5, .int .i64 a6, .int .i64 a7, .int .i64 a8] 61))
      have HBA := Lib.hid (below_next HBW.out ba)
      clear ba
      go_upto_region 6 with fail
      clear y0 y1 y2 y3 y4 y5 y6 y7 y8 q1
      generalize wr.alloc (.cells #[.int .i64 a0, .int .i64 a1, .int .i64 a2, .int .i64 a3, .int .i64 a4, .int .i64 a5, .int .i64 a6, .int .i64 a7, .int .i64 a8] 61) = Z at *
      generalize wr.heap.size = T at *
      have c0 : Z.cell? ⟨T, 0, none⟩ = some (.int .i64 a0) := cell_of_block (o := 0) HT.out rfl
      go_wp2_with fail
      refine (K1.out _).mono ?_
      rintro e Z1 ⟨rfl, hb⟩
      have HT1 := Lib.hid ((hb.block _ (Array.getElem?_eq_some_iff.1 HT.out).1).trans HT.out)
      have HB1 := Lib.hid (below_next HBA.out hb)
      clear hb c0 K1 HT HBA
      go_wp2_with fail
      go_loopw [3, 6] (fun s i wj => ∃ j : Nat, j ≤ 5 ∧ s = .string (strOfNums (z1 ++ putsB ([a1, a2, a3, a4, a5].take j))) ∧ i = .int .i64 j ∧ Below Z1.heap.size Z1 wj) (fun _ i _ => 5 - (intOf i).toNat)
      case atStart => exact ⟨0, Nat.zero_le _, by rw [List.take_zero]; show _ = Value.string (strOfNums (z1 ++ [])); rw [List.append_nil], rfl, Below.refl _ _⟩
      case round =>
        obtain ⟨j, hj, rfl, rfl, hbj⟩ := hrel
        have HBJ := Lib.hid hbj
        have HTJ := Lib.hid ((hbj.block _ (Array.getElem?_eq_some_iff.1 HT1.out).1).trans HT1.out)
        clear hbj
        by_cases hj5 : j < 5
        case pos =>
          have hd3 : decide ((j : Int) < 5) = true := decide_eq_true (by omega)
          have hkI : (j : Int) < 5 := by omega
          have hwj : IntKind.i64.wrap ((j : Int) + 1) = (j : Int) + 1 := by rw [IntKind.wrap_i64]; omega
          obtain ⟨x, hxx⟩ : ∃ x, x = [a1, a2, a3, a4, a5].getD j 0 := ⟨_, rfl⟩
          have cx : wr.cell? ⟨T, 1 + j, none⟩ = some (.int .i64 x) := cell_of_block (o := 1 + j) HTJ.out (by rw [hxx]; match j, hj5 with | 0, _ => rfl | 1, _ => rfl | 2, _ => rfl | 3, _ => rfl | 4, _ => rfl)
          have hxm : x ∈ [a0, a1, a2, a3, a4, a5, a6, a7, a8] := by rw [hxx]; match j, hj5 with | 0, _ => simp | 1, _ => simp | 2, _ => simp | 3, _ => simp | 4, _ => simp
          have ix := HI.out x hxm
          have htk := take_getD [a1, a2, a3, a4, a5] (j := j) hj5
          rw [← hxx] at htk
          obtain ⟨zj, hzj⟩ : ∃ z, z = z1 ++ putsB ([a1, a2, a3, a4, a5].take j) := ⟨_, rfl⟩
          obtain ⟨zk, hzk⟩ : ∃ z, z = zj ++ putI x := ⟨_, rfl⟩
          have hjl : zj.length ≤ 6000 := by
            have h1 := putsB_len ([a1, a2, a3, a4, a5].take j) (fun y hy => HI.out y (by have := List.mem_of_mem_take hy; simp only [List.mem_cons, List.not_mem_nil, or_false] at this ⊢; omega))
            have h2 := List.length_take (i := j) (l := [a1, a2, a3, a4, a5])
            have := HE1.out
            rw [hzj, List.length_append]
            omega
          have KJ := Lib.hid (fun X => by rw [hzk]; exact rputint_any zj (by omega) (n := x) ix X : ∀ X, Calls Tryz.prog 38 #[.string (strOfNums zj), .int .i64 x] X fun e w' => e = .returned (.string (strOfNums zk)) ∧ Below X.heap.size X w')
          have HZK := Lib.hid (show z1 ++ putsB ([a1, a2, a3, a4, a5].take (j + 1)) = zk from by rw [htk, putsB_app, putsB_one, hzk, hzj, List.append_assoc])
          have HJ := Lib.hid hj5
          rw [← hzj]
          clear hxx hxm ix htk hzj hzk hjl hj hj5
          go_wp2_with fail
          refine (KJ.out _).mono ?_
          rintro e Z2 ⟨rfl, hb⟩
          have HB2j := Lib.hid (below_next HBJ.out hb)
          clear hb cx KJ
          go_wp2_with fail
          go_roundw
          case rel => exact ⟨j + 1, by have := HJ.out; omega, by rw [HZK.out], by go_num, HB2j.out⟩
          case measure => have := HJ.out; simp [intOf]; omega
        case neg =>
          obtain rfl : j = 5 := by omega
          have hd3 : decide ((5 : Int) < 5) = false := by decide
          rw [show z1 ++ putsB ([a1, a2, a3, a4, a5].take 5) = z6 from HZ6.out.symm]
          have HBJ2 := Lib.hid (below_next HB1.out HBJ.out)
          clear hj hj5 HBJ HT1 HB1
          go_upto_region 11 with fail
          have TF := Lib.hid (fun (X : World) (hX : Below wr.heap.size wr X) => (hX.block _ (Array.getElem?_eq_some_iff.1 HTJ.out).1).trans HTJ.out)
          have t6 := Lib.hid (fun X hX => cell_of_block (o := 6) (TF.out X hX) rfl)
          have t7 := Lib.hid (fun X hX => cell_of_block (o := 7) (TF.out X hX) rfl)
          have t8 := Lib.hid (fun X hX => cell_of_block (o := 8) (TF.out X hX) rfl)
          refine Rl.wp_region_rel (fun a b => Below a.heap.size a b) wr (fun a b c h h' => below_next h h') (fun a => Below.refl _ _) hmx (by kernel_rfl) (Below.refl _ _).drew ?_
          iterate 2 (refine Rl.textR_run ?_ (fun ρ => ?_) (fun ρ W hS hd => ?_) ?_; rotate_left; (focus go_simp); (focus (obtain ⟨hc, hf⟩ := bcell hS; go_simp; first | exact ⟨rfl, Below.refl _ _⟩ | (refine ⟨?_, Below.refl _ _⟩; rfl))); (try go_simp))
          (refine Rl.textR_run ?_ (fun ρ => ?_) (fun ρ W hS hd => ?_) ?_; rotate_left; (focus go_simp); (focus (have hfact := t6.out W hS; go_simp; first | exact ⟨rfl, Below.refl _ _⟩ | (refine ⟨?_, Below.refl _ _⟩; rfl))); (try go_simp))
          (refine Rl.textR_run ?_ (fun ρ => ?_) (fun ρ W hS hd => ?_) ?_; rotate_left; (focus go_simp); (focus (obtain ⟨hc, hf⟩ := bcell hS; go_simp; refine (K6.out W).mono ?_; rintro e w1 ⟨rfl, hb⟩; refine ⟨_, rfl, ?_, hb⟩; rfl)); (try go_simp))
          iterate 2 (refine Rl.textR_run ?_ (fun ρ => ?_) (fun ρ W hS hd => ?_) ?_; rotate_left; (focus go_simp); (focus (obtain ⟨hc, hf⟩ := bcell hS; go_simp; first | exact ⟨rfl, Below.refl _ _⟩ | (refine ⟨?_, Below.refl _ _⟩; rfl))); (try go_simp))
          (refine Rl.textR_run ?_ (fun ρ => ?_) (fun ρ W hS hd => ?_) ?_; rotate_left; (focus go_simp); (focus (have hfact := t7.out W hS; go_simp; first | exact ⟨rfl, Below.refl _ _⟩ | (refine ⟨?_, Below.refl _ _⟩; rfl))); (try go_simp))
          (refine Rl.textR_run ?_ (fun ρ => ?_) (fun ρ W hS hd => ?_) ?_; rotate_left; (focus go_simp); (focus (obtain ⟨hc, hf⟩ := bcell hS; go_simp; refine (K7.out W).mono ?_; rintro e w1 ⟨rfl, hb⟩; refine ⟨_, rfl, ?_, hb⟩; rfl)); (try go_simp))
          iterate 2 (refine Rl.textR_run ?_ (fun ρ => ?_) (fun ρ W hS hd => ?_) ?_; rotate_left; (focus go_simp); (focus (obtain ⟨hc, hf⟩ := bcell hS; go_simp; first | exact ⟨rfl, Below.refl _ _⟩ | (refine ⟨?_, Below.refl _ _⟩; rfl))); (try go_simp))
          (refine Rl.textR_run ?_ (fun ρ => ?_) (fun ρ W hS hd => ?_) ?_; rotate_left; (focus go_simp); (focus (have hfact := t8.out W hS; go_simp; first | exact ⟨rfl, Below.refl _ _⟩ | (refine ⟨?_, Below.refl _ _⟩; rfl))); (try go_simp))
          (refine Rl.textR_run ?_ (fun ρ => ?_) (fun ρ W hS hd => ?_) ?_; rotate_left; (focus go_simp); (focus (obtain ⟨hc, hf⟩ := bcell hS; go_simp; refine (K8.out W).mono ?_; rintro e w1 ⟨rfl, hb⟩; refine ⟨_, rfl, ?_, hb⟩; rfl)); (try go_simp))
          (refine Rl.textR_run ?_ (fun ρ => ?_) (fun ρ W hS hd => ?_) ?_; rotate_left; (focus go_simp); (focus (obtain ⟨hc, hf⟩ := bcell hS; go_simp; first | exact ⟨rfl, Below.refl _ _⟩ | (refine ⟨?_, Below.refl _ _⟩; rfl))); (try go_simp))
          refine Rl.textR_nil ?_
          intro ρ W3 hg hk
          dsimp only
          have HB3 := Lib.hid (below_next HBJ2.out hg)
          clear hg hk TF t6 t7 t8 K6 K7 K8 HTJ HBJ2
          go_simp
          go_wp2_with fail
          go_roundw
          case rel => exact ⟨k + 1, by have := HK.out; omega, by rw [HZN.out, HZ9.out], by go_num, HB3.out⟩
          case measure => have := HK.out; simp [intOf]; omega
    case neg =>
      obtain rfl : k = len := by omega
      have hd : decide (k < k) = false := decide_eq_false (by omega)
      have hd2 : decide ((k : Int) < (k : Int)) = false := decide_eq_false (by omega)
      have HE := Lib.hid (show res = strOfNums (pre ++ putsB (L.take k).flatten) from by rw [HRES.out, HBY.out, List.take_of_length_le (by rw [HLEN.out]; exact Nat.le_refl _)])
      clear hlt hk
      generalize strOfNums (pre ++ putsB (L.take k).flatten) = sz at *
      go_wp2_with fail
      go_ret
      exact ⟨by rw [HE.out]; first | done | rfl, HBK.out⟩
end Go.Proofs.YthflogeaielhlaaGreatDoor
namespace Go.Proofs.YthflogeaielhlaaGreatDoor
set_option linter.unusedVariables false
open Go.ChangeShapes Go.WideShapes Go.ChangeAt Go.RowKit Bk
attribute [local go_sem ↓] Go.wp_at_zero Go.wp_at_succ comesTo_value_eq comesTo_skip_eq comesTo_enter_eq Rl.comesToR_value_eq Rl.comesToR_skip_eq Rl.comesToR_enter_eq

theorem own12q (f t : Int) (w : World) :
    Calls Tryz.prog 22 #[.agg #[.int .i64 f, .int .i64 t]] w fun e w' => e = .returned (.agg #[.int .i64 f, .int .i64 t]) ∧ Below w.heap.size w w' := by
  go_enter Tryz.func22, Tryz.ntmps22
  go_wp2
  exact bodyPost_ret (v := .agg #[.int .i64 f, .int .i64 t]) (by simp [results, Tryz.results22, go_sem]) rfl ⟨rfl, (by repeat (first | exact Below.refl _ _ | assumption | refine below_drewN ?_ _ | refine Below.drew ?_ | refine below_alloc ?_ _ | refine Below.alloc ?_ (by first | omega | (simp; done) | (simp; omega)) _ | refine Below.setCell ?_ (Below.size (by assumption)) _ | refine Below.setCell ?_ (by first | omega | (simp; done) | (simp; omega)) _ | (refine Below.trans ?_ (Below.mono (by assumption) (by first | omega | (simp; done) | (simp; omega)))) | refine below_next ?_ (by assumption)))⟩
theorem eqin12 (f t : Int) (w : World) : (Op.equalIn 10000 59 (.agg #[.int .i64 f, .int .i64 t]) (.agg #[.int .i64 f, .int .i64 t])).run Tryz.prog w = .ok true w := by
  have hS : Tryz.prog.underlying 59 = some (.struct (Tryz.prog.fieldsOf 59)) := by kernel_rfl
  have hp : Tryz.prog.stoodInHeld 59 = false := by kernel_rfl
  have hm : (Tryz.prog.fieldsOf 59).toList.map (fun f => (f.name != "_", f.offset, f.type)) = [(true, 0, 2), (true, 1, 2)] := by kernel_rfl
  refine (run_equalIn_struct w 9999 _ _ _ hS hp).trans ?_
  rw [run_eqFields_all w (fun _ => true)]
  · simp
  · intro x hf
    have h1 : (x.name != "_", x.offset, x.type) ∈ (Tryz.prog.fieldsOf 59).toList.map (fun f => (f.name != "_", f.offset, f.type)) := List.mem_map.2 ⟨x, hf, rfl⟩
    rw [hm] at h1
    simp only [List.mem_cons, List.not_mem_nil, or_false, Prod.mk.injEq] at h1
    rcases h1 with ⟨h1, h2, h3⟩ | ⟨h1, h2, h3⟩
    · refine ⟨by simpa using h1, .int .i64 f, .int .i64 f, ?_, ?_, ?_⟩
      · rw [h2, h3]; simp [part, isAgg, run_underlying Tryz.underlying2]
      · rw [h2, h3]; simp [part, isAgg, run_underlying Tryz.underlying2]
      · rw [h3]; refine (run_equalIn_int w 9998 _ _ .i64 f f Tryz.underlying2).trans ?_; simp
    · refine ⟨by simpa using h1, .int .i64 t, .int .i64 t, ?_, ?_, ?_⟩
      · rw [h2, h3]; simp [part, isAgg, run_underlying Tryz.underlying2]
      · rw [h2, h3]; simp [part, isAgg, run_underlying Tryz.underlying2]
      · rw [h3]; refine (run_equalIn_int w 9998 _ _ .i64 t t Tryz.underlying2).trans ?_; simp
set_option maxRecDepth 100000 in
set_option maxHeartbeats 8000000 in
theorem like14_any {w : World} {b m : Nat} {h : Int} {L : List LV} (H : BkAt w b m h L) (hn : BN L) (hh : 1 ≤ h ∧ h ≤ 1099511627776) {B0 : Nat} {v : Value} (hv : w.ownsRow B0 61 9 v L.length (vL L.flatten)) :
    Calls Tryz.prog 6 #[.pointer (some ⟨b, 0, none⟩), .agg #[.int .i64 h, v]] w fun e w' => e = .returned (.int .i64 1) ∧ Below w.heap.size w w' := by
  have hmx : Tryz.prog.follows .mixedOrders = true := by kernel_rfl
  have hg := H.good
  have HGD := Lib.hid hg
  have hl9 : ∀ l ∈ L, l.length = 9 := fun l hl => (hg.all l hl).1
  have HX64 := Lib.hid (show ∀ l ∈ L, ∀ x ∈ l, i64B x from fun l hl => Num.i64 (hg.all l hl).1 (hg.all l hl).2 (hn l hl))
  have HHI := Lib.hid (show i64B h from by unfold i64B; omega)
  have HLEN := Lib.hid hg.len
  have HBL := Lib.hid (bytesB_len HHI.out hg hn)
  obtain ⟨aV, cV, rfl, hv2⟩ := own_row9 hv hl9
  have HV2 := Lib.hid hv2
  have HL9 := Lib.hid hl9
  have hA := below_alloc (Below.refl _ w) (.cells #[.int .i64 h, .slice aV L.length cV] 29)
  have HA := Lib.hid hA
  have HN := Lib.hid (World.alloc_heap_new w (.cells #[.int .i64 h, .slice aV L.length cV] 29))
  have HR := Lib.hid (H.below hA)
  clear H hg hl9 hn hh hv hv2 hA
  obtain ⟨len, hlen⟩ : ∃ x, x = L.length := ⟨_, rfl⟩
  have HLN := Lib.hid hlen
  rw [← hlen] at HN HV2 HLEN ⊢
  go_enter Tryz.func6, Tryz.ntmps6
  rw [← hlen] at HA HR
  clear hlen
  go_upto_region 1 with fail
  generalize w.alloc (.cells #[.int .i64 h, .slice aV len cV] 29) = W1 at *
  obtain ⟨q, hq⟩ : ∃ x, x = w.heap.size := ⟨_, rfl⟩
  rw [← hq] at HN ⊢
  have HQW := Lib.hid hq
  clear hq
  go_wp2_with fail
  refine (lines_bk HR.out).mono ?_
  rintro e W2 ⟨v2, rfl, ho2, hb2⟩
  have HB2 := Lib.hid (below_next HA.out hb2)
  have HR2 := Lib.hid (HR.out.below hb2)
  have HN2 := Lib.hid ((hb2.block _ (Array.getElem?_eq_some_iff.1 HN.out).1).trans HN.out)
  obtain ⟨aO, cO, rfl, hO⟩ := own_row9 ho2 HL9.out
  have HO := Lib.hid hO
  rw [← HLN.out] at HO ⊢
  clear ho2 hb2 HA HR HN hO
  go_upto_region 2 with fail
  have NN := Lib.hid (fun (X : World) (hX : Below W2.heap.size W2 X) => (hX.block _ (Array.getElem?_eq_some_iff.1 HN2.out).1).trans HN2.out)
  have b0 := Lib.hid (fun X hX => cell_of_block (o := 0) (NN.out X hX) rfl)
  have b1 := Lib.hid (fun X hX => cell_of_block (o := 1) (NN.out X hX) rfl)
  have KP := Lib.hid (fun (X : World) (hX : Below W2.heap.size W2 X) => put_bk (HR2.out.below hX) HHI.out HX64.out)
  have KD := Lib.hid (fun (X : World) (hX : Below W2.heap.size W2 X) => by
    have := rput14_any (w := X) (ad := aV) (c := cV) (L := L) (fun h0 => by
      obtain ⟨g, e1, _, e3, e4⟩ := HV2.out (by rw [HLN.out]; exact h0)
      have hw := below_next HB2.out hX
      exact ⟨g, e1, Nat.lt_of_lt_of_le e3 hw.size, e4.mono (hw.block g e3)⟩) HL9.out (by rw [← HLN.out]; exact HLEN.out) HX64.out HHI.out
    rw [← HLN.out] at this
    exact this)
  obtain ⟨sz, hsz⟩ : ∃ sz, sz = strOfNums (bytesB h L) := ⟨_, rfl⟩
  have HSZ := Lib.hid hsz
  have KDD := Lib.hid (show ∀ (X : World), Below W2.heap.size W2 X → Calls Tryz.prog 20 #[.agg #[.int .i64 h, .slice aV len cV]] X fun e w' => e = .returned (.string sz) ∧ Below X.heap.size X w' from by rw [hsz]; exact KD.out)
  clear hsz KD
  refine Rl.wp_region_rel (fun a b => Below a.heap.size a b) W2 (fun a b c h h' => below_next h h') (fun a => Below.refl _ _) hmx (by kernel_rfl) (Below.refl _ _).drew ?_
  iterate 3 (refine Rl.textR_run ?_ (fun ρ => ?_) (fun ρ W hS hd => ?_) ?_; rotate_left; (focus go_simp); (focus (obtain ⟨hc, hf⟩ := bcell hS; go_simp; first | exact ⟨rfl, Below.refl _ _⟩ | (refine ⟨?_, Below.refl _ _⟩; rfl))); (try go_simp))
  (refine Rl.textR_run ?_ (fun ρ => ?_) (fun ρ W hS hd => ?_) ?_; rotate_left; (focus go_simp); (focus (have hfact := b1.out W hS; go_simp; first | exact ⟨rfl, Below.refl _ _⟩ | (refine ⟨?_, Below.refl _ _⟩; rfl))); (try go_simp))
  iterate 4 (refine Rl.textR_run ?_ (fun ρ => ?_) (fun ρ W hS hd => ?_) ?_; rotate_left; (focus go_simp); (focus (obtain ⟨hc, hf⟩ := bcell hS; go_simp; first | exact ⟨rfl, Below.refl _ _⟩ | (refine ⟨?_, Below.refl _ _⟩; rfl))); (try go_simp))
  refine Rl.textR_rel 20 (fun v w => TxtAt w v (bytesB h L)) rfl (fun v w w' hg hh => hh.below hg) (fun ρ => ?_) (fun ρ W hS hd => ?_) ?_
  · go_simp
  · go_simp
    refine (KP.out W hS).mono ?_
    rintro e w1 ⟨u, rfl, ho, hb⟩
    exact ⟨_, rfl, ho.at, hb⟩
  (try go_simp)
  refine Rl.textR_run (.string sz) (fun ρ => ?_) (fun ρ W hS hd => ?_) ?_
  · go_simp
  · have hcv := txt_conv (hd (20, fun v w => TxtAt w v (bytesB h L)) (by first | exact List.mem_cons_self | (simp; done)) (show (20 : Nat) ∈ _ by decide)) W (Below.refl _ _)
    rw [← HSZ.out] at hcv
    simp only at hcv
    go_simp
    first | exact ⟨rfl, Below.refl _ _⟩ | exact Below.refl _ _
  (try go_simp)
  (refine Rl.textR_run ?_ (fun ρ => ?_) (fun ρ W hS hd => ?_) ?_; rotate_left; (focus go_simp); (focus (have hfact0 := b0.out W hS; have hfact1 := b1.out W hS; go_simp; first | exact ⟨rfl, Below.refl _ _⟩ | (refine ⟨?_, Below.refl _ _⟩; rfl))); (try go_simp))
  (refine Rl.textR_run ?_ (fun ρ => ?_) (fun ρ W hS hd => ?_) ?_; rotate_left; (focus go_simp); (focus (obtain ⟨hc, hf⟩ := bcell hS; go_simp; refine (KDD.out W hS).mono ?_; rintro e w1 ⟨rfl, hb⟩; refine ⟨_, rfl, ?_, hb⟩; rfl)); (try go_simp))
  iterate 2 (refine Rl.textR_run ?_ (fun ρ => ?_) (fun ρ W hS hd => ?_) ?_; rotate_left; (focus go_simp); (focus (obtain ⟨hc, hf⟩ := bcell hS; go_simp; first | exact ⟨rfl, Below.refl _ _⟩ | (refine ⟨?_, Below.refl _ _⟩; rfl))); (try go_simp))
  refine Rl.textR_nil ?_
  intro ρ W3 hg hk
  dsimp only
  have HB3 := Lib.hid (below_next HB2.out hg)
  have HR3 := Lib.hid (HR2.out.below hg)
  have HN3 := Lib.hid (NN.out W3 hg)
  have HG3 := Lib.hid (show Below W2.heap.size W2 W3 from hg)
  clear hg hk NN b0 b1 KP KDD HR2 HN2
  go_simp
  by_cases h0 : 0 < len
  case neg =>
    obtain rfl : len = 0 := by omega
    clear h0
    go_wp2_with fail
    go_loopw [6] (fun i wr => i = .int .i64 0 ∧ wr = W3) (fun _ _ => 0)
    case atStart => exact ⟨rfl, rfl⟩
    case round =>
      obtain ⟨rfl, rfl⟩ := hrel
      go_wp2_with fail
      go_ret
      exact ⟨rfl, HB3.out⟩
  case pos =>
  obtain ⟨gO, rfl, _, gO1, gO2⟩ := HO.out h0
  obtain ⟨gV, rfl, _, gV1, gV2⟩ := HV2.out h0
  have HGO := Lib.hid (fun (X : World) (hX : Below W3.heap.size W3 X) => gO2.mono ((hX.block gO (Nat.lt_of_lt_of_le gO1 HG3.out.size)).trans (HG3.out.block gO gO1)))
  have HGV := Lib.hid (fun (X : World) (hX : Below W3.heap.size W3 X) => gV2.mono ((hX.block gV (Nat.lt_of_lt_of_le gV1 HB3.out.size)).trans (HB3.out.block gV gV1)))
  clear HO HV2 gO1 gO2 gV1 gV2 h0 HG3 HB2
  go_wp2_with fail
  go_loopw [6] (fun i wr => ∃ k : Nat, k ≤ len ∧ i = .int .i64 k ∧ Below W3.heap.size W3 wr) (fun i _ => len - (intOf i).toNat)
  case atStart => exact ⟨0, Nat.zero_le _, rfl, Below.refl _ _⟩
  case round =>
    obtain ⟨k, hk, rfl, hbr⟩ := hrel
    have HBR := Lib.hid hbr
    by_cases hlt : k < len
    case pos =>
      have hd : decide (k < len) = true := decide_eq_true hlt
      have hd2 : decide ((k : Int) < (len : Int)) = true := decide_eq_true (by omega)
      have hkl : (k : Int) < (len : Int) := by omega
      have hw1 : IntKind.i64.wrap ((k : Int) + 1) = (k : Int) + 1 := by have := HLEN.out; rw [IntKind.wrap_i64]; omega
      have HK := Lib.hid hlt
      have hkL : k < L.length := by rw [← HLN.out]; exact hlt
      have hmem := HGD.out.at hkL
      obtain ⟨a0, a1, a2, a3, a4, a5, a6, a7, a8, e9⟩ := nine (HL9.out _ hmem)
      have hub := (HGD.out.all _ hmem).2
      have hgt := getB_at HGD.out.up hkL
      have hln := line_at HGD.out hkL
      rw [e9] at hub hgt hln
      have HU := Lib.hid (show 1 ≤ a0 ∧ a0 ≤ 16 from hub)
      have XO := Lib.hid (fun (X : World) (hX : Below wr.heap.size wr X) => nine_cells (HGO.out X (below_next HBR.out hX)) hkL e9)
      obtain ⟨v0, v1, v2, v3, v4, v5, v6, v7, v8⟩ := nine_cells (HGV.out wr hbr) hkL e9
      have b1 : wr.cell? ⟨q, 1, none⟩ = some (.slice (some ⟨gV, 0, none⟩) len cV) := cell_of_block (o := 1) ((hbr.block _ (Array.getElem?_eq_some_iff.1 HN3.out).1).trans HN3.out) rfl
      have KL := Lib.hid (fun (X : World) (hX : Below wr.heap.size wr X) => (show Calls Tryz.prog 21 #[.pointer (some ⟨b, 0, none⟩), .int .i64 a0] X fun e w' => e = .returned (.tuple #[.agg #[.int .i64 a0, .int .i64 a1, .int .i64 a2, .int .i64 a3, .int .i64 a4, .int .i64 a5, .int .i64 a6, .int .i64 a7, .int .i64 a8], .bool true]) ∧ Below X.heap.size X w' from by
        have := line_bk ((HR3.out.below HBR.out).below hX) (u := a0) (by have := HU.out; omega) (by have := HU.out; omega)
        rw [show lineB L a0 = [a0, a1, a2, a3, a4, a5, a6, a7, a8] from hln, show getB L a0 = some [a0, a1, a2, a3, a4, a5, a6, a7, a8] from hgt] at this
        exact this))
      have HBQ := Lib.hid (below_next HB3.out hbr)
      clear hbr hk hlt hmem e9 hub hgt hln hkL
      have ba := below_alloc (Below.refl _ wr) (.cells #[.int .i64 a0, .int .i64 a1, .int .i64 a2, .int .i64 a3, .int .i64 a4, .int .i64 a5, .int .i64 a6, .int .i64 a7, .int .i64 a8] 61)
      have HT := Lib.hid (World.alloc_heap_new wr (.cells #[.int .i64 a0, .int .i64 a1, .int .i64 a2, .int .i64 a3, .int .i64 a4, .int .i64 a5, .int .i64 a6, .int .i64 a7, .int .i64 a8] 61))
      have HBA := Lib.hid ba
      clear ba
      go_upto_region 8 with fail
      clear v0 v1 v2 v3 v4 v5 v6 v7 v8 b1
      generalize wr.alloc (.cells #[.int .i64 a0, .int .i64 a1, .int .i64 a2, .int .i64 a3, .int .i64 a4, .int .i64 a5, .int .i64 a6, .int .i64 a7, .int .i64 a8] 61) = Z at *
      obtain ⟨T, hT⟩ : ∃ T, T = wr.heap.size := ⟨_, rfl⟩
      rw [← hT] at HT ⊢
      clear hT
      obtain ⟨y0, _, _, _, _, _, _, _, _⟩ := XO.out Z HBA.out
      go_wp2_with fail
      refine (KL.out _ HBA.out).mono ?_
      rintro e Z1 ⟨rfl, hb⟩
      have ba := below_alloc (Below.refl _ Z1) (.cells #[.int .i64 a0, .int .i64 a1, .int .i64 a2, .int .i64 a3, .int .i64 a4, .int .i64 a5, .int .i64 a6, .int .i64 a7, .int .i64 a8] 46)
      have HM := Lib.hid (World.alloc_heap_new Z1 (.cells #[.int .i64 a0, .int .i64 a1, .int .i64 a2, .int .i64 a3, .int .i64 a4, .int .i64 a5, .int .i64 a6, .int .i64 a7, .int .i64 a8] 46))
      have HT2 := Lib.hid ((ba.block _ (by have := (Array.getElem?_eq_some_iff.1 HT.out).1; have := hb.size; omega)).trans ((hb.block _ (Array.getElem?_eq_some_iff.1 HT.out).1).trans HT.out))
      have HBB := Lib.hid (show Below wr.heap.size wr (Z1.alloc (.cells #[.int .i64 a0, .int .i64 a1, .int .i64 a2, .int .i64 a3, .int .i64 a4, .int .i64 a5, .int .i64 a6, .int .i64 a7, .int .i64 a8] 46)) from HBA.out.trans ((hb.trans (ba.mono hb.size)).mono HBA.out.size))
      clear hb ba y0 KL HT HBA
      go_upto_region 9 with fail
      generalize Z1.alloc (.cells #[.int .i64 a0, .int .i64 a1, .int .i64 a2, .int .i64 a3, .int .i64 a4, .int .i64 a5, .int .i64 a6, .int .i64 a7, .int .i64 a8] 46) = Y at *
      generalize Z1.heap.size = M at *
      have XR := Lib.hid (fun (X : World) (hX : Below Y.heap.size Y X) => XO.out X (HBB.out.trans (hX.mono HBB.out.size)))
      have TF := Lib.hid (fun (X : World) (hX : Below Y.heap.size Y X) => (hX.block _ (Array.getElem?_eq_some_iff.1 HT2.out).1).trans HT2.out)
      have MF := Lib.hid (fun (X : World) (hX : Below Y.heap.size Y X) => (hX.block _ (Array.getElem?_eq_some_iff.1 HM.out).1).trans HM.out)
      have t0 := Lib.hid (fun X hX => cell_of_block (o := 0) (TF.out X hX) rfl)
      have t1 := Lib.hid (fun X hX => cell_of_block (o := 1) (TF.out X hX) rfl)
      have t2 := Lib.hid (fun X hX => cell_of_block (o := 2) (TF.out X hX) rfl)
      have t3 := Lib.hid (fun X hX => cell_of_block (o := 3) (TF.out X hX) rfl)
      have t4 := Lib.hid (fun X hX => cell_of_block (o := 4) (TF.out X hX) rfl)
      have t5 := Lib.hid (fun X hX => cell_of_block (o := 5) (TF.out X hX) rfl)
      have t6 := Lib.hid (fun X hX => cell_of_block (o := 6) (TF.out X hX) rfl)
      have t7 := Lib.hid (fun X hX => cell_of_block (o := 7) (TF.out X hX) rfl)
      have t8 := Lib.hid (fun X hX => cell_of_block (o := 8) (TF.out X hX) rfl)
      have x0 := Lib.hid (fun X hX => (XR.out X hX).1)
      have x1 := Lib.hid (fun X hX => (XR.out X hX).2.1)
      have x2 := Lib.hid (fun X hX => (XR.out X hX).2.2.1)
      have x3 := Lib.hid (fun X hX => (XR.out X hX).2.2.2.1)
      have x4 := Lib.hid (fun X hX => (XR.out X hX).2.2.2.2.1)
      have x5 := Lib.hid (fun X hX => (XR.out X hX).2.2.2.2.2.1)
      have x6 := Lib.hid (fun X hX => (XR.out X hX).2.2.2.2.2.2.1)
      have x7 := Lib.hid (fun X hX => (XR.out X hX).2.2.2.2.2.2.2.1)
      have x8 := Lib.hid (fun X hX => (XR.out X hX).2.2.2.2.2.2.2.2)
      have KO := Lib.hid (fun X => own12q a7 a8 X)
      have KE5 := Lib.hid (fun X => eqin5 a1 a2 a3 a4 a5 X)
      have KES := Lib.hid (fun X => eqin12 a7 a8 X)
      have KEL := Lib.hid (fun X => eqinL a0 a1 a2 a3 a4 a5 a6 a7 a8 X)
      refine Rl.wp_region_rel (fun a b => Below a.heap.size a b) Y (fun a b c h h' => below_next h h') (fun a => Below.refl _ _) hmx (by kernel_rfl) (Below.refl _ _).drew ?_
      (refine Rl.textR_run ?_ (fun ρ => ?_) (fun ρ W hS hd => ?_) ?_; rotate_left; (focus go_simp); (focus (obtain ⟨hc, hf⟩ := bcell hS; go_simp; first | exact ⟨rfl, Below.refl _ _⟩ | (refine ⟨?_, Below.refl _ _⟩; rfl))); (try go_simp))
      (refine Rl.textR_run ?_ (fun ρ => ?_) (fun ρ W hS hd => ?_) ?_; rotate_left; (focus go_simp); (focus (obtain ⟨hc, hf⟩ := bcell hS; go_simp; first | exact ⟨rfl, Below.refl _ _⟩ | (refine ⟨?_, Below.refl _ _⟩; rfl))); (try go_simp))
      (refine Rl.textR_run ?_ (fun ρ => ?_) (fun ρ W hS hd => ?_) ?_; rotate_left; (focus go_simp); (focus (obtain ⟨hc, hf⟩ := bcell hS; go_simp; first | exact ⟨rfl, Below.refl _ _⟩ | (refine ⟨?_, Below.refl _ _⟩; rfl))); (try go_simp))
      (refine Rl.textR_run ?_ (fun ρ => ?_) (fun ρ W hS hd => ?_) ?_; rotate_left; (focus go_simp); (focus (obtain ⟨hc, hf⟩ := bcell hS; go_simp; first | exact ⟨rfl, Below.refl _ _⟩ | (refine ⟨?_, Below.refl _ _⟩; rfl))); (try go_simp))
      (refine Rl.textR_run ?_ (fun ρ => ?_) (fun ρ W hS hd => ?_) ?_; rotate_left; (focus go_simp); (focus (have hfact0 := x0.out W hS; go_simp; first | exact ⟨rfl, Below.refl _ _⟩ | (refine ⟨?_, Below.refl _ _⟩; rfl))); (try go_simp))
      (refine Rl.textR_run ?_ (fun ρ => ?_) (fun ρ W hS hd => ?_) ?_; rotate_left; (focus go_simp); (focus (obtain ⟨hc, hf⟩ := bcell hS; go_simp; first | exact ⟨rfl, Below.refl _ _⟩ | (refine ⟨?_, Below.refl _ _⟩; rfl))); (try go_simp))
      (refine Rl.textR_run ?_ (fun ρ => ?_) (fun ρ W hS hd => ?_) ?_; rotate_left; (focus go_simp); (focus (have hfact0 := t0.out W hS; go_simp; first | exact ⟨rfl, Below.refl _ _⟩ | (refine ⟨?_, Below.refl _ _⟩; rfl))); (try go_simp))
      (refine Rl.textR_run ?_ (fun ρ => ?_) (fun ρ W hS hd => ?_) ?_; rotate_left; (focus go_simp); (focus (obtain ⟨hc, hf⟩ := bcell hS; go_simp; first | exact ⟨rfl, Below.refl _ _⟩ | (refine ⟨?_, Below.refl _ _⟩; rfl))); (try go_simp))
      (refine Rl.textR_run ?_ (fun ρ => ?_) (fun ρ W hS hd => ?_) ?_; rotate_left; (focus go_simp); (focus (obtain ⟨hc, hf⟩ := bcell hS; go_simp; first | exact ⟨rfl, Below.refl _ _⟩ | (refine ⟨?_, Below.refl _ _⟩; rfl))); (try go_simp))
      (refine Rl.textR_run ?_ (fun ρ => ?_) (fun ρ W hS hd => ?_) ?_; rotate_left; (focus go_simp); (focus (obtain ⟨hc, hf⟩ := bcell hS; go_simp; first | exact ⟨rfl, Below.refl _ _⟩ | (refine ⟨?_, Below.refl _ _⟩; rfl))); (try go_simp))
      (refine Rl.textR_run ?_ (fun ρ => ?_) (fun ρ W hS hd => ?_) ?_; rotate_left; (focus go_simp); (focus (obtain ⟨hc, hf⟩ := bcell hS; go_simp; first | exact ⟨rfl, Below.refl _ _⟩ | (refine ⟨?_, Below.refl _ _⟩; rfl))); (try go_simp))
      (refine Rl.textR_run ?_ (fun ρ => ?_) (fun ρ W hS hd => ?_) ?_; rotate_left; (focus go_simp); (focus (obtain ⟨hc, hf⟩ := bcell hS; go_simp; first | exact ⟨rfl, Below.refl _ _⟩ | (refine ⟨?_, Below.refl _ _⟩; rfl))); (try go_simp))
      (refine Rl.textR_run ?_ (fun ρ => ?_) (fun ρ W hS hd => ?_) ?_; rotate_left; (focus go_simp); (focus (obtain ⟨hc, hf⟩ := bcell hS; go_simp; first | exact ⟨rfl, Below.refl _ _⟩ | (refine ⟨?_, Below.refl _ _⟩; rfl))); (try go_simp))
      (refine Rl.textR_run ?_ (fun ρ => ?_) (fun ρ W hS hd => ?_) ?_; rotate_left; (focus go_simp); (focus (have hfact0 := x1.out W hS; have hfact1 := x2.out W hS; have hfact2 := x3.out W hS; have hfact3 := x4.out W hS; have hfact4 := x5.out W hS; go_simp; first | exact ⟨rfl, Below.refl _ _⟩ | (refine ⟨?_, Below.refl _ _⟩; rfl))); (try go_simp))
      (refine Rl.textR_run ?_ (fun ρ => ?_) (fun ρ W hS hd => ?_) ?_; rotate_left; (focus go_simp); (focus (obtain ⟨hc, hf⟩ := bcell hS; go_simp; first | exact ⟨rfl, Below.refl _ _⟩ | (refine ⟨?_, Below.refl _ _⟩; rfl))); (try go_simp))
      (refine Rl.textR_run ?_ (fun ρ => ?_) (fun ρ W hS hd => ?_) ?_; rotate_left; (focus go_simp); (focus (have hfact0 := t1.out W hS; have hfact1 := t2.out W hS; have hfact2 := t3.out W hS; have hfact3 := t4.out W hS; have hfact4 := t5.out W hS; go_simp; first | exact ⟨rfl, Below.refl _ _⟩ | (refine ⟨?_, Below.refl _ _⟩; rfl))); (try go_simp))
      refine Rl.textR_run (.bool false) (fun ρ => ?_) (fun ρ W hS hd => ?_) ?_
      · go_simp
      · exact Rl.comesToR_neq 42 _ _ _ rfl _ _ (by go_simp) (by go_simp) (by kernel_rfl) (KE5.out W) ⟨rfl, Below.refl _ _⟩
      (try go_simp)
      (refine Rl.textR_run ?_ (fun ρ => ?_) (fun ρ W hS hd => ?_) ?_; rotate_left; (focus go_simp); (focus (obtain ⟨hc, hf⟩ := bcell hS; go_simp; first | exact ⟨rfl, Below.refl _ _⟩ | (refine ⟨?_, Below.refl _ _⟩; rfl))); (try go_simp))
      (refine Rl.textR_run ?_ (fun ρ => ?_) (fun ρ W hS hd => ?_) ?_; rotate_left; (focus go_simp); (focus (obtain ⟨hc, hf⟩ := bcell hS; go_simp; first | exact ⟨rfl, Below.refl _ _⟩ | (refine ⟨?_, Below.refl _ _⟩; rfl))); (try go_simp))
      (refine Rl.textR_run ?_ (fun ρ => ?_) (fun ρ W hS hd => ?_) ?_; rotate_left; (focus go_simp); (focus (obtain ⟨hc, hf⟩ := bcell hS; go_simp; first | exact ⟨rfl, Below.refl _ _⟩ | (refine ⟨?_, Below.refl _ _⟩; rfl))); (try go_simp))
      (refine Rl.textR_run ?_ (fun ρ => ?_) (fun ρ W hS hd => ?_) ?_; rotate_left; (focus go_simp); (focus (obtain ⟨hc, hf⟩ := bcell hS; go_simp; first | exact ⟨rfl, Below.refl _ _⟩ | (refine ⟨?_, Below.refl _ _⟩; rfl))); (try go_simp))
      (refine Rl.textR_run ?_ (fun ρ => ?_) (fun ρ W hS hd => ?_) ?_; rotate_left; (focus go_simp); (focus (obtain ⟨hc, hf⟩ := bcell hS; go_simp; first | exact ⟨rfl, Below.refl _ _⟩ | (refine ⟨?_, Below.refl _ _⟩; rfl))); (try go_simp))
      (refine Rl.textR_run ?_ (fun ρ => ?_) (fun ρ W hS hd => ?_) ?_; rotate_left; (focus go_simp); (focus (obtain ⟨hc, hf⟩ := bcell hS; go_simp; first | exact ⟨rfl, Below.refl _ _⟩ | (refine ⟨?_, Below.refl _ _⟩; rfl))); (try go_simp))
      (refine Rl.textR_run ?_ (fun ρ => ?_) (fun ρ W hS hd => ?_) ?_; rotate_left; (focus go_simp); (focus (have hfact0 := x6.out W hS; go_simp; first | exact ⟨rfl, Below.refl _ _⟩ | (refine ⟨?_, Below.refl _ _⟩; rfl))); (try go_simp))
      (refine Rl.textR_run ?_ (fun ρ => ?_) (fun ρ W hS hd => ?_) ?_; rotate_left; (focus go_simp); (focus (obtain ⟨hc, hf⟩ := bcell hS; go_simp; first | exact ⟨rfl, Below.refl _ _⟩ | (refine ⟨?_, Below.refl _ _⟩; rfl))); (try go_simp))
      (refine Rl.textR_run ?_ (fun ρ => ?_) (fun ρ W hS hd => ?_) ?_; rotate_left; (focus go_simp); (focus (have hfact0 := t6.out W hS; go_simp; first | exact ⟨rfl, Below.refl _ _⟩ | (refine ⟨?_, Below.refl _ _⟩; rfl))); (try go_simp))
      (refine Rl.textR_run ?_ (fun ρ => ?_) (fun ρ W hS hd => ?_) ?_; rotate_left; (focus go_simp); (focus (obtain ⟨hc, hf⟩ := bcell hS; go_simp; first | exact ⟨rfl, Below.refl _ _⟩ | (refine ⟨?_, Below.refl _ _⟩; rfl))); (try go_simp))
      (refine Rl.textR_run ?_ (fun ρ => ?_) (fun ρ W hS hd => ?_) ?_; rotate_left; (focus go_simp); (focus (obtain ⟨hc, hf⟩ := bcell hS; go_simp; first | exact ⟨rfl, Below.refl _ _⟩ | (refine ⟨?_, Below.refl _ _⟩; rfl))); (try go_simp))
      (refine Rl.textR_run ?_ (fun ρ => ?_) (fun ρ W hS hd => ?_) ?_; rotate_left; (focus go_simp); (focus (obtain ⟨hc, hf⟩ := bcell hS; go_simp; first | exact ⟨rfl, Below.refl _ _⟩ | (refine ⟨?_, Below.refl _ _⟩; rfl))); (try go_simp))
      (refine Rl.textR_run ?_ (fun ρ => ?_) (fun ρ W hS hd => ?_) ?_; rotate_left; (focus go_simp); (focus (obtain ⟨hc, hf⟩ := bcell hS; go_simp; first | exact ⟨rfl, Below.refl _ _⟩ | (refine ⟨?_, Below.refl _ _⟩; rfl))); (try go_simp))
      (refine Rl.textR_run ?_ (fun ρ => ?_) (fun ρ W hS hd => ?_) ?_; rotate_left; (focus go_simp); (focus (obtain ⟨hc, hf⟩ := bcell hS; go_simp; first | exact ⟨rfl, Below.refl _ _⟩ | (refine ⟨?_, Below.refl _ _⟩; rfl))); (try go_simp))
      (refine Rl.textR_run ?_ (fun ρ => ?_) (fun ρ W hS hd => ?_) ?_; rotate_left; (focus go_simp); (focus (obtain ⟨hc, hf⟩ := bcell hS; go_simp; first | exact ⟨rfl, Below.refl _ _⟩ | (refine ⟨?_, Below.refl _ _⟩; rfl))); (try go_simp))
      (refine Rl.textR_run ?_ (fun ρ => ?_) (fun ρ W hS hd => ?_) ?_; rotate_left; (focus go_simp); (focus (obtain ⟨hc, hf⟩ := bcell hS; go_simp; first | exact ⟨rfl, Below.refl _ _⟩ | (refine ⟨?_, Below.refl _ _⟩; rfl))); (try go_simp))
      (refine Rl.textR_run ?_ (fun ρ => ?_) (fun ρ W hS hd => ?_) ?_; rotate_left; (focus go_simp); (focus (have hfact0 := x7.out W hS; have hfact1 := x8.out W hS; go_simp; first | exact ⟨rfl, Below.refl _ _⟩ | (refine ⟨?_, Below.refl _ _⟩; rfl))); (try go_simp))
      (refine Rl.textR_run ?_ (fun ρ => ?_) (fun ρ W hS hd => ?_) ?_; rotate_left; (focus go_simp); (focus (obtain ⟨hc, hf⟩ := bcell hS; go_simp; refine (KO.out W).mono ?_; rintro e w1 ⟨rfl, hb⟩; refine ⟨_, rfl, ?_, hb⟩; rfl)); (try go_simp))
      (refine Rl.textR_run ?_ (fun ρ => ?_) (fun ρ W hS hd => ?_) ?_; rotate_left; (focus go_simp); (focus (obtain ⟨hc, hf⟩ := bcell hS; go_simp; first | exact ⟨rfl, Below.refl _ _⟩ | (refine ⟨?_, Below.refl _ _⟩; rfl))); (try go_simp))
      (refine Rl.textR_run ?_ (fun ρ => ?_) (fun ρ W hS hd => ?_) ?_; rotate_left; (focus go_simp); (focus (have hfact0 := t7.out W hS; have hfact1 := t8.out W hS; go_simp; first | exact ⟨rfl, Below.refl _ _⟩ | (refine ⟨?_, Below.refl _ _⟩; rfl))); (try go_simp))
      refine Rl.textR_run (.bool false) (fun ρ => ?_) (fun ρ W hS hd => ?_) ?_
      · go_simp
      · exact Rl.comesToR_neq 59 _ _ _ rfl _ _ (by go_simp) (by go_simp) (by kernel_rfl) (KES.out W) ⟨rfl, Below.refl _ _⟩
      (try go_simp)
      (refine Rl.textR_run ?_ (fun ρ => ?_) (fun ρ W hS hd => ?_) ?_; rotate_left; (focus go_simp); (focus (obtain ⟨hc, hf⟩ := bcell hS; go_simp; first | exact ⟨rfl, Below.refl _ _⟩ | (refine ⟨?_, Below.refl _ _⟩; rfl))); (try go_simp))
      (refine Rl.textR_run ?_ (fun ρ => ?_) (fun ρ W hS hd => ?_) ?_; rotate_left; (focus go_simp); (focus (obtain ⟨hc, hf⟩ := bcell hS; go_simp; first | exact ⟨rfl, Below.refl _ _⟩ | (refine ⟨?_, Below.refl _ _⟩; rfl))); (try go_simp))
      (refine Rl.textR_run ?_ (fun ρ => ?_) (fun ρ W hS hd => ?_) ?_; rotate_left; (focus go_simp); (focus (obtain ⟨hc, hf⟩ := bcell hS; go_simp; first | exact ⟨rfl, Below.refl _ _⟩ | (refine ⟨?_, Below.refl _ _⟩; rfl))); (try go_simp))
      (refine Rl.textR_run ?_ (fun ρ => ?_) (fun ρ W hS hd => ?_) ?_; rotate_left; (focus go_simp); (focus (obtain ⟨hc, hf⟩ := bcell hS; go_simp; first | exact ⟨rfl, Below.refl _ _⟩ | (refine ⟨?_, Below.refl _ _⟩; rfl))); (try go_simp))
      (refine Rl.textR_run ?_ (fun ρ => ?_) (fun ρ W hS hd => ?_) ?_; rotate_left; (focus go_simp); (focus (obtain ⟨hc, hf⟩ := bcell hS; go_simp; first | exact ⟨rfl, Below.refl _ _⟩ | (refine ⟨?_, Below.refl _ _⟩; rfl))); (try go_simp))
      (refine Rl.textR_run ?_ (fun ρ => ?_) (fun ρ W hS hd => ?_) ?_; rotate_left; (focus go_simp); (focus (obtain ⟨hc, hf⟩ := bcell hS; go_simp; first | exact ⟨rfl, Below.refl _ _⟩ | (refine ⟨?_, Below.refl _ _⟩; rfl))); (try go_simp))
      refine Rl.textR_run (.agg #[.int .i64 a0, .int .i64 a1, .int .i64 a2, .int .i64 a3, .int .i64 a4, .int .i64 a5, .int .i64 a6, .int .i64 a7, .int .i64 a8]) (fun ρ => ?_) (fun ρ W hS hd => ?_) ?_
      · go_simp
      · exact Rl.comesToR_load 46 _ rfl M (by go_simp) [.int .i64 a0, .int .i64 a1, .int .i64 a2, .int .i64 a3, .int .i64 a4, .int .i64 a5, .int .i64 a6, .int .i64 a7, .int .i64 a8] _ (MF.out W hS) Tryz.underlying46 rfl (lineInfo (l := [a0, a1, a2, a3, a4, a5, a6, a7, a8]) rfl) ⟨rfl, Below.refl _ _⟩
      (try go_simp)
      (refine Rl.textR_run ?_ (fun ρ => ?_) (fun ρ W hS hd => ?_) ?_; rotate_left; (focus go_simp); (focus (obtain ⟨hc, hf⟩ := bcell hS; go_simp; first | exact ⟨rfl, Below.refl _ _⟩ | (refine ⟨?_, Below.refl _ _⟩; rfl))); (try go_simp))
      (refine Rl.textR_run ?_ (fun ρ => ?_) (fun ρ W hS hd => ?_) ?_; rotate_left; (focus go_simp); (focus (obtain ⟨hc, hf⟩ := bcell hS; go_simp; first | exact ⟨rfl, Below.refl _ _⟩ | (refine ⟨?_, Below.refl _ _⟩; rfl))); (try go_simp))
      (refine Rl.textR_run ?_ (fun ρ => ?_) (fun ρ W hS hd => ?_) ?_; rotate_left; (focus go_simp); (focus (obtain ⟨hc, hf⟩ := bcell hS; go_simp; first | exact ⟨rfl, Below.refl _ _⟩ | (refine ⟨?_, Below.refl _ _⟩; rfl))); (try go_simp))
      (refine Rl.textR_run ?_ (fun ρ => ?_) (fun ρ W hS hd => ?_) ?_; rotate_left; (focus go_simp); (focus (have hfact0 := x0.out W hS; have hfact1 := x1.out W hS; have hfact2 := x2.out W hS; have hfact3 := x3.out W hS; have hfact4 := x4.out W hS; have hfact5 := x5.out W hS; have hfact6 := x6.out W hS; have hfact7 := x7.out W hS; have hfact8 := x8.out W hS; go_simp; first | exact ⟨rfl, Below.refl _ _⟩ | (refine ⟨?_, Below.refl _ _⟩; rfl))); (try go_simp))
      refine Rl.textR_run (.bool false) (fun ρ => ?_) (fun ρ W hS hd => ?_) ?_
      · go_simp
      · exact Rl.comesToR_neq 46 _ _ _ rfl _ _ (by go_simp) (by go_simp) (by kernel_rfl) (KEL.out W) ⟨rfl, Below.refl _ _⟩
      (try go_simp)
      (refine Rl.textR_run ?_ (fun ρ => ?_) (fun ρ W hS hd => ?_) ?_; rotate_left; (focus go_simp); (focus (obtain ⟨hc, hf⟩ := bcell hS; go_simp; first | exact ⟨rfl, Below.refl _ _⟩ | (refine ⟨?_, Below.refl _ _⟩; rfl))); (try go_simp))
      refine Rl.textR_nil ?_
      intro ρ wd hg hk
      dsimp only
      have HBd := Lib.hid (show Below W3.heap.size W3 wd from HBR.out.trans ((HBB.out.trans (hg.mono HBB.out.size)).mono HBR.out.size))
      clear hg hk XO XR TF MF KO KE5 KES KEL HT2 HM HBB HBR HBQ t0 x0 t1 x1 t2 x2 t3 x3 t4 x4 t5 x5 t6 x6 t7 x7 t8 x8
      go_simp
      go_wp2_with fail
      go_roundw
      case rel => exact ⟨k + 1, by have := HK.out; omega, by go_num, HBd.out⟩
      case measure => have := HK.out; simp [intOf]; omega
    case neg =>
      obtain rfl : k = len := by omega
      have hd : decide (k < k) = false := decide_eq_false (by omega)
      have hd2 : decide ((k : Int) < (k : Int)) = false := decide_eq_false (by omega)
      have HBQ := Lib.hid (below_next HB3.out hbr)
      clear hbr hlt hk
      go_wp2_with fail
      go_ret
      exact ⟨rfl, HBQ.out⟩
end Go.Proofs.YthflogeaielhlaaGreatDoor
