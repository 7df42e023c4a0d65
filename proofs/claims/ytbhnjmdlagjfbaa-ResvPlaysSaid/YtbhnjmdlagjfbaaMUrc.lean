/- Levels (layer 10): Play: levels that steps lead to, and the document's. Conditions: the acts that came in; at most 24 of them are taken. -/
import Derived.Test.YtbhnjmdlagjfbaaMam
import Derived.Deep.CutBlock
namespace Go.Proofs.Ytbhnjmdlagjfbaa
set_option linter.unusedVariables false
open Go.ChangeShapes Go.WideShapes Go.ChangeAt Go.RowKit
attribute [local go_sem ↓] Go.wp_at_zero Go.wp_at_succ comesTo_value_eq comesTo_skip_eq comesTo_enter_eq

/-- levels and the document's, side by side, behind q steps: R is the block of the document's -/
structure PlayI (w wr : World) (S R : Nat) (first : Int) (q : Nat) (L : List (Int × Int)) (v : Value) (C : List ChgC) : Prop where
  st : USt wr S L
  right : RightU L
  len : L.length ≤ 3 ^ q
  box : wr.heap[R]? = some (.cells #[.int .i64 first, v] 28 (0, 0))
  row : RowC wr v C
  clen : C.length ≤ q
  like : LikeU first L C
  ne : RowNe wr S R
  ne0 : ∀ b, b ≤ w.heap.size → RowNe wr S b
  bel : Below w.heap.size w wr
  res : wr.heap[w.heap.size]? = some (.cells #[.int .i64 0, .slice none 0 0] 28 (0, 0))
theorem PlayI.below {w wr W : World} {S R q : Nat} {first : Int} {L : List (Int × Int)} {v : Value} {C : List ChgC} (h : PlayI w wr S R first q L v C) (hb : Below wr.heap.size wr W) : PlayI w W S R first q L v C :=
  ⟨h.st.below hb, h.right, h.len, (hb.block _ (Array.getElem?_eq_some_iff.1 h.box).1).trans h.box, h.row.below hb, h.clen, h.like, h.ne.below hb, fun b hb' => (h.ne0 b hb').below hb, Below.trans h.bel (Below.mono hb h.bel.size), (hb.block _ (Array.getElem?_eq_some_iff.1 h.res).1).trans h.res⟩
/-- behind the program's own step -/
theorem PlayI.mid {w wr W : World} {S R q : Nat} {first : Int} {L : List (Int × Int)} {v : Value} {C : List ChgC} (h : PlayI w wr S R first q L v C) (hSR : S ≠ R) (hS : w.heap.size ≤ S) (hf : FrU S wr W) : RowC W v C ∧ W.heap[R]? = some (.cells #[.int .i64 first, v] 28 (0, 0)) ∧ Below w.heap.size w W := by
  obtain ⟨g, c, hg, hS2, _⟩ := h.st.at_
  refine ⟨h.row.keep1 hS2 ⟨_, _, _, rfl⟩ hf.size (fun k hk hne => hf.block k hk hne), (hf.block R (Array.getElem?_eq_some_iff.1 h.box).1 (fun e => hSR e.symm)).trans h.box, Below.trans h.bel (hf.below h.bel.size (fun j hj => by have hj' : j = S := hj; omega))⟩
/-- behind both steps -/
theorem PlayI.step {w wr W W2 : World} {S R q : Nat} {first : Int} {L L' : List (Int × Int)} {v : Value} {C C' : List ChgC} {a : Option Addr} {n c : Nat} (h : PlayI w wr S R first q L v C) (hSR : S ≠ R) (hS : w.heap.size < S) (hR : w.heap.size < R)
    (hu : USt W S L') (hf : FrU S wr W) (hr : RightU L') (hl : L'.length ≤ 3 * L.length) (hlike : LikeU first L' C') (hb2 : Below W.heap.size W W2) (hrow : RowC W2 (.slice a n c) C') (hc : C'.length ≤ C.length + 1) :
    PlayI w ((W2.setCell ⟨R, 0, none⟩ (.int .i64 first)).setCell ⟨R, 1, none⟩ (.slice a n c)) S R first (q + 1) L' (.slice a n c) C' := by
  obtain ⟨m1, m2, m3⟩ := h.mid hSR (by omega) hf
  have hRl := (Array.getElem?_eq_some_iff.1 m2).1
  have b2 := (hb2.block R hRl).trans m2
  have hw := ((wrote_refl b2).set 0 (.int .i64 first)).set 1 (.slice a n c)
  obtain ⟨ad, cp, hv⟩ := h.row.form
  have hne := (hf.row R (Array.getElem?_eq_some_iff.1 h.box).1 h.ne).below hb2
  have hst := (hu.below hb2).wrote hne hSR (fun k hk => hw.rest k hk) (by rw [hw.size]; exact Nat.le_refl _)
  have h3 : 3 ^ (q + 1) = 3 * 3 ^ q := by rw [Nat.pow_succ]; omega
  have hne0 : ∀ b, b ≤ w.heap.size → RowNe ((W2.setCell ⟨R, 0, none⟩ (.int .i64 first)).setCell ⟨R, 1, none⟩ (.slice a n c)) S b := fun b hbb => by
    obtain ⟨g, n1, c1, q1, q2⟩ := (hf.row b (Nat.lt_of_le_of_lt hbb (Array.getElem?_eq_some_iff.1 h.res).1) (h.ne0 b hbb)).below hb2
    exact ⟨g, n1, c1, (hw.rest S hSR).trans q1, q2⟩
  refine ⟨hst.1, hr, by have := h.len; omega, hw.there, ?_, by have := h.clen; omega, hlike, hst.2, hne0, hw.below (Below.trans m3 (Below.mono hb2 m3.size)) (by omega), ?_⟩
  · exact hrow.keep b2 (.inl ⟨ad, C.length, cp, hv⟩) (by rw [hw.size]; exact Nat.le_refl _) (fun g _ hg => hw.rest g hg)
  · have hrl := (Array.getElem?_eq_some_iff.1 h.res).1
    exact (hw.rest _ (by omega)).trans ((hb2.block _ (Nat.lt_of_lt_of_le hrl hf.size)).trans ((hf.block _ hrl (by show ¬ (w.heap.size = S); omega)).trans h.res))
theorem pow_lt {q : Nat} (h : q ≤ 24) : 3 ^ q ≤ 282429536481 := Nat.le_trans (Nat.pow_le_pow_right (by decide) h) (by decide)
set_option maxRecDepth 100000 in
set_option maxHeartbeats 16000000 in
theorem play_ne (lad : Option Addr) (ll lcap : Nat) (A : Nat → ActU) (first : Int) (most : Nat) (hmost : most ≤ 24) (w : World) (hA : ActsU w lad ll A) :
    Calls Try.prog 11 #[.int .i64 first, .slice lad ll lcap, .int .i64 most] w fun e w' => ∃ S v L C, e = .returned (.tuple #[.pointer (some ⟨S, 0, none⟩), .agg #[.int .i64 first, v]]) ∧ w.heap.size ≤ S ∧ USt w' S L ∧ RightU L ∧ L.length ≤ 282429536481 ∧ RowC w' v C ∧ C.length ≤ most ∧ LikeU first L C ∧ Below w.heap.size w w' ∧ ∀ b, b < w.heap.size → RowNe w' S b := by
  have hmx : Try.prog.follows .mixedOrders = true := by kernel_rfl
  have HA := Lib.hid hA
  clear hA
  have hb0 := below_alloc (Below.refl _ w) (.cells #[.int .i64 0, .slice none 0 0] 28)
  have n0 := World.alloc_heap_new w (.cells #[.int .i64 0, .slice none 0 0] 28)
  go_enter Try.func11, Try.ntmps11
  go_upto_region 1 with fail
  generalize w.alloc (.cells #[.int .i64 0, .slice none 0 0] 28) = W0 at *
  go_wp2_with fail
  refine (flat_row first _).mono ?_
  rintro e W1 ⟨S, rfl, hS, hu, hb1, hrn⟩
  have n1 := (hb1.block _ (Array.getElem?_eq_some_iff.1 n0).1).trans n0
  have hw0 := (Array.getElem?_eq_some_iff.1 n0).1
  have hs1 := (Array.getElem?_eq_some_iff.1 n1).1
  have hb2 := below_alloc (Below.refl _ W1) (.cells #[.int .i64 first, .slice none 0 0] 28)
  have n2 := World.alloc_heap_new W1 (.cells #[.int .i64 first, .slice none 0 0] 28)
  have hSlt : S < W1.heap.size := by
    obtain ⟨g, c, _, hs, _⟩ := hu.at_
    exact (Array.getElem?_eq_some_iff.1 hs).1
  have HI := Lib.hid (show PlayI w (W1.alloc (.cells #[.int .i64 first, .slice none 0 0] 28)) S W1.heap.size first 0 [(0, boundU first)] (.slice none 0 0) [] from
    ⟨hu.below hb2, right_flat first, by simp, n2, RowC.nil _, by simp, like_flat first, (hu.rowNe (Nat.le_refl _)).below hb2, fun b hbb => (hrn b (Nat.lt_of_le_of_lt hbb hw0)).below hb2, below_next (below_next hb0 hb1) hb2, (hb2.block _ hs1).trans n1⟩)
  have hS0 := hb0.size
  clear hu hb0 hb1 hb2 hrn n0 n1 n2
  go_upto_region 3 with fail
  have hwR : w.heap.size < W1.heap.size := by omega
  generalize hRR : W1.heap.size = R at *
  generalize W1.alloc (.cells #[.int .i64 first, .slice none 0 0] 28) = W2 at *
  have hSR : S ≠ R := by omega
  have hSw : w.heap.size < S := by omega
  have hRw : w.heap.size < R := by omega
  clear hRR
  go_wp2_with fail
  go_loopw [10] (fun i wr => ∃ (q : Nat) (L : List (Int × Int)) (v : Value) (C : List ChgC), q ≤ ll ∧ q ≤ most ∧ i = .int .i64 q ∧ PlayI w wr S R first q L v C) (fun i _ => 24 - (intOf i).toNat)
  case atStart => exact ⟨0, _, _, _, by omega, by omega, rfl, HI.out⟩
  case round =>
    obtain ⟨q, L, v, C, hql, hqm, rfl, hi⟩ := hrel
    have HI2 := Lib.hid hi
    obtain ⟨vad, vn, vcp, rfl⟩ : ∃ a n c, v = .slice a n c := by obtain ⟨a, c, e⟩ := hi.row.form; exact ⟨_, _, _, e⟩
    clear hi HI
    have hll := HA.out.1
    by_cases hlt : q < ll ∧ q < most
    case pos =>
      have hd1 : decide (q < ll) = true := decide_eq_true hlt.1
      have hd2 : decide (q < most) = true := decide_eq_true hlt.2
      have hix : (q : Int) < (ll : Int) := by omega
      have hw1 : IntKind.i64.wrap ((q : Int) + 1) = ((q + 1 : Nat) : Int) := by rw [IntKind.wrap_i64]; omega
      obtain ⟨ab, off, rfl, hrow⟩ := HA.out.2 (by omega)
      have hc := hrow q hlt.1
      clear hrow
      generalize A q = a at hc
      obtain ⟨kd, fr, to_, an⟩ := a
      have hbl := HI2.out.bel
      have w0 := (hbl.cell (p := ⟨ab, off + q * 4, none⟩) (World.block_lt_of_cell? w _ hc.c0)).trans hc.c0
      have w1 := (hbl.cell (p := ⟨ab, off + q * 4 + 1, none⟩) (World.block_lt_of_cell? w _ hc.c1)).trans hc.c1
      have w2 := (hbl.cell (p := ⟨ab, off + q * 4 + 2, none⟩) (World.block_lt_of_cell? w _ hc.c2)).trans hc.c2
      have w3 := (hbl.cell (p := ⟨ab, off + q * 4 + 3, none⟩) (World.block_lt_of_cell? w _ hc.c3)).trans hc.c3
      clear hbl hc
      simp only at w0 w1 w2 w3
      have hbA := below_alloc (Below.refl _ wr) (.cells #[.int .i64 kd, .int .i64 fr, .int .i64 to_, .int .i64 an] 105)
      have nA := World.alloc_heap_new wr (.cells #[.int .i64 kd, .int .i64 fr, .int .i64 to_, .int .i64 an] 105)
      have HI3 := Lib.hid (HI2.out.below hbA)
      have NA := Lib.hid nA
      clear hbA nA
      go_upto_region 7 with fail
      have hSX : S < wr.heap.size := by
        obtain ⟨g, c, _, hs, _⟩ := HI2.out.st.at_
        exact (Array.getElem?_eq_some_iff.1 hs).1
      have hXX : (wr.alloc (.cells #[.int .i64 kd, .int .i64 fr, .int .i64 to_, .int .i64 an] 105)).heap.size = wr.heap.size + 1 := by simp
      obtain ⟨X, hXe⟩ : ∃ X, X = wr.heap.size := ⟨_, rfl⟩
      rw [← hXe] at hSX hXX
      have NA := Lib.hid (hXe ▸ NA.out)
      rw [← hXe]
      clear HI2 w0 w1 w2 w3 hXe
      generalize wr.alloc (.cells #[.int .i64 kd, .int .i64 fr, .int .i64 to_, .int .i64 an] 105) = V1 at *
      have a0 := cell_of_block (o := 0) NA.out rfl
      have a1 := cell_of_block (o := 1) NA.out rfl
      have a2 := cell_of_block (o := 2) NA.out rfl
      have a3 := cell_of_block (o := 3) NA.out rfl
      go_wp2_with fail
      refine (own_any fr to_ _).mono ?_
      rintro e V2 ⟨rfl, hbO⟩
      have hbB := below_alloc (Below.refl _ V2) (.cells #[.int .i64 fr, .int .i64 to_] 43)
      have nB := World.alloc_heap_new V2 (.cells #[.int .i64 fr, .int .i64 to_] 43)
      have HI5 := Lib.hid ((HI3.out.below hbO).below hbB)
      have gA := (hbO.block X (by omega)).trans NA.out
      have gA5 := (hbB.block X (Array.getElem?_eq_some_iff.1 gA).1).trans gA
      have hX5 := (Array.getElem?_eq_some_iff.1 gA5).1
      have hX6 := (Array.getElem?_eq_some_iff.1 nB).1
      have hX7 := (Array.getElem?_eq_some_iff.1 gA).1
      have NA5 := Lib.hid gA5
      have NB5 := Lib.hid nB
      clear a0 a1 a2 a3 hbO hbB nB gA gA5 HI3 NA
      go_upto_region 8 with fail
      obtain ⟨X2, hX2e⟩ : ∃ X2, X2 = V2.heap.size := ⟨_, rfl⟩
      rw [← hX2e] at hX6 hX7
      have NB5 := Lib.hid (hX2e ▸ NB5.out)
      rw [← hX2e]
      clear hX2e
      generalize V2.alloc (.cells #[.int .i64 fr, .int .i64 to_] 43) = V3 at *
      have a0 := cell_of_block (o := 0) NA5.out rfl
      have a1 := cell_of_block (o := 1) NA5.out rfl
      have a2 := cell_of_block (o := 2) NA5.out rfl
      have a3 := cell_of_block (o := 3) NA5.out rfl
      have s0 := cell_of_block (o := 0) NB5.out rfl
      have s1 := cell_of_block (o := 1) NB5.out rfl
      by_cases KD : kd = 0
      · skip
        subst KD
        go_wp2_with fail
        refine (add_r HI5.out.st HI5.out.right (by have h1 := HI5.out.len; have h2 := pow_lt (show q + 1 ≤ 24 by omega); rw [Nat.pow_succ] at h2; omega) fr to_ an).mono ?_
        rintro e W5 ⟨rfl, hu5, hf5⟩
        obtain ⟨m1, m2, m3⟩ := HI5.out.mid hSR (by omega) hf5
        have b0 := cell_of_block (o := 0) m2 rfl
        have b1 := cell_of_block (o := 1) m2 rfl
        have gA := (hf5.block X hX5 (by show ¬ (X = S); omega)).trans NA5.out
        have gB := (hf5.block X2 hX6 (by show ¬ (X2 = S); omega)).trans NB5.out
        have a0 := cell_of_block (o := 0) gA rfl
        have a1 := cell_of_block (o := 1) gA rfl
        have a2 := cell_of_block (o := 2) gA rfl
        have a3 := cell_of_block (o := 3) gA rfl
        have s0 := cell_of_block (o := 0) gB rfl
        have s1 := cell_of_block (o := 1) gB rfl
        have HU5 := Lib.hid (And.intro hu5 hf5)
        have KR := Lib.hid (rchg_add m1 (by have := HI5.out.clen; omega) first fr to_ an)
        have hm2 := Lib.hid m2
        clear hu5 hf5 m1 m2 m3 gA gB
        go_wp2_with fail
        refine KR.out.mono ?_
        rintro e W6 ⟨v', rfl, hr6, hb6⟩
        obtain ⟨ad', n', cp', rfl⟩ : ∃ a n c, v' = .slice a n c := by obtain ⟨x, z, e⟩ := hr6.form; exact ⟨_, _, _, e⟩
        have HI7 := Lib.hid (HI5.out.step hSR hSw hRw HU5.out.1 HU5.out.2 (change_right HI5.out.right (addF_in _) _ _).1 (changeU_len _ _ _) (like_add HI5.out.like HI5.out.right fr to_ an) hb6 hr6 (by simp))
        have b6 := (hb6.block R (Array.getElem?_eq_some_iff.1 hm2.out).1).trans hm2.out
        have d0 := cell_of_block (o := 0) b6 rfl
        have d1 := cell_of_block (o := 1) b6 rfl
        have f0 := free_of_block 0 b6
        have f1 := free_of_block 1 b6
        clear b0 b1 a0 a1 a2 a3 s0 s1 hb6 hr6 b6
        go_wp2_with fail
        exact ⟨⟨q + 1, _, _, _, by omega, by omega, rfl, HI7.out⟩, by show 24 - (((q + 1 : Nat) : Int)).toNat < 24 - ((q : Int)).toNat; omega⟩
      by_cases KD1 : kd = 1
      · skip
        subst KD1
        go_wp2_with fail
        refine (set_r HI5.out.st HI5.out.right (by have h1 := HI5.out.len; have h2 := pow_lt (show q + 1 ≤ 24 by omega); rw [Nat.pow_succ] at h2; omega) fr to_ an).mono ?_
        rintro e W5 ⟨rfl, hu5, hf5⟩
        obtain ⟨m1, m2, m3⟩ := HI5.out.mid hSR (by omega) hf5
        have b0 := cell_of_block (o := 0) m2 rfl
        have b1 := cell_of_block (o := 1) m2 rfl
        have gA := (hf5.block X hX5 (by show ¬ (X = S); omega)).trans NA5.out
        have gB := (hf5.block X2 hX6 (by show ¬ (X2 = S); omega)).trans NB5.out
        have a0 := cell_of_block (o := 0) gA rfl
        have a1 := cell_of_block (o := 1) gA rfl
        have a2 := cell_of_block (o := 2) gA rfl
        have a3 := cell_of_block (o := 3) gA rfl
        have s0 := cell_of_block (o := 0) gB rfl
        have s1 := cell_of_block (o := 1) gB rfl
        have HU5 := Lib.hid (And.intro hu5 hf5)
        have KR := Lib.hid (rchg_set m1 (by have := HI5.out.clen; omega) first fr to_ an)
        have hm2 := Lib.hid m2
        clear hu5 hf5 m1 m2 m3 gA gB
        go_wp2_with fail
        refine KR.out.mono ?_
        rintro e W6 ⟨v', rfl, hr6, hb6⟩
        obtain ⟨ad', n', cp', rfl⟩ : ∃ a n c, v' = .slice a n c := by obtain ⟨x, z, e⟩ := hr6.form; exact ⟨_, _, _, e⟩
        have HI7 := Lib.hid (HI5.out.step hSR hSw hRw HU5.out.1 HU5.out.2 (change_right HI5.out.right (fun _ => boundU_in _) _ _).1 (changeU_len _ _ _) (like_set HI5.out.like HI5.out.right fr to_ an) hb6 hr6 (by simp))
        have b6 := (hb6.block R (Array.getElem?_eq_some_iff.1 hm2.out).1).trans hm2.out
        have d0 := cell_of_block (o := 0) b6 rfl
        have d1 := cell_of_block (o := 1) b6 rfl
        have f0 := free_of_block 0 b6
        have f1 := free_of_block 1 b6
        clear b0 b1 a0 a1 a2 a3 s0 s1 hb6 hr6 b6
        go_wp2_with fail
        exact ⟨⟨q + 1, _, _, _, by omega, by omega, rfl, HI7.out⟩, by show 24 - (((q + 1 : Nat) : Int)).toNat < 24 - ((q : Int)).toNat; omega⟩
      by_cases KD2 : kd = 2
      · skip
        subst KD2
        go_wp2_with fail
        refine (forget_any HI5.out.st HI5.out.right (by have h1 := HI5.out.len; have h2 := pow_lt (show q + 1 ≤ 24 by omega); rw [Nat.pow_succ] at h2; omega) fr).mono ?_
        rintro e W5 ⟨rfl, hu5, hf5⟩
        obtain ⟨m1, m2, m3⟩ := HI5.out.mid hSR (by omega) hf5
        have b0 := cell_of_block (o := 0) m2 rfl
        have b1 := cell_of_block (o := 1) m2 rfl
        have gA := (hf5.block X hX5 (by show ¬ (X = S); omega)).trans NA5.out
        have gB := (hf5.block X2 hX6 (by show ¬ (X2 = S); omega)).trans NB5.out
        have a0 := cell_of_block (o := 0) gA rfl
        have a1 := cell_of_block (o := 1) gA rfl
        have a2 := cell_of_block (o := 2) gA rfl
        have a3 := cell_of_block (o := 3) gA rfl
        have s0 := cell_of_block (o := 0) gB rfl
        have s1 := cell_of_block (o := 1) gB rfl
        have HU5 := Lib.hid (And.intro hu5 hf5)
        have KR := Lib.hid (rchg_forget m1 (by have := HI5.out.clen; omega) first fr)
        have hm2 := Lib.hid m2
        clear hu5 hf5 m1 m2 m3 gA gB
        go_wp2_with fail
        refine KR.out.mono ?_
        rintro e W6 ⟨v', rfl, hr6, hb6⟩
        obtain ⟨ad', n', cp', rfl⟩ : ∃ a n c, v' = .slice a n c := by obtain ⟨x, z, e⟩ := hr6.form; exact ⟨_, _, _, e⟩
        have HI7 := Lib.hid (HI5.out.step hSR hSw hRw HU5.out.1 HU5.out.2 (forget_right HI5.out.right fr) (forgetU_len _ _) (like_forget HI5.out.like HI5.out.right fr) hb6 hr6 (rforgetU_len _ _ _))
        have b6 := (hb6.block R (Array.getElem?_eq_some_iff.1 hm2.out).1).trans hm2.out
        have d0 := cell_of_block (o := 0) b6 rfl
        have d1 := cell_of_block (o := 1) b6 rfl
        have f0 := free_of_block 0 b6
        have f1 := free_of_block 1 b6
        clear b0 b1 a0 a1 a2 a3 s0 s1 hb6 hr6 b6
        go_wp2_with fail
        exact ⟨⟨q + 1, _, _, _, by omega, by omega, rfl, HI7.out⟩, by show 24 - (((q + 1 : Nat) : Int)).toNat < 24 - ((q : Int)).toNat; omega⟩
      have hk0 : (kd == 0) = false := beq_false_of_ne KD
      have hk1 : (kd == 1) = false := beq_false_of_ne KD1
      have hk2 : (kd == 2) = false := beq_false_of_ne KD2
      go_wp2_with fail
      exact ⟨⟨q + 1, L, _, C, by omega, by omega, rfl, ⟨HI5.out.st, HI5.out.right, Nat.le_trans HI5.out.len (Nat.pow_le_pow_right (by decide) (by omega)), HI5.out.box, HI5.out.row, by have := HI5.out.clen; omega, HI5.out.like, HI5.out.ne, HI5.out.ne0, HI5.out.bel, HI5.out.res⟩⟩, by show 24 - (((q + 1 : Nat) : Int)).toNat < 24 - ((q : Int)).toNat; omega⟩
    case neg =>
      have hdd : decide (q < ll) = false ∨ (decide (q < ll) = true ∧ decide (q < most) = false) := by
        by_cases h : q < ll
        · exact .inr ⟨decide_eq_true h, decide_eq_false (fun h2 => hlt ⟨h, h2⟩)⟩
        · exact .inl (decide_eq_false h)
      have c0 := cell_of_block (o := 0) HI2.out.box rfl
      have c1 := cell_of_block (o := 1) HI2.out.box rfl
      have d0 := cell_of_block (o := 0) HI2.out.res rfl
      have d1 := cell_of_block (o := 1) HI2.out.res rfl
      have f0 := free_of_block 0 HI2.out.res
      have f1 := free_of_block 1 HI2.out.res
      have hw := ((wrote_refl HI2.out.res).set 0 (.int .i64 first)).set 1 (.slice vad vn vcp)
      have hne := HI2.out.ne0 _ (Nat.le_refl _)
      have HNE := Lib.hid (show ∀ b, b ≤ w.heap.size → RowNe ((wr.setCell ⟨w.heap.size, 0, none⟩ (.int .i64 first)).setCell ⟨w.heap.size, 1, none⟩ (.slice vad vn vcp)).drew S b from fun b hbb => by
        obtain ⟨g, n1, c1, q1, q2⟩ := HI2.out.ne0 b hbb
        exact ⟨g, n1, c1, (hw.rest S (by omega)).trans q1, q2⟩)
      have HX := Lib.hid (show (∃ v L C, v = .slice vad vn vcp ∧ USt ((wr.setCell ⟨w.heap.size, 0, none⟩ (.int .i64 first)).setCell ⟨w.heap.size, 1, none⟩ (.slice vad vn vcp)).drew S L ∧ RightU L ∧ L.length ≤ 282429536481 ∧ RowC ((wr.setCell ⟨w.heap.size, 0, none⟩ (.int .i64 first)).setCell ⟨w.heap.size, 1, none⟩ (.slice vad vn vcp)).drew v C ∧ C.length ≤ most ∧ LikeU first L C ∧ Below w.heap.size w ((wr.setCell ⟨w.heap.size, 0, none⟩ (.int .i64 first)).setCell ⟨w.heap.size, 1, none⟩ (.slice vad vn vcp)).drew) from
        ⟨_, L, C, rfl, ((HI2.out.st.wrote hne (by omega) (fun k hk => hw.rest k hk) (by rw [hw.size]; exact Nat.le_refl _)).1.below (Below.refl _ _).drew), HI2.out.right, Nat.le_trans HI2.out.len (pow_lt (by omega)), (HI2.out.row.keep HI2.out.res (.inl ⟨none, 0, 0, rfl⟩) (by rw [hw.size]; exact Nat.le_refl _) (fun g _ hg => hw.rest g hg)).below (Below.refl _ _).drew, by have := HI2.out.clen; omega, HI2.out.like, Below.drew (hw.below HI2.out.bel (Nat.le_refl _))⟩)
      have HC := Lib.hid (show ((wr.setCell ⟨w.heap.size, 0, none⟩ (.int .i64 first)).setCell ⟨w.heap.size, 1, none⟩ (.slice vad vn vcp)).drew.heap[w.heap.size]? = _ from hw.there)
      clear hw hne
      rcases hdd with hdd | ⟨hdd, hdd2⟩
      all_goals (
        go_upto_region 18 with fail
        go_region
        generalize ((wr.setCell ⟨w.heap.size, 0, none⟩ (.int .i64 first)).setCell ⟨w.heap.size, 1, none⟩ (.slice vad vn vcp)).drew = V at *
        have e0 := cell_of_block (o := 0) HC.out rfl
        have e1 := cell_of_block (o := 1) HC.out rfl
        clear c0 c1 d0 d1 f0 f1
        obtain ⟨v, L, C, rfl, h1, h2, h3, h4, h5, h6, h7⟩ := HX.out
        go_wp2_with fail
        exact bodyPost_ret (v := .tuple #[.pointer (some ⟨S, 0, none⟩), .agg #[.int .i64 first, .slice vad vn vcp]]) (by simp [results, Try.results11, go_sem]; try go_simp) rfl ⟨S, _, L, C, rfl, by omega, h1, h2, h3, h4, h5, h6, h7, fun b hbb => HNE.out b (Nat.le_of_lt hbb)⟩)
theorem play_any (lad : Option Addr) (ll lcap : Nat) (A : Nat → ActU) (first : Int) (most : Nat) (hmost : most ≤ 24) (w : World) (hA : ActsU w lad ll A) :
    Calls Try.prog 11 #[.int .i64 first, .slice lad ll lcap, .int .i64 most] w fun e w' => ∃ S v L C, e = .returned (.tuple #[.pointer (some ⟨S, 0, none⟩), .agg #[.int .i64 first, v]]) ∧ w.heap.size ≤ S ∧ USt w' S L ∧ RightU L ∧ L.length ≤ 282429536481 ∧ RowC w' v C ∧ C.length ≤ 24 ∧ LikeU first L C ∧ Below w.heap.size w w' :=
  (play_ne lad ll lcap A first most hmost w hA).mono fun e w' ⟨S, v, L, C, h1, h2, h3, h4, h5, h6, h7, h8, h9, _⟩ => ⟨S, v, L, C, h1, h2, h3, h4, h5, h6, Nat.le_trans h7 hmost, h8, h9⟩
end Go.Proofs.Ytbhnjmdlagjfbaa
