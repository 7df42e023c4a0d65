/- The walk of HealthTells, where the names are laid. -/
import Derived.Test.YtcmmfpfdjhfdaaaDoorHealthO
namespace Go.Proofs.YtcmmfpfdjhfdaaaDoor
set_option linter.unusedVariables false
open Go.ChangeShapes Go.WideShapes Go.ChangeAt Go.RowKit
attribute [local go_sem ↓] Go.wp_at_zero Go.wp_at_succ comesTo_value_eq comesTo_skip_eq comesTo_enter_eq

/-- a node behind so many beats -/
def seqN (t m b P : Int) (k : Nat) : Int × Int × Int := if t = 2 ∨ t = 3 then (t, m, b) else if t = 0 then (if k = 0 then (0, m, b) else (0, 0, b)) else if b + k < P then (t, m, b + k) else (0, 0, 0)
theorem seqN_zero {t m b S D P : Int} (h2 : rightN t m b S D P = true) : seqN t m b P 0 = (t, m, b) := by
  unfold rightN at h2
  simp only [decide_eq_true_eq] at h2
  unfold seqN
  split
  · rfl
  · split
    · rename_i h; simp [h]
    · rw [if_pos (by omega)]; simp
theorem seqN_right {t m b S D P : Int} (h1 : rightR S D P = true) (h2 : rightN t m b S D P = true) (k : Nat) : rightN (seqN t m b P k).1 (seqN t m b P k).2.1 (seqN t m b P k).2.2 S D P = true := by
  unfold rightR at h1
  unfold rightN at h2 ⊢
  simp only [decide_eq_true_eq] at h1 h2 ⊢
  unfold seqN
  split
  · simp only; omega
  · split
    · split
      · exact .inl ⟨rfl, by simp only; omega, by simp only; omega, by simp only; omega⟩
      · exact .inl ⟨rfl, by simp only; omega, by simp only; omega, by simp only; omega⟩
    · split
      · simp only; omega
      · exact .inl ⟨rfl, by simp only; omega, by simp only; omega, rfl⟩
theorem seqN_step {t m b S D P : Int} (h1 : rightR S D P = true) (h2 : rightN t m b S D P = true) (k : Nat) : nextI (seqN t m b P k).1 (seqN t m b P k).2.1 (seqN t m b P k).2.2 S D P 0 = seqN t m b P (k + 1) := by
  unfold nextI
  rw [if_pos ⟨h1, seqN_right h1 h2 k⟩, if_pos rfl]
  unfold rightR at h1
  unfold rightN at h2
  simp only [decide_eq_true_eq] at h1 h2
  unfold seqN beatI
  by_cases ht : t = 2 ∨ t = 3
  · simp only [if_pos ht]
    rw [if_neg (by omega), if_neg (by omega)]
  · simp only [if_neg ht]
    by_cases h0 : t = 0
    · simp only [if_pos h0]
      by_cases hk : k = 0
      · simp [hk]
      · simp [hk]
    · simp only [if_neg h0]
      by_cases hb : b + k < P
      · simp only [if_pos hb, if_neg h0]
        rw [if_pos (by omega)]
        by_cases hP : b + k + 1 = P
        · rw [if_pos hP, if_neg (by simp only [Int.natCast_add, Int.natCast_one]; omega)]
        · rw [if_neg hP, if_pos (by simp only [Int.natCast_add, Int.natCast_one]; omega)]
          simp only [Int.natCast_add, Int.natCast_one, Int.add_assoc]
      · simp only [if_neg hb, if_true]
        rw [if_neg (by simp only [Int.natCast_add, Int.natCast_one]; omega)]
theorem seqN_end {t m b S D P : Int} (h1 : rightR S D P = true) (h2 : rightN t m b S D P = true) (k : Nat) (hk : P ≤ k) : seqN t m b P k = (0, 0, 0) ∨ seqN t m b P k = (2, 0, 0) ∨ seqN t m b P k = (3, 0, 0) := by
  unfold rightR at h1
  unfold rightN at h2
  simp only [decide_eq_true_eq] at h1 h2
  unfold seqN
  by_cases ht : t = 2 ∨ t = 3
  · rw [if_pos ht]
    obtain ⟨rfl, rfl⟩ : m = 0 ∧ b = 0 := by omega
    rcases ht with rfl | rfl
    · exact .inr (.inl rfl)
    · exact .inr (.inr rfl)
  · rw [if_neg ht]
    by_cases h0 : t = 0
    · obtain rfl : b = 0 := by omega
      rw [if_pos h0, if_neg (by omega)]; exact .inl rfl
    · rw [if_neg h0, if_neg (by omega)]; exact .inl rfl
theorem next_keeps {t m b S D P k : Int} (h : k < 0 ∨ 4 < k ∨ (k = 2 ∧ t ≠ 2) ∨ (k = 3 ∧ t ≠ 0) ∨ (k = 4 ∧ t ≠ 3)) : nextI t m b S D P k = (t, m, b) := by
  unfold nextI
  split
  · rcases h with h | h | ⟨rfl, h⟩ | ⟨rfl, h⟩ | ⟨rfl, h⟩
    · rw [if_neg (by omega), if_neg (by omega), if_neg (by omega), if_neg (by omega), if_neg (by omega)]
    · rw [if_neg (by omega), if_neg (by omega), if_neg (by omega), if_neg (by omega), if_neg (by omega)]
    · rw [if_neg (by omega), if_neg (by omega), if_pos rfl]; unfold fromI; rw [if_neg h]
    · rw [if_neg (by omega), if_neg (by omega), if_neg (by omega), if_pos rfl]; unfold fromI; rw [if_neg h]
    · rw [if_neg (by omega), if_neg (by omega), if_neg (by omega), if_neg (by omega), if_pos rfl]; unfold fromI; rw [if_neg h]
  · rfl

/-- the rules in one block, a node in another one -/
structure TellsAt (w0 : World) (g q : Nat) (S D P x0 x1 x2 : Int) (wr : World) : Prop where
  c0 : wr.cell? ⟨g, 0, none⟩ = some (.int .i64 S)
  c1 : wr.cell? ⟨g, 1, none⟩ = some (.int .i64 D)
  c2 : wr.cell? ⟨g, 2, none⟩ = some (.int .i64 P)
  d0 : wr.cell? ⟨q, 0, none⟩ = some (.int .i64 x0)
  d1 : wr.cell? ⟨q, 1, none⟩ = some (.int .i64 x1)
  d2 : wr.cell? ⟨q, 2, none⟩ = some (.int .i64 x2)
  f0 : wr.frozen? ⟨q, 0, none⟩ = false
  f1 : wr.frozen? ⟨q, 1, none⟩ = false
  f2 : wr.frozen? ⟨q, 2, none⟩ = false
  bel : Below w0.heap.size w0 wr
theorem TellsAt.below {w0 wr w1 : World} {g q : Nat} {S D P x0 x1 x2 : Int} (h : TellsAt w0 g q S D P x0 x1 x2 wr) (hb : Below wr.heap.size wr w1) : TellsAt w0 g q S D P x0 x1 x2 w1 := by
  have l0 := World.block_lt_of_cell? _ _ h.c0
  have l1 := World.block_lt_of_cell? _ _ h.d0
  obtain ⟨hc, hf⟩ := bcell hb
  exact ⟨(hc _ 0 l0).trans h.c0, (hc _ 1 l0).trans h.c1, (hc _ 2 l0).trans h.c2, (hc _ 0 l1).trans h.d0, (hc _ 1 l1).trans h.d1, (hc _ 2 l1).trans h.d2, (hf _ 0 l1).trans h.f0, (hf _ 1 l1).trans h.f1, (hf _ 2 l1).trans h.f2, below_next h.bel hb⟩
theorem TellsAt.store {w0 wr : World} {g q : Nat} {S D P x0 x1 x2 : Int} (h : TellsAt w0 g q S D P x0 x1 x2 wr) (hgq : g ≠ q) (hq : w0.heap.size ≤ q) (y0 y1 y2 : Int) :
    TellsAt w0 g q S D P y0 y1 y2 (((wr.setCell ⟨q, 0, none⟩ (.int .i64 y0)).setCell ⟨q, 1, none⟩ (.int .i64 y1)).setCell ⟨q, 2, none⟩ (.int .i64 y2)) := by
  obtain ⟨c0, c1, c2, d0, d1, d2, f0, f1, f2, hx⟩ := h
  have hqg : q ≠ g := fun h => hgq h.symm
  exact ⟨by go_simp, by go_simp, by go_simp, by go_simp, by go_simp, by go_simp, by go_simp, by go_simp, by go_simp, ((hx.setCell hq _).setCell hq _).setCell hq _⟩

set_option maxRecDepth 100000 in
set_option maxHeartbeats 8000000 in
theorem tells_walk (t m b S D P k : Int) (w : World) (hN : NamesAt w) :
    Calls Tryd.prog 5 #[.agg #[.int .i64 S, .int .i64 D, .int .i64 P], .agg #[.int .i64 t, .int .i64 m, .int .i64 b], .int .i64 k] w fun e w' => e = .returned (.bool true) ∧ Below w.heap.size w w' := by
  have HN := Lib.hid hN
  clear hN
  have kR := Lib.hid (fun W => rightR_any S D P W)
  have kN := Lib.hid (fun W => rightN_any t m b S D P W)
  have kX := Lib.hid (fun W => next_any t m b S D P k W)
  cases e1 : rightR S D P with
  | false =>
    rw [e1] at kR
    clear e1
    go_enter Tryd.func5, Tryd.ntmps5
    go_wp2_with fail
    refine (kR.out _).mono ?_
    rintro e w1 ⟨rfl, hb1⟩
    have hx := Lib.hid (show Below w.heap.size w w1 from Below.trans (by exact (by repeat (first | exact Below.refl _ _ | assumption | refine below_drewN ?_ _ | refine Below.drew ?_ | refine below_alloc ?_ _ | refine Below.alloc ?_ (by first | omega | (simp; done) | (simp; omega)) _ | refine Below.setCell ?_ (Below.size (by assumption)) _ | refine Below.setCell ?_ (by first | omega | (simp; done) | (simp; omega)) _ | (refine Below.trans ?_ (Below.mono (by assumption) (by first | omega | (simp; done) | (simp; omega)))) | refine below_next ?_ (by assumption)))) (hb1.mono (by simp; omega)))
    clear hb1
    go_wp2_with (go_at_call 8; refine (one_any _ (HN.out.below hx.out)).mono ?_; rintro e w2 ⟨rfl, hb2⟩)
    go_ret
    exact ⟨rfl, below_next hx.out hb2⟩
  | true =>
    rw [e1] at kR
    cases e2 : rightN t m b S D P with
    | false =>
      rw [e2] at kN
      clear e1 e2
      go_enter Tryd.func5, Tryd.ntmps5
      go_wp2_with fail
      generalize hW : (w.alloc (.cells #[.int .i64 S, .int .i64 D, .int .i64 P] 28)).alloc (.cells #[.int .i64 t, .int .i64 m, .int .i64 b] 31) = W0
      have c0 : W0.cell? ⟨w.heap.size, 0, none⟩ = some (.int .i64 S) := by subst hW; go_simp
      have c1 : W0.cell? ⟨w.heap.size, 1, none⟩ = some (.int .i64 D) := by subst hW; go_simp
      have c2 : W0.cell? ⟨w.heap.size, 2, none⟩ = some (.int .i64 P) := by subst hW; go_simp
      have d0 : W0.cell? ⟨w.heap.size + 1, 0, none⟩ = some (.int .i64 t) := by subst hW; go_simp
      have d1 : W0.cell? ⟨w.heap.size + 1, 1, none⟩ = some (.int .i64 m) := by subst hW; go_simp
      have d2 : W0.cell? ⟨w.heap.size + 1, 2, none⟩ = some (.int .i64 b) := by subst hW; go_simp
      have hx0 := Lib.hid (show Below w.heap.size w W0 by rw [← hW]; exact (by repeat (first | exact Below.refl _ _ | assumption | refine below_drewN ?_ _ | refine Below.drew ?_ | refine below_alloc ?_ _ | refine Below.alloc ?_ (by first | omega | (simp; done) | (simp; omega)) _ | refine Below.setCell ?_ (Below.size (by assumption)) _ | refine Below.setCell ?_ (by first | omega | (simp; done) | (simp; omega)) _ | (refine Below.trans ?_ (Below.mono (by assumption) (by first | omega | (simp; done) | (simp; omega)))) | refine below_next ?_ (by assumption))))
      clear hW
      have l0 : w.heap.size < W0.heap.size := World.block_lt_of_cell? _ _ c0
      have l1 : w.heap.size + 1 < W0.heap.size := World.block_lt_of_cell? _ _ d0
      refine (kR.out _).mono ?_
      rintro e w1 ⟨rfl, hb1⟩
      obtain ⟨hc, hf⟩ := bcell hb1
      replace c0 := (hc _ 0 l0).trans c0
      replace c1 := (hc _ 1 l0).trans c1
      replace c2 := (hc _ 2 l0).trans c2
      replace d0 := (hc _ 0 l1).trans d0
      replace d1 := (hc _ 1 l1).trans d1
      replace d2 := (hc _ 2 l1).trans d2
      have hx1 := Lib.hid (below_next hx0.out hb1)
      clear hc hf hb1 hx0 l0 l1
      go_wp2_with fail
      clear W0
      refine (kN.out _).mono ?_
      rintro e w2 ⟨rfl, hb2⟩
      have hx2 := Lib.hid (below_next hx1.out hb2)
      clear c0 c1 c2 d0 d1 d2 hb2 hx1
      go_wp2_with (go_at_call 8; refine (one_any _ (HN.out.below hx2.out)).mono ?_; rintro e w3 ⟨rfl, hb3⟩)
      go_ret
      exact ⟨rfl, below_next hx2.out hb3⟩
    | true =>
      rw [e2] at kN
      --MAIN
      have hP := e1
      unfold rightR at hP
      simp only [decide_eq_true_eq] at hP
      obtain ⟨hP0, hP1, hP2, hP3, hP4⟩ := hP
      have kB := Lib.hid (fun (j : Nat) (W : World) => next_any (seqN t m b P j).1 (seqN t m b P j).2.1 (seqN t m b P j).2.2 S D P 0 W)
      have kB' := Lib.hid (fun j : Nat => seqN_step e1 e2 j)
      have kE := Lib.hid (seqN_end e1 e2 P.toNat (by omega))
      have k0 := Lib.hid (seqN_zero e2)
      have kK := Lib.hid (fun h => next_keeps (t := t) (m := m) (b := b) (S := S) (D := D) (P := P) (k := k) h)
      clear e1 e2
      go_enter Tryd.func5, Tryd.ntmps5
      go_wp2_with fail
      generalize hW : (w.alloc (.cells #[.int .i64 S, .int .i64 D, .int .i64 P] 28)).alloc (.cells #[.int .i64 t, .int .i64 m, .int .i64 b] 31) = W0
      have c0 : W0.cell? ⟨w.heap.size, 0, none⟩ = some (.int .i64 S) := by subst hW; go_simp
      have c1 : W0.cell? ⟨w.heap.size, 1, none⟩ = some (.int .i64 D) := by subst hW; go_simp
      have c2 : W0.cell? ⟨w.heap.size, 2, none⟩ = some (.int .i64 P) := by subst hW; go_simp
      have d0 : W0.cell? ⟨w.heap.size + 1, 0, none⟩ = some (.int .i64 t) := by subst hW; go_simp
      have d1 : W0.cell? ⟨w.heap.size + 1, 1, none⟩ = some (.int .i64 m) := by subst hW; go_simp
      have d2 : W0.cell? ⟨w.heap.size + 1, 2, none⟩ = some (.int .i64 b) := by subst hW; go_simp
      have f0 : W0.frozen? ⟨w.heap.size + 1, 0, none⟩ = false := by subst hW; go_simp
      have f1 : W0.frozen? ⟨w.heap.size + 1, 1, none⟩ = false := by subst hW; go_simp
      have f2 : W0.frozen? ⟨w.heap.size + 1, 2, none⟩ = false := by subst hW; go_simp
      have hx0 := Lib.hid (show Below w.heap.size w W0 by rw [← hW]; exact (by repeat (first | exact Below.refl _ _ | assumption | refine below_drewN ?_ _ | refine Below.drew ?_ | refine below_alloc ?_ _ | refine Below.alloc ?_ (by first | omega | (simp; done) | (simp; omega)) _ | refine Below.setCell ?_ (Below.size (by assumption)) _ | refine Below.setCell ?_ (by first | omega | (simp; done) | (simp; omega)) _ | (refine Below.trans ?_ (Below.mono (by assumption) (by first | omega | (simp; done) | (simp; omega)))) | refine below_next ?_ (by assumption))))
      clear hW
      have l0 : w.heap.size < W0.heap.size := World.block_lt_of_cell? _ _ c0
      have l1 : w.heap.size + 1 < W0.heap.size := World.block_lt_of_cell? _ _ d0
      refine (kR.out _).mono ?_
      rintro e w1 ⟨rfl, hb1⟩
      obtain ⟨hc, hf⟩ := bcell hb1
      replace c0 := (hc _ 0 l0).trans c0
      replace c1 := (hc _ 1 l0).trans c1
      replace c2 := (hc _ 2 l0).trans c2
      replace d0 := (hc _ 0 l1).trans d0
      replace d1 := (hc _ 1 l1).trans d1
      replace d2 := (hc _ 2 l1).trans d2
      replace f0 := (hf _ 0 l1).trans f0
      replace f1 := (hf _ 1 l1).trans f1
      replace f2 := (hf _ 2 l1).trans f2
      have hx1 := Lib.hid (below_next hx0.out hb1)
      replace l0 : w.heap.size < w1.heap.size := Nat.lt_of_lt_of_le l0 hb1.size
      replace l1 : w.heap.size + 1 < w1.heap.size := Nat.lt_of_lt_of_le l1 hb1.size
      clear hc hf hb1 hx0
      go_wp2_with fail
      clear W0
      refine (kN.out _).mono ?_
      rintro e w2 ⟨rfl, hb2⟩
      obtain ⟨hc, hf⟩ := bcell hb2
      replace c0 := (hc _ 0 l0).trans c0
      replace c1 := (hc _ 1 l0).trans c1
      replace c2 := (hc _ 2 l0).trans c2
      replace d0 := (hc _ 0 l1).trans d0
      replace d1 := (hc _ 1 l1).trans d1
      replace d2 := (hc _ 2 l1).trans d2
      replace f0 := (hf _ 0 l1).trans f0
      replace f1 := (hf _ 1 l1).trans f1
      replace f2 := (hf _ 2 l1).trans f2
      have hx2 := Lib.hid (below_next hx1.out hb2)
      replace l0 : w.heap.size < w2.heap.size := Nat.lt_of_lt_of_le l0 hb2.size
      replace l1 : w.heap.size + 1 < w2.heap.size := Nat.lt_of_lt_of_le l1 hb2.size
      clear hc hf hb2 hx1
      by_cases h60 : 60 < P
      · go_wp2_with (go_at_call 8; refine (one_any _ (HN.out.below hx2.out)).mono ?_; rintro e w3 ⟨rfl, hb3⟩)
        go_ret
        exact ⟨rfl, below_next hx2.out hb3⟩
      · go_wp2_with fail
        clear w1
        refine (kX.out _).mono ?_
        rintro e w3 ⟨rfl, hb3⟩
        obtain ⟨hc, hf⟩ := bcell hb3
        replace c0 := (hc _ 0 l0).trans c0
        replace c1 := (hc _ 1 l0).trans c1
        replace c2 := (hc _ 2 l0).trans c2
        replace d0 := (hc _ 0 l1).trans d0
        replace d1 := (hc _ 1 l1).trans d1
        replace d2 := (hc _ 2 l1).trans d2
        replace f0 := (hf _ 0 l1).trans f0
        replace f1 := (hf _ 1 l1).trans f1
        replace f2 := (hf _ 2 l1).trans f2
        have hx3 := Lib.hid (below_next hx2.out hb3)
        replace l0 : w.heap.size < w3.heap.size := Nat.lt_of_lt_of_le l0 hb3.size
        replace l1 : w.heap.size + 1 < w3.heap.size := Nat.lt_of_lt_of_le l1 hb3.size
        clear hc hf hb3 hx2
        simp only [aggN]
        generalize hM : nextI t m b S D P k = M at *
        obtain ⟨M1, M2, M3⟩ := M
        go_upto_region 4 with fail
        generalize hW : w3.alloc (.cells #[.int .i64 M1, .int .i64 M2, .int .i64 M3] 31) = W4
        have r0 : W4.cell? ⟨w3.heap.size, 0, none⟩ = some (.int .i64 M1) := by subst hW; go_simp
        have r1 : W4.cell? ⟨w3.heap.size, 1, none⟩ = some (.int .i64 M2) := by subst hW; go_simp
        have r2 : W4.cell? ⟨w3.heap.size, 2, none⟩ = some (.int .i64 M3) := by subst hW; go_simp
        have C0 : W4.cell? ⟨w.heap.size, 0, none⟩ = some (.int .i64 S) := by subst hW; go_simp
        have C1 : W4.cell? ⟨w.heap.size, 1, none⟩ = some (.int .i64 D) := by subst hW; go_simp
        have C2 : W4.cell? ⟨w.heap.size, 2, none⟩ = some (.int .i64 P) := by subst hW; go_simp
        have D0 : W4.cell? ⟨w.heap.size + 1, 0, none⟩ = some (.int .i64 t) := by subst hW; go_simp
        have D1 : W4.cell? ⟨w.heap.size + 1, 1, none⟩ = some (.int .i64 m) := by subst hW; go_simp
        have D2 : W4.cell? ⟨w.heap.size + 1, 2, none⟩ = some (.int .i64 b) := by subst hW; go_simp
        have F0 : W4.frozen? ⟨w.heap.size + 1, 0, none⟩ = false := by subst hW; go_simp
        have F1 : W4.frozen? ⟨w.heap.size + 1, 1, none⟩ = false := by subst hW; go_simp
        have F2 : W4.frozen? ⟨w.heap.size + 1, 2, none⟩ = false := by subst hW; go_simp
        have hx4 := Lib.hid (show Below w.heap.size w W4 by rw [← hW]; exact hx3.out.alloc hx3.out.size _)
        clear hW
        generalize hq : w3.heap.size = q at *
        clear hq
        clear c0 c1 c2 d0 d1 d2 f0 f1 f2 hx3 l0 l1
        clear w3
        go_cut [80] (fun s80 wx => s80 = .bool false ∧ wx = W4)
        case first =>
          have KK := kK.out
          clear kK kX kB kB' kE k0 kN kR
          rcases (show (k < 0 ∨ 4 < k) ∨ k = 0 ∨ k = 1 ∨ (k = 2 ∧ t = 2) ∨ (k = 2 ∧ t ≠ 2) ∨ (k = 3 ∧ t = 0) ∨ (k = 3 ∧ t ≠ 0) ∨ (k = 4 ∧ t = 3) ∨ (k = 4 ∧ t ≠ 3) by omega) with h | rfl | rfl | ⟨rfl, rfl⟩ | ⟨rfl, h⟩ | ⟨rfl, rfl⟩ | ⟨rfl, h⟩ | ⟨rfl, rfl⟩ | ⟨rfl, h⟩
          · have hM := KK (by omega)
            simp only [Prod.mk.injEq] at hM
            obtain ⟨rfl, rfl, rfl⟩ := hM
            have k2 : (k == 2) = false := by simp; omega
            have k3 : (k == 3) = false := by simp; omega
            have k4 : (k == 4) = false := by simp; omega
            clear KK
            rcases h with h | h
            · go_wp2_with fail
              go_meet
              exact ⟨rfl, rfl⟩
            · have h' : ¬ k < 0 := by omega
              go_wp2_with fail
              go_meet
              exact ⟨rfl, rfl⟩
          · clear KK
            go_wp2_with fail
            go_meet
            exact ⟨rfl, rfl⟩
          · clear KK
            go_wp2_with fail
            go_meet
            exact ⟨rfl, rfl⟩
          · clear KK
            go_wp2_with fail
            go_meet
            exact ⟨rfl, rfl⟩
          · have hM := KK (by omega)
            simp only [Prod.mk.injEq] at hM
            obtain ⟨rfl, rfl, rfl⟩ := hM
            clear KK
            go_wp2_with fail
            go_meet
            exact ⟨rfl, rfl⟩
          · clear KK
            go_wp2_with fail
            go_meet
            exact ⟨rfl, rfl⟩
          · have hM := KK (by omega)
            simp only [Prod.mk.injEq] at hM
            obtain ⟨rfl, rfl, rfl⟩ := hM
            clear KK
            go_wp2_with fail
            go_meet
            exact ⟨rfl, rfl⟩
          · clear KK
            go_wp2_with fail
            go_meet
            exact ⟨rfl, rfl⟩
          · have hM := KK (by omega)
            simp only [Prod.mk.injEq] at hM
            obtain ⟨rfl, rfl, rfl⟩ := hM
            clear KK
            go_wp2_with fail
            go_meet
            exact ⟨rfl, rfl⟩
        case rest =>
          obtain ⟨rfl, rfl⟩ := hcut
          have hT : TellsAt w w.heap.size (w.heap.size + 1) S D P t m b wc := ⟨C0, C1, C2, D0, D1, D2, F0, F1, F2, hx4.out⟩
          have HT := Lib.hid hT
          clear hT C0 C1 C2 D0 D1 D2 F0 F1 F2 r0 r1 r2 hx4
          go_wp2_with fail
          go_loopw [8] (fun i wr => ∃ j : Nat, j ≤ P.toNat ∧ i = .int .i64 j ∧ TellsAt w w.heap.size (w.heap.size + 1) S D P (seqN t m b P j).1 (seqN t m b P j).2.1 (seqN t m b P j).2.2 wr) (fun i _ => P.toNat - (intOf i).toNat)
          case atStart => exact ⟨0, Nat.zero_le _, rfl, by rw [k0.out]; exact HT.out⟩
          case round =>
            obtain ⟨j, hj, rfl, hr⟩ := hrel
            by_cases hlt : j < P.toNat
            · have hlt' : (j : Int) < P := by omega
              have hB := kB.out j
              rw [kB'.out j] at hB
              obtain ⟨Y1, Y2, Y3, hY⟩ : ∃ Y1 Y2 Y3, seqN t m b P (j + 1) = (Y1, Y2, Y3) := ⟨_, _, _, rfl⟩
              obtain ⟨X1, X2, X3, hX⟩ : ∃ X1 X2 X3, seqN t m b P j = (X1, X2, X3) := ⟨_, _, _, rfl⟩
              rw [hY, hX] at hB
              rw [hX] at hr
              have HB := Lib.hid hB
              have HR := Lib.hid hr
              have HY := Lib.hid hY
              obtain ⟨c0, c1, c2, d0, d1, d2, f0, f1, f2, hx⟩ := hr
              clear hB hY hX f0 f1 f2 hx hj
              go_wp2_with fail
              refine (HB.out _).mono ?_
              rintro e w5 ⟨rfl, hb5⟩
              have HR5 := Lib.hid (HR.out.below hb5)
              clear c0 c1 c2 d0 d1 d2 HR hb5
              have hr := HR5.out
              obtain ⟨c0, c1, c2, d0, d1, d2, f0, f1, f2, hx⟩ := hr
              clear hx
              simp only [aggN]
              go_wp2_with fail
              go_roundw
              case rel => exact ⟨j + 1, by omega, by go_num, by rw [HY.out]; exact HR5.out.store (by omega) (by omega) Y1 Y2 Y3⟩
              case measure => simp [intOf]; omega
            · have hjP : j = P.toNat := by omega
              have hge : P ≤ (j : Int) := by omega
              rw [hjP] at hr
              clear hjP hlt hj
              have HR := Lib.hid hr
              rcases kE.out with h | h | h
              all_goals
                have hr := HR.out
                rw [h] at hr
                have HX := Lib.hid hr.bel
                obtain ⟨c0, c1, c2, d0, d1, d2, f0, f1, f2, hx⟩ := hr
                clear hx f0 f1 f2 h HR
                go_wp2_with (go_at_call 8; refine (one_any _ (HN.out.below HX.out)).mono ?_; rintro e w5 ⟨rfl, hb5⟩)
                go_ret
                exact ⟨rfl, below_next HX.out hb5⟩
end Go.Proofs.YtcmmfpfdjhfdaaaDoor
