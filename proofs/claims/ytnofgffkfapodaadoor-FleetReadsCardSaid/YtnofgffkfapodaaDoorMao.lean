/- Laws that belong together: What the known nodes come to (one), where the names are laid.; The walk of HealthTells, where the names are laid.; Plain facts on misses in a row; a slice of numbers that came in. No condition. -/
import Derived.Test.YtnofgffkfapodaaDoorMHealthT
import Derived.Test.YtnofgffkfapodaaDoorMac
namespace Go.Proofs.YtnofgffkfapodaaDoor
set_option linter.unusedVariables false
open Go.ChangeShapes Go.WideShapes Go.ChangeAt Go.RowKit
attribute [local go_sem ↓] Go.wp_at_zero Go.wp_at_succ comesTo_value_eq comesTo_skip_eq comesTo_enter_eq

theorem next_is {t m b S D P k : Int} (x0 x1 x2 : Int) (h : nextI t m b S D P k = (x0, x1, x2)) (w : World) :
    Calls Tryd.prog 38 #[.agg #[.int .i64 t, .int .i64 m, .int .i64 b], .agg #[.int .i64 S, .int .i64 D, .int .i64 P], .int .i64 k] w fun e w' => e = .returned (.agg #[.int .i64 x0, .int .i64 x1, .int .i64 x2]) ∧ Below w.heap.size w w' := by
  have := next_any t m b S D P k w
  rw [h] at this
  exact this

end Go.Proofs.YtnofgffkfapodaaDoor
namespace Go.Proofs.YtnofgffkfapodaaDoor
set_option linter.unusedVariables false
open Go.ChangeShapes Go.WideShapes Go.ChangeAt Go.RowKit
attribute [local go_sem ↓] Go.wp_at_zero Go.wp_at_succ comesTo_value_eq comesTo_skip_eq comesTo_enter_eq

/-- a node behind so many beats -/
def seqN (t m b P : Int) (k : Nat) : Int × Int × Int := if t = 2 ∨ t = 3 then (t, m, b) else if t = 0 then (if k = 0 then (0, m, b) else (0, 0, b)) else if b + k < P then (t, m, b + k) else (0, 0, 0)
theorem seqN_zero {t m b S D P : Int} (h2 : rightN t m b S D P = true) : seqN t m b P 0 = (t, m, b) := by
  unfold rightN at h2
  simp only [decide_eq_true_eq] at h2
  unfold seqN
  split
  · rfl
  · split
    · rename_i h; simp [h]
    · rw [if_pos (by omega)]; simp
theorem seqN_right {t m b S D P : Int} (h1 : rightR S D P = true) (h2 : rightN t m b S D P = true) (k : Nat) : rightN (seqN t m b P k).1 (seqN t m b P k).2.1 (seqN t m b P k).2.2 S D P = true := by
  unfold rightR at h1
  unfold rightN at h2 ⊢
  simp only [decide_eq_true_eq] at h1 h2 ⊢
  unfold seqN
  split
  · simp only; omega
  · split
    · split
      · exact .inl ⟨rfl, by simp only; omega, by simp only; omega, by simp only; omega⟩
      · exact .inl ⟨rfl, by simp only; omega, by simp only; omega, by simp only; omega⟩
    · split
      · simp only; omega
      · exact .inl ⟨rfl, by simp only; omega, by simp only; omega, rfl⟩
theorem seqN_step {t m b S D P : Int} (h1 : rightR S D P = true) (h2 : rightN t m b S D P = true) (k : Nat) : nextI (seqN t m b P k).1 (seqN t m b P k).2.1 (seqN t m b P k).2.2 S D P 0 = seqN t m b P (k + 1) := by
  unfold nextI
  rw [if_pos ⟨h1, seqN_right h1 h2 k⟩, if_pos rfl]
  unfold rightR at h1
  unfold rightN at h2
  simp only [decide_eq_true_eq] at h1 h2
  unfold seqN beatI
  by_cases ht : t = 2 ∨ t = 3
  · simp only [if_pos ht]
    rw [if_neg (by omega), if_neg (by omega)]
  · simp only [if_neg ht]
    by_cases h0 : t = 0
    · simp only [if_pos h0]
      by_cases hk : k = 0
      · simp [hk]
      · simp [hk]
    · simp only [if_neg h0]
      by_cases hb : b + k < P
      · simp only [if_pos hb, if_neg h0]
        rw [if_pos (by omega)]
        by_cases hP : b + k + 1 = P
        · rw [if_pos hP, if_neg (by simp only [Int.natCast_add, Int.natCast_one]; omega)]
        · rw [if_neg hP, if_pos (by simp only [Int.natCast_add, Int.natCast_one]; omega)]
          simp only [Int.natCast_add, Int.natCast_one, Int.add_assoc]
      · simp only [if_neg hb, if_true]
        rw [if_neg (by simp only [Int.natCast_add, Int.natCast_one]; omega)]
theorem seqN_end {t m b S D P : Int} (h1 : rightR S D P = true) (h2 : rightN t m b S D P = true) (k : Nat) (hk : P ≤ k) : seqN t m b P k = (0, 0, 0) ∨ seqN t m b P k = (2, 0, 0) ∨ seqN t m b P k = (3, 0, 0) := by
  unfold rightR at h1
  unfold rightN at h2
  simp only [decide_eq_true_eq] at h1 h2
  unfold seqN
  by_cases ht : t = 2 ∨ t = 3
  · rw [if_pos ht]
    obtain ⟨rfl, rfl⟩ : m = 0 ∧ b = 0 := by omega
    rcases ht with rfl | rfl
    · exact .inr (.inl rfl)
    · exact .inr (.inr rfl)
  · rw [if_neg ht]
    by_cases h0 : t = 0
    · obtain rfl : b = 0 := by omega
      rw [if_pos h0, if_neg (by omega)]; exact .inl rfl
    · rw [if_neg h0, if_neg (by omega)]; exact .inl rfl
theorem next_keeps {t m b S D P k : Int} (h : k < 0 ∨ 4 < k ∨ (k = 2 ∧ t ≠ 2) ∨ (k = 3 ∧ t ≠ 0) ∨ (k = 4 ∧ t ≠ 3)) : nextI t m b S D P k = (t, m, b) := by
  unfold nextI
  split
  · rcases h with h | h | ⟨rfl, h⟩ | ⟨rfl, h⟩ | ⟨rfl, h⟩
    · rw [if_neg (by omega), if_neg (by omega), if_neg (by omega), if_neg (by omega), if_neg (by omega)]
    · rw [if_neg (by omega), if_neg (by omega), if_neg (by omega), if_neg (by omega), if_neg (by omega)]
    · rw [if_neg (by omega), if_neg (by omega), if_pos rfl]; unfold fromI; rw [if_neg h]
    · rw [if_neg (by omega), if_neg (by omega), if_neg (by omega), if_pos rfl]; unfold fromI; rw [if_neg h]
    · rw [if_neg (by omega), if_neg (by omega), if_neg (by omega), if_neg (by omega), if_pos rfl]; unfold fromI; rw [if_neg h]
  · rfl

/-- the rules in one block, a node in another one -/
structure TellsAt (w0 : World) (g q : Nat) (S D P x0 x1 x2 : Int) (wr : World) : Prop where
  c0 : wr.cell? ⟨g, 0, none⟩ = some (.int .i64 S)
  c1 : wr.cell? ⟨g, 1, none⟩ = some (.int .i64 D)
  c2 : wr.cell? ⟨g, 2, none⟩ = some (.int .i64 P)
  d0 : wr.cell? ⟨q, 0, none⟩ = some (.int .i64 x0)
  d1 : wr.cell? ⟨q, 1, none⟩ = some (.int .i64 x1)
  d2 : wr.cell? ⟨q, 2, none⟩ = some (.int .i64 x2)
  f0 : wr.frozen? ⟨q, 0, none⟩ = false
  f1 : wr.frozen? ⟨q, 1, none⟩ = false
  f2 : wr.frozen? ⟨q, 2, none⟩ = false
  bel : Below w0.heap.size w0 wr
theorem TellsAt.below {w0 wr w1 : World} {g q : Nat} {S D P x0 x1 x2 : Int} (h : TellsAt w0 g q S D P x0 x1 x2 wr) (hb : Below wr.heap.size wr w1) : TellsAt w0 g q S D P x0 x1 x2 w1 := by
  have l0 := World.block_lt_of_cell? _ _ h.c0
  have l1 := World.block_lt_of_cell? _ _ h.d0
  obtain ⟨hc, hf⟩ := bcell hb
  exact ⟨(hc _ 0 l0).trans h.c0, (hc _ 1 l0).trans h.c1, (hc _ 2 l0).trans h.c2, (hc _ 0 l1).trans h.d0, (hc _ 1 l1).trans h.d1, (hc _ 2 l1).trans h.d2, (hf _ 0 l1).trans h.f0, (hf _ 1 l1).trans h.f1, (hf _ 2 l1).trans h.f2, below_next h.bel hb⟩
theorem TellsAt.store {w0 wr : World} {g q : Nat} {S D P x0 x1 x2 : Int} (h : TellsAt w0 g q S D P x0 x1 x2 wr) (hgq : g ≠ q) (hq : w0.heap.size ≤ q) (y0 y1 y2 : Int) :
    TellsAt w0 g q S D P y0 y1 y2 (((wr.setCell ⟨q, 0, none⟩ (.int .i64 y0)).setCell ⟨q, 1, none⟩ (.int .i64 y1)).setCell ⟨q, 2, none⟩ (.int .i64 y2)) := by
  obtain ⟨c0, c1, c2, d0, d1, d2, f0, f1, f2, hx⟩ := h
  have hqg : q ≠ g := fun h => hgq h.symm
  exact ⟨by go_simp, by go_simp, by go_simp, by go_simp, by go_simp, by go_simp, by go_simp, by go_simp, by go_simp, ((hx.setCell hq _).setCell hq _).setCell hq _⟩

end Go.Proofs.YtnofgffkfapodaaDoor
namespace Go.Proofs.YtnofgffkfapodaaDoor
set_option linter.unusedVariables false
open Go.ChangeShapes Go.WideShapes Go.ChangeAt Go.RowKit

/-- a node that was up, behind so many misses -/
def farN (S D : Int) (j : Nat) : Int × Int × Int := if (j : Int) < S then (0, j, 0) else if (j : Int) < D then (1, j, 0) else (2, 0, 0)
theorem farN_right {S D P : Int} (h1 : rightR S D P = true) (j : Nat) : rightN (farN S D j).1 (farN S D j).2.1 (farN S D j).2.2 S D P = true := by
  unfold rightR at h1
  unfold rightN
  simp only [decide_eq_true_eq] at h1 ⊢
  unfold farN
  split
  · exact .inl ⟨rfl, by simp only; omega, by simp only; omega, rfl⟩
  · split
    · exact .inr (.inl ⟨rfl, by simp only; omega, by simp only; omega, by simp only; omega, by simp only; omega⟩)
    · exact .inr (.inr (.inl ⟨.inl rfl, rfl, rfl⟩))
theorem farN_step {S D P : Int} (h1 : rightR S D P = true) (j : Nat) (hj : (j : Int) < D) : nextI (farN S D j).1 (farN S D j).2.1 (farN S D j).2.2 S D P 1 = farN S D (j + 1) := by
  unfold nextI
  rw [if_pos ⟨h1, farN_right h1 j⟩, if_neg (by omega), if_pos rfl]
  unfold rightR at h1
  simp only [decide_eq_true_eq] at h1
  unfold farN missI
  by_cases hs : (j : Int) < S
  · simp only [if_pos hs, if_true]
    by_cases he : (j : Int) + 1 = S
    · rw [if_pos he, if_neg (by simp only [Int.natCast_add, Int.natCast_one]; omega), if_pos (by simp only [Int.natCast_add, Int.natCast_one]; omega)]
      simp only [Int.natCast_add, Int.natCast_one]
    · rw [if_neg he, if_pos (by simp only [Int.natCast_add, Int.natCast_one]; omega)]
      simp only [Int.natCast_add, Int.natCast_one]
  · simp only [if_neg hs, if_pos hj]
    rw [if_neg (by omega), if_pos trivial]
    by_cases he : (j : Int) + 1 = D
    · rw [if_pos he, if_neg (by simp only [Int.natCast_add, Int.natCast_one]; omega), if_neg (by simp only [Int.natCast_add, Int.natCast_one]; omega)]
    · rw [if_neg he, if_neg (by simp only [Int.natCast_add, Int.natCast_one]; omega), if_pos (by simp only [Int.natCast_add, Int.natCast_one]; omega)]
      simp only [Int.natCast_add, Int.natCast_one]
theorem next_right {t m b S D P k : Int} (h1 : rightR S D P = true) (h2 : rightN t m b S D P = true) : rightN (nextI t m b S D P k).1 (nextI t m b S D P k).2.1 (nextI t m b S D P k).2.2 S D P = true := by
  unfold nextI
  rw [if_pos ⟨h1, h2⟩]
  have h2' := h2
  unfold rightR at h1
  unfold rightN at h2 ⊢
  simp only [decide_eq_true_eq] at h1 h2 ⊢
  have up : ∀ x : Int, (x = 0 ∨ x = 2 ∨ x = 3) → ((x = 0 ∧ (0 : Int) ≤ 0 ∧ (0 : Int) < S ∧ (0 : Int) = 0) ∨ (x = 1 ∧ S ≤ 0 ∧ 0 < D ∧ (0 : Int) ≤ 0 ∧ 0 < P) ∨ ((x = 2 ∨ x = 3) ∧ (0 : Int) = 0 ∧ (0 : Int) = 0) ∨ (x = 4 ∧ (0 : Int) = 0 ∧ (0 : Int) ≤ 0 ∧ 0 < P)) := by intro x hx; omega
  by_cases k0 : k = 0
  · rw [if_pos k0]
    unfold beatI
    by_cases t0 : t = 0
    · rw [if_pos t0]; (first | (simp; done) | (simp; omega) | (simp only; omega))
    · rw [if_neg t0]
      by_cases t1 : t = 1 ∨ t = 4
      · rw [if_pos t1]
        by_cases hb : b + 1 = P
        · rw [if_pos hb]; (first | (simp; done) | (simp; omega) | (simp only; omega))
        · rw [if_neg hb]; (first | (simp; done) | (simp; omega) | (simp only; omega))
      · rw [if_neg t1]; (first | (simp; done) | (simp; omega) | (simp only; omega))
  rw [if_neg k0]
  by_cases k1 : k = 1
  · rw [if_pos k1]
    unfold missI
    by_cases t0 : t = 0
    · rw [if_pos t0]
      by_cases hm : m + 1 = S
      · rw [if_pos hm]; (first | (simp; done) | (simp; omega) | (simp only; omega))
      · rw [if_neg hm]; (first | (simp; done) | (simp; omega) | (simp only; omega))
    · rw [if_neg t0]
      by_cases t1 : t = 1
      · rw [if_pos t1]
        by_cases hm : m + 1 = D
        · rw [if_pos hm]; (first | (simp; done) | (simp; omega) | (simp only; omega))
        · rw [if_neg hm]; (first | (simp; done) | (simp; omega) | (simp only; omega))
      · rw [if_neg t1]
        by_cases t4 : t = 4
        · rw [if_pos t4]; (first | (simp; done) | (simp; omega) | (simp only; omega))
        · rw [if_neg t4]; (first | (simp; done) | (simp; omega) | (simp only; omega))
  rw [if_neg k1]
  unfold fromI
  by_cases k2 : k = 2
  · rw [if_pos k2]; split <;> (first | (simp; done) | (simp; omega) | (simp only; omega))
  rw [if_neg k2]
  by_cases k3 : k = 3
  · rw [if_pos k3]; split <;> (first | (simp; done) | (simp; omega) | (simp only; omega))
  rw [if_neg k3]
  by_cases k4 : k = 4
  · rw [if_pos k4]; split <;> (first | (simp; done) | (simp; omega) | (simp only; omega))
  rw [if_neg k4]
  (first | (simp; done) | (simp; omega) | (simp only; omega))

/-- a slice of numbers -/
def IntsAt (w : World) (a : Option Addr) (zs : List Int) : Prop :=
  zs.length ≤ 9223372036854775807 ∧ ∀ k, k < zs.length → ∃ b off, a = some ⟨b, off, none⟩ ∧ w.cell? ⟨b, off + k, none⟩ = some (.int .i64 (zs.getD k 0))
theorem IntsAt.below {w w' : World} {a : Option Addr} {zs : List Int} (h : IntsAt w a zs) (hb : Below w.heap.size w w') : IntsAt w' a zs :=
  ⟨h.1, fun k hk => by obtain ⟨b, off, h1, h2⟩ := h.2 k hk; exact ⟨b, off, h1, (hb.cell (World.block_lt_of_cell? w _ h2)).trans h2⟩⟩
theorem ints_open {H : Type} {enc : TypeId × Value → H} {W : World} {a : Option Addr} {len cap : Nat} {d : DataW H} {p : List MemPlace}
    (h : DataW.Trod enc Tryd.prog W 0 (fun _ => true) true 88 (.slice a len cap) d p) : ∃ zs : List Int, IntsAt W a zs ∧ zs.length = len := by
  obtain ⟨fuel, hf⟩ := h
  rcases open_ints Tryd.underlying88 Tryd.underlying3 (by kernel_rfl) hf with ⟨hcs, _⟩ | ⟨x, l, c, zs, hcs, _, hl, hm, hz, hd, hcell, hwz⟩
  · simp [Value.cells] at hcs
    obtain ⟨rfl, rfl, rfl⟩ := hcs
    exact ⟨[], ⟨by simp, fun k hk => by simp at hk⟩, rfl⟩
  · simp [Value.cells] at hcs
    obtain ⟨rfl, rfl, rfl⟩ := hcs
    have hz' : zs.length = cap := by simpa using hz
    have htl : (zs.take len).length = len := by simp; omega
    refine ⟨zs.take len, ⟨by rw [htl]; unfold maxLen at hm; omega, fun k hk => ?_⟩, htl⟩
    rw [htl] at hk
    obtain ⟨b, off, spot⟩ := x
    have hc := hcell 0 (by omega)
    have hspot : spot = none := by simpa [Addr.add] using World.cell?_spot hc
    subst hspot
    refine ⟨b, off, rfl, ?_⟩
    have hg : (zs.take len).getD k 0 = zs.getD k 0 := by simp [List.getD, List.getElem?_take, hk]
    have hplain : (⟨b, off, none⟩ : Addr).add k = ⟨b, off + k, none⟩ := by unfold Addr.add; split <;> simp_all
    rw [hg, ← hplain]
    exact hcell k (by omega)
end Go.Proofs.YtnofgffkfapodaaDoor
