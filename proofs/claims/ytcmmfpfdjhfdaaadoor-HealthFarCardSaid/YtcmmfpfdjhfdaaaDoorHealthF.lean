/- Plain facts on misses in a row; a slice of numbers that came in. No condition. -/
import Derived.Test.YtcmmfpfdjhfdaaaDoorHealthU
namespace Go.Proofs.YtcmmfpfdjhfdaaaDoor
set_option linter.unusedVariables false
open Go.ChangeShapes Go.WideShapes Go.ChangeAt Go.RowKit

/-- a node that was up, behind so many misses -/
def farN (S D : Int) (j : Nat) : Int × Int × Int := if (j : Int) < S then (0, j, 0) else if (j : Int) < D then (1, j, 0) else (2, 0, 0)
theorem farN_right {S D P : Int} (h1 : rightR S D P = true) (j : Nat) : rightN (farN S D j).1 (farN S D j).2.1 (farN S D j).2.2 S D P = true := by
  unfold rightR at h1
  unfold rightN
  simp only [decide_eq_true_eq] at h1 ⊢
  unfold farN
  split
  · exact .inl ⟨rfl, by simp only; omega, by simp only; omega, rfl⟩
  · split
    · exact .inr (.inl ⟨rfl, by simp only; omega, by simp only; omega, by simp only; omega, by simp only; omega⟩)
    · exact .inr (.inr (.inl ⟨.inl rfl, rfl, rfl⟩))
theorem farN_step {S D P : Int} (h1 : rightR S D P = true) (j : Nat) (hj : (j : Int) < D) : nextI (farN S D j).1 (farN S D j).2.1 (farN S D j).2.2 S D P 1 = farN S D (j + 1) := by
  unfold nextI
  rw [if_pos ⟨h1, farN_right h1 j⟩, if_neg (by omega), if_pos rfl]
  unfold rightR at h1
  simp only [decide_eq_true_eq] at h1
  unfold farN missI
  by_cases hs : (j : Int) < S
  · simp only [if_pos hs, if_true]
    by_cases he : (j : Int) + 1 = S
    · rw [if_pos he, if_neg (by simp only [Int.natCast_add, Int.natCast_one]; omega), if_pos (by simp only [Int.natCast_add, Int.natCast_one]; omega)]
      simp only [Int.natCast_add, Int.natCast_one]
    · rw [if_neg he, if_pos (by simp only [Int.natCast_add, Int.natCast_one]; omega)]
      simp only [Int.natCast_add, Int.natCast_one]
  · simp only [if_neg hs, if_pos hj]
    rw [if_neg (by omega), if_pos trivial]
    by_cases he : (j : Int) + 1 = D
    · rw [if_pos he, if_neg (by simp only [Int.natCast_add, Int.natCast_one]; omega), if_neg (by simp only [Int.natCast_add, Int.natCast_one]; omega)]
    · rw [if_neg he, if_neg (by simp only [Int.natCast_add, Int.natCast_one]; omega), if_pos (by simp only [Int.natCast_add, Int.natCast_one]; omega)]
      simp only [Int.natCast_add, Int.natCast_one]
theorem next_right {t m b S D P k : Int} (h1 : rightR S D P = true) (h2 : rightN t m b S D P = true) : rightN (nextI t m b S D P k).1 (nextI t m b S D P k).2.1 (nextI t m b S D P k).2.2 S D P = true := by
  unfold nextI
  rw [if_pos ⟨h1, h2⟩]
  have h2' := h2
  unfold rightR at h1
  unfold rightN at h2 ⊢
  simp only [decide_eq_true_eq] at h1 h2 ⊢
  have up : ∀ x : Int, (x = 0 ∨ x = 2 ∨ x = 3) → ((x = 0 ∧ (0 : Int) ≤ 0 ∧ (0 : Int) < S ∧ (0 : Int) = 0) ∨ (x = 1 ∧ S ≤ 0 ∧ 0 < D ∧ (0 : Int) ≤ 0 ∧ 0 < P) ∨ ((x = 2 ∨ x = 3) ∧ (0 : Int) = 0 ∧ (0 : Int) = 0) ∨ (x = 4 ∧ (0 : Int) = 0 ∧ (0 : Int) ≤ 0 ∧ 0 < P)) := by intro x hx; omega
  by_cases k0 : k = 0
  · rw [if_pos k0]
    unfold beatI
    by_cases t0 : t = 0
    · rw [if_pos t0]; (first | (simp; done) | (simp; omega) | (simp only; omega))
    · rw [if_neg t0]
      by_cases t1 : t = 1 ∨ t = 4
      · rw [if_pos t1]
        by_cases hb : b + 1 = P
        · rw [if_pos hb]; (first | (simp; done) | (simp; omega) | (simp only; omega))
        · rw [if_neg hb]; (first | (simp; done) | (simp; omega) | (simp only; omega))
      · rw [if_neg t1]; (first | (simp; done) | (simp; omega) | (simp only; omega))
  rw [if_neg k0]
  by_cases k1 : k = 1
  · rw [if_pos k1]
    unfold missI
    by_cases t0 : t = 0
    · rw [if_pos t0]
      by_cases hm : m + 1 = S
      · rw [if_pos hm]; (first | (simp; done) | (simp; omega) | (simp only; omega))
      · rw [if_neg hm]; (first | (simp; done) | (simp; omega) | (simp only; omega))
    · rw [if_neg t0]
      by_cases t1 : t = 1
      · rw [if_pos t1]
        by_cases hm : m + 1 = D
        · rw [if_pos hm]; (first | (simp; done) | (simp; omega) | (simp only; omega))
        · rw [if_neg hm]; (first | (simp; done) | (simp; omega) | (simp only; omega))
      · rw [if_neg t1]
        by_cases t4 : t = 4
        · rw [if_pos t4]; (first | (simp; done) | (simp; omega) | (simp only; omega))
        · rw [if_neg t4]; (first | (simp; done) | (simp; omega) | (simp only; omega))
  rw [if_neg k1]
  unfold fromI
  by_cases k2 : k = 2
  · rw [if_pos k2]; split <;> (first | (simp; done) | (simp; omega) | (simp only; omega))
  rw [if_neg k2]
  by_cases k3 : k = 3
  · rw [if_pos k3]; split <;> (first | (simp; done) | (simp; omega) | (simp only; omega))
  rw [if_neg k3]
  by_cases k4 : k = 4
  · rw [if_pos k4]; split <;> (first | (simp; done) | (simp; omega) | (simp only; omega))
  rw [if_neg k4]
  (first | (simp; done) | (simp; omega) | (simp only; omega))

/-- a slice of numbers -/
def IntsAt (w : World) (a : Option Addr) (zs : List Int) : Prop :=
  zs.length ≤ 9223372036854775807 ∧ ∀ k, k < zs.length → ∃ b off, a = some ⟨b, off, none⟩ ∧ w.cell? ⟨b, off + k, none⟩ = some (.int .i64 (zs.getD k 0))
theorem IntsAt.below {w w' : World} {a : Option Addr} {zs : List Int} (h : IntsAt w a zs) (hb : Below w.heap.size w w') : IntsAt w' a zs :=
  ⟨h.1, fun k hk => by obtain ⟨b, off, h1, h2⟩ := h.2 k hk; exact ⟨b, off, h1, (hb.cell (World.block_lt_of_cell? w _ h2)).trans h2⟩⟩
theorem ints_open {H : Type} {enc : TypeId × Value → H} {W : World} {a : Option Addr} {len cap : Nat} {d : DataW H} {p : List MemPlace}
    (h : DataW.Trod enc Tryd.prog W 0 (fun _ => true) true 29 (.slice a len cap) d p) : ∃ zs : List Int, IntsAt W a zs ∧ zs.length = len := by
  obtain ⟨fuel, hf⟩ := h
  rcases open_ints Tryd.underlying29 Tryd.underlying3 (by kernel_rfl) hf with ⟨hcs, _⟩ | ⟨x, l, c, zs, hcs, _, hl, hm, hz, hd, hcell, hwz⟩
  · simp [Value.cells] at hcs
    obtain ⟨rfl, rfl, rfl⟩ := hcs
    exact ⟨[], ⟨by simp, fun k hk => by simp at hk⟩, rfl⟩
  · simp [Value.cells] at hcs
    obtain ⟨rfl, rfl, rfl⟩ := hcs
    have hz' : zs.length = cap := by simpa using hz
    have htl : (zs.take len).length = len := by simp; omega
    refine ⟨zs.take len, ⟨by rw [htl]; unfold maxLen at hm; omega, fun k hk => ?_⟩, htl⟩
    rw [htl] at hk
    obtain ⟨b, off, spot⟩ := x
    have hc := hcell 0 (by omega)
    have hspot : spot = none := by simpa [Addr.add] using World.cell?_spot hc
    subst hspot
    refine ⟨b, off, rfl, ?_⟩
    have hg : (zs.take len).getD k 0 = zs.getD k 0 := by simp [List.getD, List.getElem?_take, hk]
    have hplain : (⟨b, off, none⟩ : Addr).add k = ⟨b, off + k, none⟩ := by unfold Addr.add; split <;> simp_all
    rw [hg, ← hplain]
    exact hcell k (by omega)
end Go.Proofs.YtcmmfpfdjhfdaaaDoor
