/- One element more in a row of one's own, whatever the elements. Conditions: the length's bound. -/
import Derived.Test.YtfakejfpicjedaaAppTwo
namespace Go.Proofs.Ytfakejfpicjedaa
set_option linter.unusedVariables false
open Go Go.RowKit
namespace Ao
/-- one element more -/
theorem app_one {P : Program} {T e : TypeId} {size bytes : Nat} (E : Ap.Elt P T e size bytes) (ty : TypeId) {w : World} {B : Nat} {v : Value} {n : Nat} {xs : List Value} (hown : w.ownsRow B e size v n xs) (news : List Value) (hl : news.length = size) (h1 : ∀ u ∈ news, u.oneCell' = true)
    (h63 : n + 1 ≤ 1000) (hby : bytes ≤ 1000) (hB : B ≤ w.heap.size) :
    ∃ v' w', (Builtin.append_ #[T, T] ty #[v, .slice (some ⟨w.heap.size, 0, none⟩) 1 1]).run P (w.alloc (.cells news.toArray e)) = .ok v' w' ∧ w'.ownsRow B e size v' (n + 1) (xs ++ news) ∧
      (∀ k, k < w.heap.size → v.ownBlock ≠ some k → w'.heap[k]? = w.heap[k]?) ∧ w.heap.size ≤ w'.heap.size ∧ (∀ g, v'.ownBlock = some g → v.ownBlock = some g ∨ w.heap.size ≤ g) ∧ Below B w w' := by
  obtain ⟨i, z, hi, hz0, hz1, hz2, hz3⟩ := E.info
  have hA := below_alloc (Below.refl _ w) (.cells news.toArray e)
  have hq := World.alloc_heap_new w (.cells news.toArray e)
  have hown2 : (w.alloc (.cells news.toArray e)).ownsRow B e size v n xs := Ap.own_keep hown fun g hg => hA.block g (Ap.own_lt hown g hg)
  have hplain : ∀ j, (⟨w.heap.size, 0, none⟩ : Addr).add j = ⟨w.heap.size, j, none⟩ := fun j => by unfold Addr.add; split <;> simp_all
  obtain ⟨v', w', g0, g1, g2, _, g4⟩ := run_append_own_at (P := P) (w.alloc (.cells news.toArray e)) B T ty e i z size bytes E.ul hi hz0 hz1 hz2 hz3 E.pos v n xs hown2 ⟨w.heap.size, 0, none⟩ 1 1 news (by rw [hl, Nat.one_mul])
    (fun j u hj => by rw [hplain]; exact cell_of_block hq (by simpa using hj)) h1 (by unfold maxLen; omega) (by
      have : (n + 1) * bytes ≤ 1000 * 1000 := Nat.mul_le_mul h63 hby
      omega) (Nat.le_trans hB hA.size)
  refine ⟨v', w', g0, g1, fun k hk hne => (g2.block k (Nat.lt_of_lt_of_le hk hA.size) (fun e => hne e.symm)).trans (hA.block k hk), Nat.le_trans hA.size g2.size, fun g hg => ?_, ?_⟩
  · rcases g4 with g4 | g4
    · exact .inl (g4 ▸ hg)
    · rw [g4] at hg
      injection hg with hg
      refine .inr ?_
      rw [← hg]
      exact hA.size
  · exact Below.grown (hA.mono hB) g2 (Nat.le_trans hB hA.size) (Ap.own_blk hown2)
end Ao
end Go.Proofs.Ytfakejfpicjedaa
