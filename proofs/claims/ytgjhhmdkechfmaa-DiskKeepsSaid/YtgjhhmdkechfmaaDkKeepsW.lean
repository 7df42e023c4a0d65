/- DiskKeeps walked at any arguments. No condition. -/
import Derived.Test.YtgjhhmdkechfmaaDkKeeps2
namespace Go.Proofs.Ytgjhhmdkechfmaa
set_option linter.unusedVariables false
open Go.ChangeShapes Go.WideShapes Go.ChangeAt Go.RowKit

theorem TxtAt.take {w : World} {ad : Option Addr} {n c : Nat} {zs : List Int} (h : TxtAt w (.slice ad n c) zs) (hn : zs.length = n) {k : Nat} (hk : k ≤ n) : TxtAt w (.slice ad k c) (zs.take k) := by
  have hl : (zs.take k).length = k := by simp; omega
  have hg : ∀ j, j < k → (zs.take k).getD j 0 = zs.getD j 0 := fun j hj => by simp [List.getD, List.getElem?_take, hj]
  rcases h with ⟨b, off, cap, h1, h2, h3⟩ | ⟨rfl, a, cap, h1, h2⟩
  · cases h1
    by_cases h0 : k = 0
    · subst h0
      exact .inr ⟨by simp, _, _, rfl, fun h => by cases h⟩
    · refine .inl ⟨b, off, c, by rw [hl], by omega, ⟨fun j hj => ?_, fun j hj => ?_, fun j hj => ?_, by have := h3.len; omega⟩⟩
      · rw [hl] at hj; rw [hg j hj]; exact h3.cell j (by omega)
      · rw [hl] at hj; rw [hg j hj]; exact h3.lo j (by omega)
      · rw [hl] at hj; rw [hg j hj]; exact h3.hi j (by omega)
  · cases h1
    obtain rfl : k = 0 := by simp at hn; omega
    exact .inr ⟨rfl, _, _, rfl, h2⟩
theorem keeps_any (f0 : Int) (ad : Option Addr) (len cap : Nat) (zs : List Int) (W : World) (h : TxtAt W (.slice ad len cap) zs ∧ zs.length = len ∧ len ≤ cap ∧ (0 < len → ∃ b off, ad = some ⟨b, off, none⟩))
    (lad : Option Addr) (ll lc : Nat) (A : Nat → ActV) (hA : ActsAt W lad ll A) :
    Calls Try.prog 4 #[.int .i64 f0, .slice ad len cap, .slice lad ll lc] W fun e w' => e = .returned (.bool true) ∧ Below W.heap.size W w' := by
  obtain ⟨h1, h2, h3, h4⟩ := h
  by_cases h5 : len ≤ 500
  · exact keeps_walk f0 ad len cap zs W h1 h2.symm h5 lad ll lc A hA
  · obtain ⟨g, o, e⟩ := h4 (by omega)
    have hl : (zs.take 500).length = 500 := by simp; omega
    exact keeps_walk2 f0 ad 500 cap (zs.take 500) W (h1.take h2 (by omega)) hl.symm (Nat.le_refl _) len (by omega) h3 rfl ⟨g, o, e⟩ lad ll lc A hA
end Go.Proofs.Ytgjhhmdkechfmaa
