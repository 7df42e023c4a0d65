/- An append of bytes, as it is run (the same as laws of layer 5, under a name of its own). Conditions: the lengths' bounds. -/
import Derived.Test.YtdfkfcpkejjlnaaDoorMad
import Derived.Test.YtdfkfcpkejjlnaaDoorMAppTwo
namespace Go.Proofs.YtdfkfcpkejjlnaaDoor
set_option linter.unusedVariables false
open Go.ChangeShapes Go.WideShapes Go.ChangeAt Go.RowKit
namespace A8
theorem bytes8 {w : World} {v : Value} {zs : List Int} (h : TxtAt w v zs) : ∀ k, k < zs.length → 0 ≤ zs.getD k 0 ∧ zs.getD k 0 ≤ 255 := by
  rcases h with ⟨b, off, cap, rfl, h2, h3⟩ | ⟨rfl, _⟩
  · exact fun k hk => ⟨h3.lo k hk, h3.hi k hk⟩
  · exact fun k hk => absurd hk (by simp)
theorem elt8 : Ap.Elt Tryd.prog 40 5 1 1 :=
  ⟨Tryd.underlying40, by obtain ⟨i, hi, hz, hs, hb⟩ := info_parts info_u8; exact ⟨i, _, hi, hz, hs, hb, rfl⟩, by decide⟩
theorem rd {w : World} {v : Value} {xs : List Int} (h : TxtAt w v xs) : Ap.RdG w 1 v xs.length (cellsOf8 xs) := by
  have h1 : ∀ u ∈ cellsOf8 xs, u.oneCell' = true := fun u hu => by
    simp [cellsOf8] at hu
    obtain ⟨n, _, rfl⟩ := hu
    rfl
  rcases h with ⟨b, o, c, rfl, hn, hr⟩ | ⟨rfl, a, c, rfl, hc⟩
  · refine ⟨⟨_, c, rfl, fun e => (by cases e), fun a ha j u hj => ?_, fun a ha _ => ?_⟩, by simp [cellsOf8], h1⟩
    · cases ha
      have hjl : j < xs.length := by
        rcases Nat.lt_or_ge j xs.length with h | h
        · exact h
        · rw [List.getElem?_eq_none (by simpa [cellsOf8] using h)] at hj; cases hj
      have hplain : (⟨b, o, none⟩ : Addr).add j = ⟨b, o + j, none⟩ := by unfold Addr.add; split <;> simp_all
      rw [hplain, hr.cell j hjl]
      simp [cellsOf8, hjl] at hj
      simp [List.getD, hjl, hj]
    · cases ha
      exact World.block_lt_of_cell? w _ (hr.cell 0 hn)
  · exact ⟨⟨a, c, rfl, fun e => rfl, fun _ _ j u hj => by simp [cellsOf8] at hj, fun _ _ hm => absurd hm (by simp)⟩, rfl, h1⟩
/-- an append of bytes, as it is run -/
theorem run_app8 {w : World} {B : Nat} {v u : Value} {xs ys : List Int} (hown : OwnTxt w B v xs) (ht : TxtAt w u ys) (hl : xs.length + ys.length ≤ 140737488355328) (hB : B ≤ w.heap.size) (ty : TypeId) :
    ∃ v' w', (Builtin.append_ #[40, 40] ty #[v, u]).run Tryd.prog w = .ok v' w' ∧ OwnTxt w' B v' (xs ++ ys) ∧ Below B w w' ∧ w.grownBy w' v.ownBlock := by
  obtain ⟨v', w', h1, h2, h3, h4⟩ := Ap.run_app elt8 ty B v xs.length (cellsOf8 xs) hown.own u ys.length (cellsOf8 ys) (rd ht) (by unfold maxLen; omega) (by omega) hB
  have hy := bytes8 ht
  refine ⟨v', w', h1, ⟨by rw [List.length_append, cellsOf8_append]; exact h2, fun k hk => ?_, fun k hk => ?_⟩, h4, h3⟩
  · by_cases hlt : k < xs.length
    · rw [show (xs ++ ys).getD k 0 = xs.getD k 0 by simp [List.getD, List.getElem?_append_left, hlt]]; exact hown.lo k hlt
    · rw [show (xs ++ ys).getD k 0 = ys.getD (k - xs.length) 0 by simp [List.getD, List.getElem?_append_right (show xs.length ≤ k by omega)]]
      exact (hy _ (by simp at hk; omega)).1
  · by_cases hlt : k < xs.length
    · rw [show (xs ++ ys).getD k 0 = xs.getD k 0 by simp [List.getD, List.getElem?_append_left, hlt]]; exact hown.hi k hlt
    · rw [show (xs ++ ys).getD k 0 = ys.getD (k - xs.length) 0 by simp [List.getD, List.getElem?_append_right (show xs.length ≤ k by omega)]]
      exact (hy _ (by simp at hk; omega)).2
end A8
end Go.Proofs.YtdfkfcpkejjlnaaDoor
