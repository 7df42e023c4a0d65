/- The nodes of a set, rising. Plain facts, no condition. -/
import Derived.Test.YtdpfbpmdpdfpdaaDoorBitsPlain
namespace Go.Proofs.YtdpfbpmdpdfpdaaDoor
set_option linter.unusedVariables false
open Go

/-- the set without its least node -/
def restS (s : NSet) : NSet := s &&& ~~~(oneI (lowI s))
theorem lowI_pos {s : NSet} (h : s ≠ 0#64) : lowI s = (lowN s : Int) := by unfold lowI; rw [if_neg h]
theorem card_rest {s : NSet} (h : s ≠ 0#64) : card (restS s) + 1 = card s := by
  obtain ⟨h1, h2, _⟩ := lowN_spec h
  unfold restS
  rw [lowI_pos h]
  have hs : Sub (oneI ((lowN s : Nat) : Int)) s := sub_iff.2 fun i hi hg => by
    rw [oneI_get] at hg
    simp only [hi, decide_true, Bool.true_and, decide_eq_true_eq] at hg
    obtain rfl : lowN s = i := by omega
    exact h2
  have := card_diff hs
  rw [card_one h1] at this
  exact this
def nodesF : Nat → NSet → List Int
  | 0, _ => []
  | k + 1, s => if s = 0#64 then [] else lowI s :: nodesF k (restS s)
/-- its nodes, rising -/
def nodes (s : NSet) : List Int := nodesF (card s) s
theorem nodes_zero : nodes 0#64 = [] := by unfold nodes; rw [card_zero]; rfl
theorem nodes_cons {s : NSet} (h : s ≠ 0#64) : nodes s = lowI s :: nodes (restS s) := by
  unfold nodes
  rw [← card_rest h]
  show (if s = 0#64 then [] else _) = _
  rw [if_neg h]
theorem nodes_length : ∀ (k : Nat) (s : NSet), card s = k → (nodes s).length = k
  | 0, s, h => by rw [card_eq_zero h, nodes_zero]; rfl
  | k + 1, s, h => by
    have hs : s ≠ 0#64 := fun e => by rw [e, card_zero] at h; omega
    rw [nodes_cons hs, List.length_cons, nodes_length k (restS s) (by have := card_rest hs; omega)]
theorem nodes_46 : nodes 46#64 = [1, 2, 3, 5] := by decide +kernel
end Go.Proofs.YtdpfbpmdpdfpdaaDoor
