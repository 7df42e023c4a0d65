/- Plain facts on two sets together. No condition. -/
import Derived.Test.YtgeldpfojmkdbaaBitsAny
namespace Go.Proofs.Ytgeldpfojmkdbaa
set_option linter.unusedVariables false
open Go

theorem hasI_and (a b : NSet) (n : Int) : hasI (a &&& b) n = (hasI a n && hasI b n) := by
  unfold hasI
  rw [BitVec.getLsbD_and]
  cases decide (0 ≤ n) <;> simp
theorem hasI_or (a b : NSet) (n : Int) : hasI (a ||| b) n = (hasI a n || hasI b n) := by
  unfold hasI
  rw [BitVec.getLsbD_or]
  cases decide (0 ≤ n) <;> simp
theorem hasI_less (a b : NSet) (n : Int) : hasI (a &&& ~~~b) n = (hasI a n && !hasI b n) := by
  unfold hasI
  rw [BitVec.getLsbD_and, BitVec.getLsbD_not]
  by_cases h : n.toNat < 64
  · cases decide (0 ≤ n) <;> simp [h]
  · have : a.getLsbD n.toNat = false := BitVec.getLsbD_of_ge _ _ (by omega)
    cases decide (0 ≤ n) <;> simp [h, this]
theorem less_or_and (a b : NSet) : (a &&& ~~~b) ||| (a &&& b) = a := by
  apply BitVec.eq_of_getLsbD_eq
  intro i hi
  rw [BitVec.getLsbD_or, BitVec.getLsbD_and, BitVec.getLsbD_and, BitVec.getLsbD_not]
  simp only [hi, decide_true, Bool.true_and]
  cases a.getLsbD i <;> cases b.getLsbD i <;> rfl
theorem orS_three (a b c : NSet) : orS [a, b, c] = a ||| b ||| c := by
  show 0#64 ||| a ||| b ||| c = _
  rw [BitVec.zero_or]
end Go.Proofs.Ytgeldpfojmkdbaa
