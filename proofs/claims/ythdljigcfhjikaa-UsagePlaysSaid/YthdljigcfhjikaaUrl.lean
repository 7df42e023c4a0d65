/- Levels (layer 10), the document's, plainly: In tells each level of a span, and of how many times it is. No condition but that the steps are right. -/
import Derived.Test.YthdljigcfhjikaaUri
namespace Go.Proofs.Ythdljigcfhjikaa
set_option linter.unusedVariables false
open Go.ChangeShapes Go.WideShapes Go.ChangeAt Go.RowKit
/-- where the part that begins at a list's head ends -/
def endT (r : List Int) : Int := (r.head?).getD 1099511627776
/-- what In tells of one part -/
def inStep (first : Int) (C : List ChgC) (P : Int × Int) (x e : Int) : List (Int × Int) :=
  if (cutI P (x, e)).1 < (cutI P (x, e)).2 then [(ratU first C (cutI P (x, e)).1, (cutI P (x, e)).2 - (cutI P (x, e)).1)] else []
def inU (first : Int) (C : List ChgC) (P : Int × Int) : List Int → List (Int × Int)
  | [] => []
  | x :: r => inStep first C P x (endT r) ++ inU first C P r
/-- the sum of the levels above 0 -/
def sumP (M : List (Int × Int)) : Int := M.foldl (fun s p => s + maxU p.1 0 * p.2) 0
theorem sumP_from : ∀ (M : List (Int × Int)) (s : Int), M.foldl (fun s p => s + maxU p.1 0 * p.2) s = s + sumP M
  | [], s => by simp [sumP]
  | p :: r, s => by
    unfold sumP
    rw [List.foldl_cons, List.foldl_cons, sumP_from r (s + _), sumP_from r (0 + _)]
    omega
theorem sumP_append (M N : List (Int × Int)) : sumP (M ++ N) = sumP M + sumP N := by
  unfold sumP
  rw [List.foldl_append]
  exact sumP_from N _
theorem cut_in {F T x e : Int} (hF : 0 ≤ F ∧ F ≤ 1099511627776) (hT : 0 ≤ T ∧ T ≤ 1099511627776) (hx : 0 ≤ x) (he : x < e) (he' : e ≤ 1099511627776) : cutI (F, T) (x, e) = if min T e ≤ max F x then (0, 0) else (max F x, min T e) := by
  unfold cutI bothT bothF
  simp only
  rw [clampI_of hF.1 hF.2, clampI_of hT.1 hT.2, clampI_of hx (by omega), clampI_of (by omega) he']
/-- what In tells of the times from a part's beginning on -/
structure InOk (g : Int → Int) (F T x : Int) (M : List (Int × Int)) : Prop where
  all : ∀ y, x ≤ y → y < 1099511627776 → F ≤ y → y < T → ∃ p ∈ M, p.1 = g y
  ex : ∀ p ∈ M, 0 < p.2 ∧ p.2 ≤ 1099511627776 ∧ ∃ y, x ≤ y ∧ y < 1099511627776 ∧ F ≤ y ∧ y < T ∧ g y = p.1
  sum : sumP M = areaS (fun y => maxU (g y) 0) (max x F) T
theorem in_ok {first : Int} {C : List ChgC} {F T : Int} (hF : 0 ≤ F ∧ F ≤ 1099511627776) (hT : 0 ≤ T ∧ T ≤ 1099511627776) {g : Int → Int} (hg0 : g = fun x => C.foldl (ratStep x) (boundU first)) : ∀ (r : List Int) (x : Int), 0 ≤ x → x < 1099511627776 → (x :: r).Pairwise (· < ·) → (∀ y ∈ r, y < 1099511627776) →
    (∀ a b : List Int, ∀ u y : Int, x :: r = a ++ u :: y :: b → ∀ z, u ≤ z → z < y → g z = g u) → (∀ u, (x :: r).getLast? = some u → ∀ z, u ≤ z → z < 1099511627776 → g z = g u) → InOk g F T x (inU first C (F, T) (x :: r)) := by
  have base : ∀ (x e : Int) (M : List (Int × Int)), 0 ≤ x → x < e → e ≤ 1099511627776 → (∀ z, x ≤ z → z < e → g z = g x) → (e < 1099511627776 → InOk g F T e M) → (e = 1099511627776 → M = []) → InOk g F T x (inStep first C (F, T) x e ++ M) := by
    intro x e M hx he he' hc hM hM0
    have hsum : sumP M = areaS (fun y => maxU (g y) 0) (max e F) T := by
      rcases Int.lt_or_le e 1099511627776 with h | h
      · exact (hM h).sum
      · rw [hM0 (by omega), areaS_none _ (by omega)]; rfl
    have hin : inStep first C (F, T) x e = if min T e ≤ max F x then [] else [(g x, min T e - max F x)] := by
      unfold inStep
      rw [cut_in hF hT hx he he']
      by_cases h : min T e ≤ max F x
      · rw [if_pos h, if_pos h, if_neg (by simp)]
      · rw [if_neg h, if_neg h]
        simp only
        rw [if_pos (by omega), ratU_fold (by omega) (by omega)]
        have := hc (max F x) (by omega) (by omega)
        rw [hg0] at this ⊢
        simp only at this ⊢
        rw [this]
    rw [hin]
    by_cases h : min T e ≤ max F x
    · rw [if_pos h, List.nil_append]
      refine ⟨fun y h1 h2 h3 h4 => ?_, fun p hp => ?_, ?_⟩
      · have hye : e ≤ y := by omega
        exact (hM (by omega)).all y hye h2 h3 h4
      · rcases Int.lt_or_le e 1099511627776 with h' | h'
        · obtain ⟨q0, q00, y, q1, q2, q3, q4, q5⟩ := (hM h').ex p hp
          exact ⟨q0, q00, y, by omega, q2, q3, q4, q5⟩
        · rw [hM0 (by omega)] at hp; cases hp
      · rw [hsum]
        by_cases hTF : T ≤ max x F
        · rw [areaS_none _ (by omega), areaS_none _ hTF]
        · rw [show max e F = max x F by omega]
    · rw [if_neg h]
      refine ⟨fun y h1 h2 h3 h4 => ?_, fun p hp => ?_, ?_⟩
      · by_cases hye : y < e
        · exact ⟨_, List.mem_cons_self, (hc y h1 hye).symm⟩
        · obtain ⟨p, hp, e'⟩ := (hM (by omega)).all y (by omega) h2 h3 h4
          exact ⟨p, List.mem_cons_of_mem _ hp, e'⟩
      · rcases List.mem_cons.1 hp with rfl | hp
        · exact ⟨by simp only; omega, by simp only; omega, max F x, by omega, by omega, by omega, by omega, hc _ (by omega) (by omega)⟩
        · rcases Int.lt_or_le e 1099511627776 with h' | h'
          · obtain ⟨q0, q00, y, q1, q2, q3, q4, q5⟩ := (hM h').ex p hp
            exact ⟨q0, q00, y, by omega, q2, q3, q4, q5⟩
          · rw [hM0 (by omega)] at hp; cases hp
      · rw [show [(g x, min T e - max F x)] ++ M = [(g x, min T e - max F x)] ++ M from rfl, sumP_append, hsum]
        have h1 : sumP [(g x, min T e - max F x)] = areaS (fun y => maxU (g y) 0) (max x F) (min T e) := by
          unfold sumP areaS
          rw [List.foldl_cons, List.foldl_nil, sumS_const (v := maxU (g x) 0) fun y hy hy' => by rw [hc y (by omega) (by omega)]]
          rw [show max F x = max x F by omega]
          rw [Int.zero_add, Int.mul_comm, show (((min T e - max x F).toNat : Nat) : Int) = min T e - max x F by omega]
        rw [h1]
        by_cases hTe : T ≤ e
        · rw [show min T e = T by omega, areaS_none _ (show T ≤ max e F by omega), Int.add_zero]
        · rw [show min T e = e by omega, show max e F = e by omega]
          exact (areaS_split _ (by omega) (by omega)).symm
  intro r
  induction r with
  | nil =>
    intro x h0 h1 _ _ _ hl
    unfold inU
    exact base x 1099511627776 [] h0 h1 (by decide) (hl x rfl) (fun h => absurd h (by decide)) (fun _ => rfl)
  | cons y r ih =>
    intro x h0 h1 hs hh hg hl
    obtain ⟨s1, s2⟩ := List.pairwise_cons.1 hs
    have hxy := s1 y List.mem_cons_self
    have hy := hh y List.mem_cons_self
    unfold inU
    exact base x y _ h0 hxy (by omega) (hg [] r x y rfl) (fun _ => ih y (by omega) hy s2 (fun z hz => hh z (List.mem_cons_of_mem _ hz)) (fun a b u z e => hg (x :: a) b u z (by rw [e]; rfl)) (fun u hu => hl u (by rw [List.getLast?_cons_cons]; exact hu))) (fun e => by omega)
/-- the least and the greatest of what was told, as the law goes through it -/
def pickL (lt : Int → Int → Bool) : List Int → Int
  | [] => 0
  | x :: r => r.foldl (fun m y => if lt y m then y else m) x
theorem pick_spec (lt : Int → Int → Bool) (le : Int → Int → Prop) (hrefl : ∀ a, le a a) (htr : ∀ a b c, le a b → le b c → le a c) (h1 : ∀ a b, lt a b = true → le a b) (h2 : ∀ a b, lt a b = false → le b a) : ∀ (r : List Int) (x : Int), (r.foldl (fun m y => if lt y m then y else m) x ∈ x :: r) ∧ ∀ y ∈ x :: r, le (r.foldl (fun m y => if lt y m then y else m) x) y
  | [], x => ⟨by simp, fun y hy => by simp at hy; subst hy; exact hrefl _⟩
  | z :: r, x => by
    rw [List.foldl_cons]
    cases hz : lt z x with
    | true =>
      simp only [if_true]
      obtain ⟨i1, i2⟩ := pick_spec lt le hrefl htr h1 h2 r z
      refine ⟨List.mem_cons_of_mem _ i1, fun y hy => ?_⟩
      rcases List.mem_cons.1 hy with rfl | hy
      · exact htr _ _ _ (i2 z List.mem_cons_self) (h1 _ _ hz)
      · exact i2 y hy
    | false =>
      simp only [Bool.false_eq_true, if_false]
      obtain ⟨i1, i2⟩ := pick_spec lt le hrefl htr h1 h2 r x
      refine ⟨?_, fun y hy => ?_⟩
      · rcases List.mem_cons.1 i1 with e | e
        · rw [e]; exact List.mem_cons_self
        · exact List.mem_cons_of_mem _ (List.mem_cons_of_mem _ e)
      · rcases List.mem_cons.1 hy with rfl | hy
        · exact i2 y List.mem_cons_self
        · rcases List.mem_cons.1 hy with rfl | hy
          · exact htr _ _ _ (i2 x List.mem_cons_self) (h2 _ _ hz)
          · exact i2 y (List.mem_cons_of_mem _ hy)
theorem pickL_snoc (lt : Int → Int → Bool) (l : List Int) (y : Int) : pickL lt (l ++ [y]) = if l = [] ∨ lt y (pickL lt l) = true then y else pickL lt l := by
  cases l with
  | nil => simp [pickL]
  | cons x r =>
    simp only [List.cons_append, pickL, List.foldl_append, List.foldl_cons, List.foldl_nil]
    simp
/-- the law's area: a sum that stops at Never -/
def satU (s v n : Int) : Int := if v > 0 ∧ s < 1099511627776 then (if n > 1099511627776 / v then 1099511627776 else (if 1099511627776 < s + n * v then 1099511627776 else s + n * v)) else s
theorem sat_fold : ∀ (M : List (Int × Int)) (s S : Int), (∀ p ∈ M, 0 < p.2) → 0 ≤ S → s = minU S 1099511627776 → M.foldl (fun s p => satU s p.1 p.2) s = minU (M.foldl (fun s p => s + maxU p.1 0 * p.2) S) 1099511627776
  | [], s, S, _, _, h => h
  | p :: r, s, S, hp, h0, h => by
    rw [List.foldl_cons, List.foldl_cons]
    have hn := hp p List.mem_cons_self
    obtain ⟨v, n⟩ := p
    simp only at hn ⊢
    have hm0 : 0 ≤ maxU v 0 := by unfold maxU; split <;> omega
    have hmn : 0 ≤ maxU v 0 * n := Int.mul_nonneg hm0 (by omega)
    refine sat_fold r _ _ (fun q hq => hp q (List.mem_cons_of_mem _ hq)) (by omega) ?_
    unfold satU
    by_cases hv : v > 0
    · have e1 : maxU v 0 = v := by unfold maxU; rw [if_neg (by omega)]
      rw [e1] at hmn ⊢
      by_cases hs : s < 1099511627776
      · have eS : s = S := by rw [h]; unfold minU; rw [h] at hs; unfold minU at hs; split <;> (try rfl); rename_i h9; rw [if_neg h9] at hs; omega
        rw [if_pos ⟨hv, hs⟩]
        by_cases hq : n > 1099511627776 / v
        · rw [if_pos hq]
          have : 1099511627776 < v * n := by
            have := (Int.ediv_lt_iff_lt_mul hv).1 hq
            rw [Int.mul_comm]; exact this
          unfold minU
          rw [if_neg (by omega)]
        · rw [if_neg hq, Int.mul_comm n v, eS]
          unfold minU
          by_cases h9 : 1099511627776 < S + v * n
          · rw [if_pos h9, if_neg (by omega)]
          · rw [if_neg h9, if_pos (by omega)]
      · rw [if_neg (fun hh => hs hh.2)]
        have hS : 1099511627776 ≤ S := by unfold minU at h; split at h <;> omega
        have es : s = 1099511627776 := by unfold minU at h; split at h <;> omega
        rw [es]
        unfold minU
        split <;> omega
    · have e1 : maxU v 0 = 0 := by unfold maxU; split <;> omega
      rw [if_neg (fun hh => hv hh.1), e1, Int.zero_mul, Int.add_zero]
      exact h
end Go.Proofs.Ythdljigcfhjikaa
