/- Levels (layer 10), plainly: the area of a span is the sum of its times' levels, of those above 0. No condition but that the steps are right. -/
import Derived.Test.YthdljigcfhjikaaUsj
import Derived.Test.YthdljigcfhjikaaUsq
namespace Go.Proofs.Ythdljigcfhjikaa
set_option linter.unusedVariables false
open Go.ChangeShapes Go.WideShapes Go.ChangeAt Go.RowKit
theorem w64_in (n : Int) (h : -9223372036854775808 ≤ n ∧ n ≤ 9223372036854775807) : wrap64 n = n := by unfold wrap64; omega

/-- the sum of g over n times from f on -/
def sumS (g : Int → Int) (f : Int) : Nat → Int
  | 0 => 0
  | n + 1 => sumS g f n + g (f + n)
theorem sumS_add (g : Int → Int) (f : Int) (a : Nat) : ∀ b : Nat, sumS g f (a + b) = sumS g f a + sumS g (f + a) b
  | 0 => by simp [sumS]
  | b + 1 => by
    have h := sumS_add g f a b
    show sumS g f (a + b) + g (f + ((a + b : Nat) : Int)) = sumS g f a + (sumS g (f + a) b + g (f + a + b))
    rw [h, show f + ((a + b : Nat) : Int) = f + a + b by omega]
    omega
theorem sumS_congr {g k : Int → Int} {f : Int} : ∀ {n : Nat}, (∀ x, f ≤ x → x < f + n → g x = k x) → sumS g f n = sumS k f n
  | 0, _ => rfl
  | n + 1, h => by
    show sumS g f n + g (f + n) = sumS k f n + k (f + n)
    rw [sumS_congr (n := n) fun x h0 h1 => h x h0 (by omega), h (f + n) (by omega) (by omega)]
theorem sumS_const {g : Int → Int} {f v : Int} : ∀ {n : Nat}, (∀ x, f ≤ x → x < f + n → g x = v) → sumS g f n = n * v
  | 0, _ => by simp [sumS]
  | n + 1, h => by
    show sumS g f n + g (f + n) = ((n + 1 : Nat) : Int) * v
    rw [sumS_const (n := n) (v := v) fun x h0 h1 => h x h0 (by omega), h (f + n) (by omega) (by omega), Int.natCast_add, Int.add_mul]
    simp
theorem sumS_bd {g : Int → Int} {f B : Int} : ∀ {n : Nat}, (∀ x, f ≤ x → x < f + n → 0 ≤ g x ∧ g x ≤ B) → 0 ≤ sumS g f n ∧ sumS g f n ≤ n * B
  | 0, _ => by simp [sumS]
  | n + 1, h => by
    have h1 := sumS_bd (n := n) (B := B) fun x h0 h1 => h x h0 (by omega)
    have h2 := h (f + n) (by omega) (by omega)
    show 0 ≤ sumS g f n + g (f + n) ∧ sumS g f n + g (f + n) ≤ ((n + 1 : Nat) : Int) * B
    rw [Int.natCast_add, Int.add_mul]
    simp only [Int.natCast_one, Int.one_mul]
    omega
theorem sumS_more {g k : Int → Int} {f d : Int} : ∀ {n : Nat}, (∀ x, f ≤ x → x < f + n → k x = g x + d) → sumS k f n = sumS g f n + n * d
  | 0, _ => by simp [sumS]
  | n + 1, h => by
    show sumS k f n + k (f + n) = sumS g f n + g (f + n) + ((n + 1 : Nat) : Int) * d
    rw [sumS_more (n := n) (d := d) (g := g) fun x h0 h1 => h x h0 (by omega), h (f + n) (by omega) (by omega), Int.natCast_add, Int.add_mul]
    simp only [Int.natCast_one, Int.one_mul]
    omega
/-- the sum over the times from a to b -/
def areaS (g : Int → Int) (a b : Int) : Int := sumS g a (b - a).toNat
theorem areaS_split (g : Int → Int) {a b c : Int} (h1 : a ≤ b) (h2 : b ≤ c) : areaS g a c = areaS g a b + areaS g b c := by
  unfold areaS
  rw [show (c - a).toNat = (b - a).toNat + (c - b).toNat by omega, sumS_add, show a + ((b - a).toNat : Int) = b by omega]
theorem areaS_none (g : Int → Int) {a b : Int} (h : b ≤ a) : areaS g a b = 0 := by
  unfold areaS
  rw [show (b - a).toNat = 0 by omega]
  rfl
/-- the level, if it is above 0 -/
def posL (L : List (Int × Int)) (x : Int) : Int := maxU (lvl 0 L x) 0
theorem area_sum {L : List (Int × Int)} (h : RightU L) (f t : Int) : (runsU L).foldl (areaStep (f, t)) 0 = areaS (posL L) (clampI f) (clampI t) := by
  have hF := clampI_bounds f
  have hT := clampI_bounds t
  have key : ∀ (m k : Nat) (s T0 : Int), k + m = L.length → (k < L.length → T0 = (L.getD k (0, 0)).1) → (k = L.length → T0 = 1099511627776) → 0 ≤ T0 → T0 ≤ 1099511627776 → s = areaS (posL L) (clampI f) (min (clampI t) T0) → 0 ≤ s ∧ s ≤ 1000000 * T0 → ((runsU L).drop k).foldl (areaStep (f, t)) s = areaS (posL L) (clampI f) (clampI t) := by
    intro m
    induction m with
    | zero =>
      intro k s T0 hk _ h2 _ _ hs _
      have : (runsU L).drop k = [] := by apply List.drop_eq_nil_of_le; unfold runsU; simp; omega
      rw [this, List.foldl_nil, hs, h2 (by omega), show min (clampI t) 1099511627776 = clampI t by omega]
    | succ m ih =>
      intro k s T0 hk h1 _ hT0 _ hs hsb
      have hkl : k < L.length := by omega
      rw [runsU_drop' hkl, List.foldl_cons]
      obtain ⟨b0, b1, b2⟩ := toU_le h hkl
      have hl : ∀ x, (L.getD k (0, 0)).1 ≤ x → x < toU L k → lvl 0 L x = (L.getD k (0, 0)).2 := fun x hx hx' => lvl_at h.sorted 0 k x hkl hx fun hk1 => by unfold toU at hx'; rw [if_pos hk1] at hx'; exact hx'
      have hget : L.getD k (0, 0) ∈ L := by rw [List.getD_eq_getElem?_getD, List.getElem?_eq_getElem hkl]; exact List.getElem_mem hkl
      have hbd := h.bd _ hget
      have e0 := h1 hkl
      generalize hA : (L.getD k (0, 0)).1 = A at *
      generalize hV : (L.getD k (0, 0)).2 = V at *
      subst e0
      have hm0 : 0 ≤ maxU V 0 ∧ maxU V 0 ≤ 1000000 := by unfold maxU; split <;> omega
      have hposl : ∀ x, T0 ≤ x → x < toU L k → posL L x = maxU V 0 := fun x hx hx' => by unfold posL; rw [hl x hx hx']
      generalize maxU V 0 = U at *
      have hstep : areaStep (f, t) s (T0, toU L k, V) = areaS (posL L) (clampI f) (min (clampI t) (toU L k)) ∧ 0 ≤ areaStep (f, t) s (T0, toU L k, V) ∧ areaStep (f, t) s (T0, toU L k, V) ≤ 1000000 * toU L k := by
        have hU : maxU V 0 = U := by have := hposl T0 (by omega) (by omega); unfold posL at this; rw [hl T0 (by omega) (by omega)] at this; exact this
        unfold areaStep
        simp only
        rw [hU]
        have hcut : (cutI (T0, toU L k) (f, t)).2 - (cutI (T0, toU L k) (f, t)).1 = if min (toU L k) (clampI t) ≤ max T0 (clampI f) then 0 else min (toU L k) (clampI t) - max T0 (clampI f) := by
          unfold cutI bothT bothF
          simp only
          rw [clampI_of b0 (by omega), clampI_of (show 0 ≤ toU L k by omega) b2]
          split <;> simp
        rw [hcut]
        by_cases hmm : min (toU L k) (clampI t) ≤ max T0 (clampI f)
        · rw [if_pos hmm]
          have e1 : wrap64 (s + wrap64 (wrap64 0 * U)) = s := by
            rw [show wrap64 0 = 0 by decide +kernel, Int.zero_mul, show wrap64 0 = 0 by decide +kernel, Int.add_zero]
            exact w64_in _ ⟨by omega, by omega⟩
          rw [e1]
          refine ⟨?_, by omega, by omega⟩
          rw [hs]
          by_cases hle : clampI t ≤ T0
          · rw [show min (clampI t) T0 = clampI t by omega, show min (clampI t) (toU L k) = clampI t by omega]
          · rw [areaS_none _ (by omega), areaS_none _ (by omega)]
        · rw [if_neg hmm]
          generalize hd : min (toU L k) (clampI t) - max T0 (clampI f) = D
          have hD : 0 < D ∧ D ≤ toU L k - T0 := by omega
          have hDU : 0 ≤ D * U ∧ D * U ≤ D * 1000000 := ⟨Int.mul_nonneg (by omega) hm0.1, Int.mul_le_mul_of_nonneg_left hm0.2 (by omega)⟩
          have e1 : wrap64 (s + wrap64 (wrap64 D * U)) = s + D * U := by
            rw [w64_in D ⟨by omega, by omega⟩, w64_in (D * U) ⟨by omega, by omega⟩]
            exact w64_in _ ⟨by omega, by omega⟩
          rw [e1]
          refine ⟨?_, by omega, by omega⟩
          have hc : areaS (posL L) (max T0 (clampI f)) (min (clampI t) (toU L k)) = D * U := by
            unfold areaS
            rw [show (min (clampI t) (toU L k) - max T0 (clampI f)).toNat = D.toNat by omega]
            rw [sumS_const (v := U) fun x h0 h1 => hposl x (by omega) (by omega)]
            rw [show ((D.toNat : Nat) : Int) = D by omega]
          by_cases hle : clampI f ≤ T0
          · rw [areaS_split (posL L) hle (show T0 ≤ min (clampI t) (toU L k) by omega), hs, show min (clampI t) T0 = T0 by omega]
            rw [show max T0 (clampI f) = T0 by omega] at hc
            rw [hc]
          · rw [show max T0 (clampI f) = clampI f by omega] at hc
            rw [hc, hs, areaS_none _ (by omega), Int.zero_add]
      refine ih (k + 1) _ (toU L k) (by omega) (fun hk1 => by unfold toU; rw [if_pos hk1]) (fun hk1 => by unfold toU; rw [if_neg (by omega)]) (by omega) b2 hstep.1 hstep.2
  have h0 := key L.length 0 0 0 (by omega) (fun h0 => by obtain ⟨v, r, e⟩ := h.head; rw [e]; rfl) (fun h0 => by obtain ⟨v, r, e⟩ := h.head; rw [e] at h0; simp at h0) (by omega) (by omega) (by rw [areaS_none _ (by omega)]) (by omega)
  rw [List.drop_zero] at h0
  exact h0
theorem area_eq {L : List (Int × Int)} (h : RightU L) (f t : Int) : areaU L (f, t) = minU (areaS (posL L) (clampI f) (clampI t)) 1099511627776 := by
  unfold areaU
  rw [area_sum h]
end Go.Proofs.Ythdljigcfhjikaa
