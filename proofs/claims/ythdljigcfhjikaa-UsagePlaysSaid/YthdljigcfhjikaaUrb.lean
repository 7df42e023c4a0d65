/- Levels (layer 10): those that steps lead to have the document's level at each time, plainly. Conditions: the steps are right. -/
import Derived.Test.YthdljigcfhjikaaUra
namespace Go.Proofs.Ythdljigcfhjikaa
set_option linter.unusedVariables false
open Go.ChangeShapes Go.WideShapes Go.ChangeAt Go.RowKit
/-- the document's levels -/
def LikeU (first : Int) (L : List (Int × Int)) (C : List ChgC) : Prop := ∀ x, 0 ≤ x → x < 1099511627776 → lvl 0 L x = C.foldl (ratStep x) (boundU first)
theorem holdsI_iff {f t x : Int} (h0 : 0 ≤ x) (h1 : x < 1099511627776) : holdsI (f, t) x = true ↔ (clampI f < clampI t ∧ f ≤ x ∧ x < t) := by
  unfold holdsI
  simp only
  rw [clampI_of h0 (by omega), Bool.and_eq_true, decide_eq_true_eq, decide_eq_true_eq]
  rcases clamp_facts f with ⟨a, b⟩ | ⟨a, c, b⟩ | ⟨a, b⟩ <;> rcases clamp_facts t with ⟨a', b'⟩ | ⟨a', c', b'⟩ | ⟨a', b'⟩ <;> rw [b, b'] <;> omega
theorem ratStep_iff (x v : Int) (c : ChgC) (h0 : 0 ≤ x) (h1 : x < 1099511627776) : ratStep x v c = if clampI c.f < clampI c.t ∧ c.f ≤ x ∧ x < c.t then (if c.set then boundU c.n else addF (byU c.n) v) else v := by
  unfold ratStep
  by_cases h : clampI c.f < clampI c.t ∧ c.f ≤ x ∧ x < c.t
  · rw [if_pos h, (holdsI_iff h0 h1).2 h]; rfl
  · rw [if_neg h]
    have : holdsI (c.f, c.t) x = false := by
      rw [Bool.eq_false_iff]
      exact fun hh => h ((holdsI_iff h0 h1).1 hh)
    rw [this]; rfl
theorem like_flat (first : Int) : LikeU first [(0, boundU first)] [] := fun x h0 _ => by
  simp only [lvl, List.foldl_nil]
  rw [if_neg (by omega)]
theorem like_add {first : Int} {L : List (Int × Int)} {C : List ChgC} (h : LikeU first L C) (hr : RightU L) (f t n : Int) : LikeU first (changeU (addF (byU n)) L (f, t)) (C ++ [⟨f, t, false, n⟩]) := fun x h0 h1 => by
  rw [(change_right hr (addF_in (byU n)) f t).2 x h0 h1, List.foldl_append, List.foldl_cons, List.foldl_nil, ratStep_iff _ _ _ h0 h1, h x h0 h1]
  simp
theorem like_set {first : Int} {L : List (Int × Int)} {C : List ChgC} (h : LikeU first L C) (hr : RightU L) (f t n : Int) : LikeU first (changeU (fun _ => boundU n) L (f, t)) (C ++ [⟨f, t, true, n⟩]) := fun x h0 h1 => by
  rw [(change_right hr (fun _ => boundU_in n) f t).2 x h0 h1, List.foldl_append, List.foldl_cons, List.foldl_nil, ratStep_iff _ _ _ h0 h1, h x h0 h1]
  simp
/-- what the document's Forget makes of the changes -/
def rforgetU (first : Int) (C : List ChgC) (t : Int) : List ChgC := if t ≥ 1099511627776 then C else C ++ [⟨0, t, true, ratU first C t⟩]
theorem like_at {first : Int} {L : List (Int × Int)} {C : List ChgC} (h : LikeU first L C) (hr : RightU L) (t : Int) : atU L t = ratU first C t := by
  have hb := clampI_bounds t
  rw [at_spec hr, h _ (by omega) (by omega)]
  unfold ratU
  by_cases e : clampI t = 1099511627776
  · rw [if_pos e, e]; rfl
  · rw [if_neg e, show min (clampI t) 1099511627775 = clampI t by omega]
theorem like_forget {first : Int} {L : List (Int × Int)} {C : List ChgC} (h : LikeU first L C) (hr : RightU L) (t : Int) : LikeU first (forgetU L t) (rforgetU first C t) := by
  have hb := clampI_bounds t
  have ht : t ≥ 1099511627776 ↔ clampI t = 1099511627776 := by rcases clamp_facts t with ⟨a', b'⟩ | ⟨a', c', b'⟩ | ⟨a', b'⟩ <;> rw [b'] <;> omega
  unfold forgetU rforgetU
  by_cases e : clampI t = 1099511627776
  · rw [if_pos e, if_pos (ht.2 e)]; exact h
  · rw [if_neg e, if_neg (fun hh => e (ht.1 hh))]
    intro x h0 h1
    have e0 : clampI 0 = 0 := by decide +kernel
    have ha : atU L (clampI t) = ratU first C t := by
      rw [like_at h hr]
      unfold ratU
      rw [clampI_clampI]
    rw [(change_right hr (fun _ => boundU_in _) 0 (clampI t)).2 x h0 h1, List.foldl_append, List.foldl_cons, List.foldl_nil, ratStep_iff _ _ _ h0 h1, h x h0 h1, ha, clampI_clampI, e0]
    simp only [e0]
    by_cases hx : 0 < clampI t ∧ 0 ≤ x ∧ x < clampI t
    · rw [if_pos hx, if_pos ⟨hx.1, hx.2.1, by rcases clamp_facts t with ⟨a', b'⟩ | ⟨a', c', b'⟩ | ⟨a', b'⟩ <;> omega⟩]; simp
    · rw [if_neg hx, if_neg (fun hh => hx ⟨hh.1, hh.2.1, by rcases clamp_facts t with ⟨a', b'⟩ | ⟨a', c', b'⟩ | ⟨a', b'⟩ <;> omega⟩)]
theorem rforgetU_len (first : Int) (C : List ChgC) (t : Int) : (rforgetU first C t).length ≤ C.length + 1 := by
  unfold rforgetU
  split
  · omega
  · simp
end Go.Proofs.Ythdljigcfhjikaa
