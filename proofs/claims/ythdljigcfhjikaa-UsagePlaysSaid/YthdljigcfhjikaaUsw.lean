/- Levels (layer 10), plainly: what adding to a span's levels leaves (for UsageBack). No condition but that the steps are right and the levels small. -/
import Derived.Test.YthdljigcfhjikaaUst
namespace Go.Proofs.Ythdljigcfhjikaa
set_option linter.unusedVariables false
open Go.ChangeShapes Go.WideShapes Go.ChangeAt Go.RowKit
theorem tmod_small (n : Int) : -999 ≤ n.tmod 1000 ∧ n.tmod 1000 ≤ 999 := by
  by_cases h : 0 ≤ n
  · have h1 := Int.tmod_lt_of_pos n (show (0 : Int) < 1000 by decide)
    have h2 := Int.tmod_nonneg 1000 h
    omega
  · have h1 := Int.tmod_lt_of_pos (-n) (show (0 : Int) < 1000 by decide)
    have h2 := Int.tmod_nonneg 1000 (show 0 ≤ -n by omega)
    rw [Int.neg_tmod] at h1 h2
    omega
theorem add_small {a n : Int} (ha : -900000 ≤ a ∧ a ≤ 900000) (hn : -99999 ≤ n ∧ n ≤ 99999) : addF (byU n) a = a + n := by
  have h1 : byU n = n := by unfold byU; rw [if_neg (by omega), if_neg (by omega)]
  have h2 : IntKind.i64.wrap (a + n) = a + n := by rw [IntKind.wrap_i64]; omega
  unfold addF
  rw [h1, h2]
  unfold boundU
  repeat (first | rfl | omega | split)
/-- B is L, but in the span by n more -/
def MoreU (L B : List (Int × Int)) (f t n : Int) : Prop := ∀ x, 0 ≤ x → x < 1099511627776 → lvl 0 B x = if clampI f < clampI t ∧ f ≤ x ∧ x < t then lvl 0 L x + n else lvl 0 L x
theorem clamp_facts (n : Int) : (n < 0 ∧ clampI n = 0) ∨ (0 ≤ n ∧ n ≤ 1099511627776 ∧ clampI n = n) ∨ (1099511627776 < n ∧ clampI n = 1099511627776) := by
  unfold clampI
  by_cases h : n < 0
  · exact .inl ⟨h, if_pos h⟩
  · by_cases h' : 1099511627776 < n
    · exact .inr (.inr ⟨h', by rw [if_neg h, if_pos h']⟩)
    · exact .inr (.inl ⟨by omega, by omega, by rw [if_neg h, if_neg h']⟩)
theorem more_ahead {L B : List (Int × Int)} (hL : RightU L) (hB : RightU B) {f t n : Int} (h : MoreU L B f t n) (he : clampI f < clampI t) (hf : 0 < f) : atU B (subI f 1) = atU L (subI f 1) := by
  rw [at_spec hB, at_spec hL]
  have e1 : clampI 1 = 1 := by decide +kernel
  have hs : subI f 1 = f - 1 := by
    unfold subI
    rw [e1, if_neg (by decide)]
    rcases clamp_facts f with ⟨a, b⟩ | ⟨a, c, b⟩ | ⟨a, b⟩ <;> rcases clamp_facts t with ⟨d, g⟩ | ⟨d, k, g⟩ | ⟨d, g⟩ <;> (try omega)
    all_goals (rw [if_neg (by omega), b]; rcases clamp_facts (f - 1) with ⟨a', b'⟩ | ⟨a', c', b'⟩ | ⟨a', b'⟩ <;> omega)
  rw [hs]
  have hx : 0 ≤ min (clampI (f - 1)) 1099511627775 ∧ min (clampI (f - 1)) 1099511627775 < 1099511627776 := by have := clampI_bounds (f - 1); omega
  rw [h _ hx.1 hx.2, if_neg]
  rcases clamp_facts (f - 1) with ⟨a, b⟩ | ⟨a, c, b⟩ | ⟨a, b⟩ <;> rcases clamp_facts t with ⟨d, g⟩ | ⟨d, k, g⟩ | ⟨d, g⟩ <;> rcases clamp_facts f with ⟨a', b'⟩ | ⟨a', c', b'⟩ | ⟨a', b'⟩ <;> omega
theorem more_behind {L B : List (Int × Int)} (hL : RightU L) (hB : RightU B) {f t n : Int} (h : MoreU L B f t n) (he : clampI f < clampI t) (ht : clampI t < 1099511627776) : atU B (clampI t) = atU L (clampI t) := by
  rw [at_spec hB, at_spec hL, clampI_clampI]
  have hx : 0 ≤ min (clampI t) 1099511627775 ∧ min (clampI t) 1099511627775 < 1099511627776 := by have := clampI_bounds t; omega
  rw [h _ hx.1 hx.2, if_neg]
  rcases clamp_facts t with ⟨d, g⟩ | ⟨d, k, g⟩ | ⟨d, g⟩ <;> rcases clamp_facts f with ⟨a', b'⟩ | ⟨a', c', b'⟩ | ⟨a', b'⟩ <;> omega
theorem more_in {L B : List (Int × Int)} (hL : RightU L) (hB : RightU B) {f t n : Int} (h : MoreU L B f t n) (he : clampI f < clampI t) : atU B f = atU L f + n := by
  rw [at_spec hB, at_spec hL]
  have hx : 0 ≤ min (clampI f) 1099511627775 ∧ min (clampI f) 1099511627775 < 1099511627776 := by have := clampI_bounds f; omega
  rw [h _ hx.1 hx.2, if_pos]
  rcases clamp_facts t with ⟨d, g⟩ | ⟨d, k, g⟩ | ⟨d, g⟩ <;> rcases clamp_facts f with ⟨a', b'⟩ | ⟨a', c', b'⟩ | ⟨a', b'⟩ <;> omega
theorem more_same {L B : List (Int × Int)} (hL : RightU L) (hB : RightU B) {f t n : Int} (h : MoreU L B f t n) : B = L ↔ (n = 0 ∨ ¬ clampI f < clampI t) := by
  constructor
  · intro e
    by_cases he : clampI f < clampI t
    · left
      have := more_in hL hB h he
      rw [e] at this
      omega
    · exact .inr he
  · intro e
    refine right_same_steps hB hL fun x h0 h1 => ?_
    rw [h x h0 h1]
    split
    · rename_i hc
      rcases e with e | e
      · omega
      · exact absurd hc.1 e
    · rfl
theorem more_back {L B : List (Int × Int)} (hL : RightU L) (hB : RightU B) {f t n : Int} (h : MoreU L B f t n) (hs : ∀ x, 0 ≤ x → x < 1099511627776 → -100000 ≤ lvl 0 L x ∧ lvl 0 L x ≤ 100000) (hn : -99999 ≤ n ∧ n ≤ 99999) : changeU (addF (byU (-n))) B (f, t) = L := by
  have hc := change_right hB (addF_in (byU (-n))) f t
  refine right_same_steps hc.1 hL fun x h0 h1 => ?_
  have hx := hs x h0 h1
  rw [hc.2 x h0 h1, h x h0 h1]
  by_cases hi : clampI f < clampI t ∧ f ≤ x ∧ x < t
  · rw [if_pos hi, if_pos hi, add_small (by omega) (by omega)]
    omega
  · rw [if_neg hi, if_neg hi]
theorem at_small {L : List (Int × Int)} (hL : RightU L) {b : Int} (hs : ∀ x, 0 ≤ x → x < 1099511627776 → -b ≤ lvl 0 L x ∧ lvl 0 L x ≤ b) (t : Int) : -b ≤ atU L t ∧ atU L t ≤ b := by
  rw [at_spec hL]
  exact hs _ (by have := clampI_bounds t; omega) (by have := clampI_bounds t; omega)
theorem USt.other {w w' : World} {S M : Nat} {L K : List (Int × Int)} (h : USt w S L) (k : USt w M K) (hn : M ≠ S) (hf : Fr (fun b => b = S) w w') : USt w' M K := by
  obtain ⟨g, c, hg, hS, hc, hs, hr⟩ := k.at_
  obtain ⟨g0, c0, _, hS0, _⟩ := h.at_
  have h0 := cell_of_block (o := 0) hS0 rfl
  have hgS : g ≠ S := by
    rintro rfl
    have := (hr 0 k.pos).1
    rw [show 0 * 2 = 0 by omega, h0] at this
    cases this
  exact ⟨⟨g, c, hg, (hf.block M (Array.getElem?_eq_some_iff.1 hS).1 hn).trans hS, hc, Nat.lt_of_lt_of_le hs hf.size, hr.mono (hf.block g hs hgS)⟩, k.pos, k.len⟩
theorem pow_small {q : Nat} (h : q ≤ 16) : 3 ^ q ≤ 43046721 := Nat.le_trans (Nat.pow_le_pow_right (by decide) h) (by decide)
end Go.Proofs.Ythdljigcfhjikaa
