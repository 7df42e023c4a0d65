/- Levels (layer 10), plainly: areas of small levels (for UsageAreas). No condition but that the steps are right and the levels small. -/
import Derived.Test.YthdljigcfhjikaaUsv
import Derived.Test.YthdljigcfhjikaaUsw
namespace Go.Proofs.Ythdljigcfhjikaa
set_option linter.unusedVariables false
open Go.RowKit
/-- small levels, none below 0 -/
def SmallU (L : List (Int × Int)) (b : Int) : Prop := ∀ x, 0 ≤ x → x < 1099511627776 → 0 ≤ lvl 0 L x ∧ lvl 0 L x ≤ b
theorem area_small {L : List (Int × Int)} (hL : RightU L) (hs : SmallU L 1000) {F T : Int} (h0 : 0 ≤ F ∧ F ≤ 65536) (h1 : 0 ≤ T ∧ T ≤ 65536) : areaU L (F, T) = areaS (lvl 0 L) F T ∧ 0 ≤ areaS (lvl 0 L) F T ∧ areaS (lvl 0 L) F T ≤ 65536000 := by
  rw [area_eq hL, clampI_of h0.1 (by omega), clampI_of h1.1 (by omega)]
  have e : areaS (posL L) F T = areaS (lvl 0 L) F T := by
    unfold areaS
    refine sumS_congr fun x hx hx' => ?_
    have := hs x (by omega) (by omega)
    unfold posL maxU
    rw [if_neg (by omega)]
  have hb := sumS_bd (g := lvl 0 L) (f := F) (B := 1000) (n := (T - F).toNat) fun x hx hx' => hs x (by omega) (by omega)
  have hb' : 0 ≤ areaS (lvl 0 L) F T ∧ areaS (lvl 0 L) F T ≤ 65536000 := by unfold areaS; omega
  rw [e]
  unfold minU
  rw [if_pos (by omega)]
  exact ⟨rfl, hb'⟩
theorem areas_part {L : List (Int × Int)} (hL : RightU L) (hs : SmallU L 1000) {F T c : Int} (h0 : 0 ≤ F ∧ F ≤ 65535) (h1 : 0 ≤ T ∧ T ≤ 65535) (hc : (F ≤ c ∧ c ≤ T) ∨ (T ≤ F ∧ c = F)) : areaU L (F, T) = areaU L (F, c) + areaU L (c, T) := by
  rw [(area_small hL hs (by omega) (by omega)).1, (area_small hL hs (F := F) (T := c) (by omega) (by omega)).1, (area_small hL hs (F := c) (T := T) (by omega) (by omega)).1]
  rcases hc with ⟨a, b⟩ | ⟨a, rfl⟩
  · exact areaS_split _ a b
  · rw [areaS_none _ (Int.le_refl c), Int.zero_add]
theorem areas_more {L B : List (Int × Int)} (hL : RightU L) (hB : RightU B) (hs : SmallU L 100) {F T : Int} (h0 : 0 ≤ F ∧ F ≤ 65535) (h1 : 0 ≤ T ∧ T ≤ 65535) (h : MoreU L B F T 1) : areaU B (F, T) = areaU L (F, T) + lenI (F, T) := by
  have hsB : SmallU B 1000 := fun x a b => by have := hs x a b; rw [h x a b]; split <;> omega
  rw [(area_small hL (fun x a b => by have := hs x a b; omega) (by omega) (by omega)).1, (area_small hB hsB (by omega) (by omega)).1]
  unfold lenI
  simp only
  have e1 := clampI_of h0.1 (by omega)
  have e2 := clampI_of h1.1 (by omega)
  rw [e1, e2]
  by_cases hle : T ≤ F
  · rw [if_pos hle, areaS_none _ hle, areaS_none _ hle]; rfl
  · rw [if_neg hle]
    have es : subI T F = T - F := by
      unfold subI
      rw [e1, e2, if_neg (by omega), if_neg (by omega), clampI_of (by omega) (by omega)]
    rw [es]
    unfold areaS
    rw [sumS_more (g := lvl 0 L) (d := 1) fun x hx hx' => by rw [h x (by omega) (by omega), e1, e2, if_pos (by omega)]]
    omega
/-- what Forget leaves: ahead of the time its level, behind it the same -/
theorem forget_lvl {L : List (Int × Int)} (hL : RightU L) {c : Int} (h0 : 0 ≤ c) (h1 : c < 1099511627776) (x : Int) (hx : 0 ≤ x) (hx' : x < 1099511627776) : lvl 0 (forgetU L c) x = if x < c then lvl 0 L c else lvl 0 L x := by
  have ec := clampI_of h0 (by omega)
  have e0 : clampI 0 = 0 := by decide +kernel
  have ea : atU L c = lvl 0 L c := by rw [at_spec hL, ec, show min c 1099511627775 = c by omega]
  have hb : boundU (lvl 0 L c) = lvl 0 L c := by
    refine boundU_id ?_
    have : ∀ (l : List (Int × Int)) (d : Int), (-1000000 ≤ d ∧ d ≤ 1000000) → (∀ p ∈ l, -1000000 ≤ p.2 ∧ p.2 ≤ 1000000) → -1000000 ≤ lvl d l c ∧ lvl d l c ≤ 1000000 := by
      intro l
      induction l with
      | nil => intro d hd _; exact hd
      | cons p r ih =>
        intro d hd hp
        unfold lvl
        split
        · exact hd
        · exact ih _ (hp p List.mem_cons_self) fun q hq => hp q (List.mem_cons_of_mem _ hq)
    exact this L 0 (by omega) hL.bd
  unfold forgetU
  rw [ec, if_neg (by omega), ea, (change_right hL (fun _ => boundU_in _) 0 c).2 x hx hx', ec, e0, hb]
  by_cases hxc : x < c
  · rw [if_pos ⟨by omega, hx, hxc⟩, if_pos hxc]
  · rw [if_neg (by omega), if_neg hxc]
theorem forget_at {L : List (Int × Int)} (hL : RightU L) {c : Int} (h0 : 0 ≤ c) (h1 : c ≤ 65535) : atU (forgetU L c) 0 = atU L c ∧ atU (forgetU L c) c = atU L c ∧ atU (forgetU L c) (c + 9) = atU L (c + 9) ∧ chooseU maxU (forgetU L c) (0, c + 1) = atU L c := by
  have hR := forget_right hL c
  have e0 : clampI 0 = 0 := by decide +kernel
  have ec := clampI_of h0 (by omega)
  have e9 := clampI_of (show 0 ≤ c + 9 by omega) (by omega)
  have e1 := clampI_of (show 0 ≤ c + 1 by omega) (by omega)
  have hc : ∀ x, 0 ≤ x → x ≤ c → lvl 0 (forgetU L c) x = lvl 0 L c := fun x a b => by
    rw [forget_lvl hL h0 (by omega) x a (by omega)]
    split
    · rfl
    · rw [show x = c by omega]
  have ha : atU L c = lvl 0 L c := by rw [at_spec hL, ec, show min c 1099511627775 = c by omega]
  refine ⟨?_, ?_, ?_, ?_⟩
  · rw [at_spec hR, e0, ha]; exact hc _ (by omega) (by omega)
  · rw [at_spec hR, ec, ha, show min c 1099511627775 = c by omega]; exact hc _ h0 (by omega)
  · rw [at_spec hR, at_spec hL, e9, show min (c + 9) 1099511627775 = c + 9 by omega, forget_lvl hL h0 (by omega) _ (by omega) (by omega), if_neg (by omega)]
  · obtain ⟨⟨x, x0, x1, x2, x3, x4⟩, _⟩ := most_spec hR (f := 0) (t := c + 1) (by rw [e0, e1]; omega)
    rw [← x4, ha]
    exact hc x x0 (by rw [e1] at x3; omega)
end Go.Proofs.Ythdljigcfhjikaa
