/- Counts and ticks of one user, plainly (layer 14). No condition. -/
import Derived.Test.YtmpknjlfabpipaaBkE
import Derived.Test.YtmpknjlfabpipaaBkG
namespace Go.Proofs.Ytmpknjlfabpipaa
set_option linter.unusedVariables false
open Go.ChangeShapes Go.WideShapes Go.ChangeAt Go.RowKit Bk

/-- what a law has counted of a user's behind k acts -/
structure CR (U : Int) (L : List LV) (wl : LV) (k : Nat) : Prop where
  len : wl.length = 9
  eq : ∀ i, 1 ≤ i → i ≤ 6 → (lineB L U).getD i 0 = wl.getD i 0
  cb : ∀ i, 1 ≤ i → i ≤ 5 → 0 ≤ wl.getD i 0 ∧ wl.getD i 0 ≤ k
  tb : 0 ≤ wl.getD 6 0 ∧ wl.getD 6 0 ≤ k * 4194240
theorem lineB_put {L : List LV} (h : Up L) (x : LV) (U : Int) : lineB (putB L x) U = if usr x = U then x else lineB L U := by
  unfold lineB
  rw [getB_put h]
  split <;> rfl
theorem CR.zero (U : Int) : CR U [] zL 0 := by
  refine ⟨rfl, fun i _ _ => rfl, fun i h0 h1 => ?_, by decide⟩
  rcases (by omega : i = 1 ∨ i = 2 ∨ i = 3 ∨ i = 4 ∨ i = 5) with rfl | rfl | rfl | rfl | rfl <;> decide
theorem CR.same {U : Int} {L : List LV} {wl : LV} {k : Nat} (h : CR U L wl k) : CR U L wl (k + 1) :=
  ⟨h.len, h.eq, fun i h0 h1 => by have := h.cb i h0 h1; omega, by have := h.tb; omega⟩
theorem CR.other {U : Int} {L : List LV} {wl : LV} {k : Nat} (h : CR U L wl k) (hu : Up L) {x : LV} (hx : usr x ≠ U) : CR U (putB L x) wl (k + 1) :=
  ⟨h.len, fun i h0 h1 => by rw [lineB_put hu, if_neg hx]; exact h.eq i h0 h1, h.same.cb, h.same.tb⟩
theorem CR.note {U : Int} {L : List LV} {wl : LV} {k : Nat} (h : CR U L wl k) (hg : BG L) (hk : k < 60) {c : Nat} (hc : c ≤ 4) : CR U (notedB L U c) (wl.set (1 + c) (wl.getD (1 + c) 0 + 1)) (k + 1) := by
  have hl := hg.line U
  have hb := h.cb (1 + c) (by omega) (by omega)
  have he := h.eq (1 + c) (by omega) (by omega)
  have hu : usr (noteL c ((lineB L U).set 0 U)) = U := by rw [usr_note, usr_set0 hl]
  refine ⟨by rw [List.length_set]; exact h.len, fun i h0 h1 => ?_, fun i h0 h1 => ?_, ?_⟩
  · unfold notedB
    rw [lineB_put hg.up, if_pos hu]
    unfold noteL
    rw [getD_set, getD_set, getD_set, getD_set, List.length_set, if_neg (show ¬ (0 = 1 + c ∧ 1 + c < (lineB L U).length) by omega), hl, h.len, he]
    by_cases h2 : 1 + c = i
    · rw [if_pos ⟨h2, by omega⟩, if_pos ⟨h2, by omega⟩]
      omega
    · rw [if_neg (by omega), if_neg (by omega), if_neg (by omega)]
      exact h.eq i h0 h1
  · rw [getD_set]
    have := h.cb i h0 h1
    split <;> omega
  · rw [getD_set, if_neg (by omega)]
    have := h.tb
    omega
theorem usedI_eq {m c : Int} (h0 : 0 ≤ m) (h1 : m ≤ 65535) (c0 : 0 ≤ c) (c1 : c ≤ 64) : usedI m c = m * c ∧ 0 ≤ m * c ∧ m * c ≤ 4194240 := by
  have hb : 0 ≤ m * c ∧ m * c ≤ 4194240 := ⟨Int.mul_nonneg h0 c0, Int.le_trans (Int.mul_le_mul_of_nonneg_right h1 c0) (by omega)⟩
  refine ⟨?_, hb⟩
  have ht : timesI m c = m * c := by
    unfold timesI
    rw [clampI_id h0 (by omega)]
    split
    · obtain rfl : c = 0 := by omega
      simp
    · split
      · rename_i h; rw [h]; simp
      · rw [if_neg]
        have : 64 ≤ 1099511627776 / m := (Int.le_ediv_iff_mul_le (by omega)).2 (by omega)
        omega
  unfold usedI
  rw [ht, if_neg (by omega)]
theorem CR.charge {U : Int} {L : List LV} {wl : LV} {k : Nat} (h : CR U L wl k) (hg : BG L) (hk : k < 60) {hf now m c : Int} (h0 : 0 ≤ m) (h1 : m ≤ 65535) (c0 : 0 ≤ c) (c1 : c ≤ 64) :
    CR U (chargedB L hf U now c m) (wl.set 6 (wl.getD 6 0 + m * c)) (k + 1) := by
  have hl := hg.line U
  obtain ⟨hue, hu0, hu1⟩ := usedI_eq h0 h1 c0 c1
  have ht := h.tb
  have he := h.eq 6 (by omega) (by omega)
  have hu : usr (chargeL now hf (usedI m c) ((lineB L U).set 0 U)) = U := by rw [usr_charge, usr_set0 hl]
  rw [hue] at hu
  refine ⟨by rw [List.length_set]; exact h.len, fun i h0 h1 => ?_, fun i h0 h1 => ?_, ?_⟩
  · unfold chargedB
    rw [hue, lineB_put hg.up, if_pos hu]
    unfold chargeL
    rw [getD_set, if_neg (by omega), getD_set, if_neg (by omega), getD_set, getD_set, getD_set, getD_set, List.length_set, if_neg (show ¬ (0 = 6 ∧ 6 < (lineB L U).length) by omega), hl, h.len, he]
    by_cases h2 : 6 = i
    · rw [if_pos ⟨h2, by omega⟩, if_pos ⟨h2, by omega⟩]
      omega
    · rw [if_neg (by omega), if_neg (by omega), if_neg (by omega)]
      exact h.eq i h0 h1
  · rw [getD_set, if_neg (by omega)]
    have := h.cb i h0 h1
    omega
  · rw [getD_set, if_pos ⟨rfl, by have := h.len; omega⟩]
    omega
theorem usr_none {L : List LV} {U : Int} (h0 : 1 ≤ U) : (getB L U).isSome = (usr (lineB L U) == U) := by
  unfold lineB
  cases hg : getB L U with
  | none => simp only [Option.isSome_none, Option.getD_none]; rw [eq_comm, beq_eq_false_iff_ne]; unfold usr zL; simp; omega
  | some l => have := (getB_usr hg).1; simp [this]
/-- who used nothing has the whole factor -/
theorem fac_none {u s n h T : Int} (hu : u ≤ 0) : factI (atI u s n h).1 T = 1000 := by
  have h1 := atI_bd u s n h
  have h2 : cntI u ≤ 0 := by unfold cntI; split <;> (try split) <;> omega
  unfold factI
  split
  · rfl
  · rw [if_pos (by omega)]
end Go.Proofs.Ytmpknjlfabpipaa
