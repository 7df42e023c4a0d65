/- Contracts of the reference's Len and Cut of layer 1. No condition. -/
import Derived.Test.YtnmhdodcfbjalaaSpanB
namespace Go.Proofs.Ytnmhdodcfbjalaa
set_option linter.unusedVariables false
open Go.ChangeShapes Go.WideShapes Go.ChangeAt Go.RowKit

theorem cleanI_bd (a : Int × Int) : (0 ≤ (cleanI a).1 ∧ (cleanI a).1 ≤ 1099511627776) ∧ 0 ≤ (cleanI a).2 ∧ (cleanI a).2 ≤ 1099511627776 := by
  have h1 := clampI_bd a.1; have h2 := clampI_bd a.2
  unfold cleanI
  split <;> simp <;> omega
theorem rlen_eq (f t : Int) : (if (cleanI (f, t)).2 = 1099511627776 then 1099511627776 else (cleanI (f, t)).2 - (cleanI (f, t)).1) = lenI (f, t) := by
  have h1 := clampI_bd f; have h2 := clampI_bd t
  have e2 : lenI (f, t) = if clampI t ≤ clampI f then 0 else subI t f := rfl
  by_cases hle : clampI t ≤ clampI f
  · have e : cleanI (f, t) = (0, 0) := by unfold cleanI; exact if_pos hle
    rw [e, e2, if_pos hle]; rfl
  · have e : cleanI (f, t) = (clampI f, clampI t) := by unfold cleanI; exact if_neg hle
    rw [e, e2, if_neg hle]
    unfold subI
    show (if clampI t = 1099511627776 then _ else clampI t - clampI f) = _
    by_cases h : clampI t = 1099511627776
    · rw [if_pos h]; repeat' split
      all_goals first | omega | rfl
    · rw [if_neg h, clampI_id (n := clampI t - clampI f) (by omega) (by omega)]; repeat' split
      all_goals omega
theorem rcut_eq (a b : Int × Int) : cleanI (max (cleanI a).1 (cleanI b).1, min (cleanI a).2 (cleanI b).2) = cutI a b := by
  have h1 := clampI_bd a.1; have h2 := clampI_bd a.2; have h3 := clampI_bd b.1; have h4 := clampI_bd b.2
  have ha := cleanI_bd a; have hb := cleanI_bd b
  have e : cleanI (max (cleanI a).1 (cleanI b).1, min (cleanI a).2 (cleanI b).2) = if min (cleanI a).2 (cleanI b).2 ≤ max (cleanI a).1 (cleanI b).1 then (0, 0) else (max (cleanI a).1 (cleanI b).1, min (cleanI a).2 (cleanI b).2) := by
    show (if clampI (min (cleanI a).2 (cleanI b).2) ≤ clampI (max (cleanI a).1 (cleanI b).1) then _ else (clampI _, clampI _)) = _
    rw [clampI_id (n := min (cleanI a).2 (cleanI b).2) (by omega) (by omega), clampI_id (n := max (cleanI a).1 (cleanI b).1) (by omega) (by omega)]
  rw [e]
  unfold cutI bothT bothF
  by_cases p : clampI a.2 ≤ clampI a.1
  · have ea : cleanI a = (0, 0) := by unfold cleanI; exact if_pos p
    rw [ea] at *
    rw [if_pos (by simp at *; omega), if_pos (by omega)]
  · have ea : cleanI a = (clampI a.1, clampI a.2) := by unfold cleanI; exact if_neg p
    by_cases q : clampI b.2 ≤ clampI b.1
    · have eb : cleanI b = (0, 0) := by unfold cleanI; exact if_pos q
      rw [eb] at *
      rw [if_pos (by simp at *; omega), if_pos (by omega)]
    · have eb : cleanI b = (clampI b.1, clampI b.2) := by unfold cleanI; exact if_neg q
      rw [ea, eb]

set_option maxHeartbeats 1000000 in
theorem rlen_any (f t : Int) (w : World) :
    Calls Try.prog 25 #[.agg #[.int .i64 f, .int .i64 t]] w fun e w' => e = .returned (.int .i64 (lenI (f, t))) ∧ Below w.heap.size w w' := by
  have E := Lib.hid (rlen_eq f t).symm
  obtain ⟨⟨b0, b1⟩, b2, b3⟩ := cleanI_bd (f, t)
  generalize lenI (f, t) = B at *
  have hC := fun W => rclean_any f t W
  generalize (cleanI (f, t)).1 = F at *
  generalize (cleanI (f, t)).2 = T at *
  go_enter Try.func25, Try.ntmps25
  go_wp2_with fail
  refine (hC _).mono ?_
  rintro e w1 ⟨rfl, hb1⟩
  have q0 : w1.cell? ⟨w.heap.size, 0, none⟩ = some (.int .i64 f) := (hb1.cell (p := ⟨w.heap.size, 0, none⟩) (by simp)).trans (by go_simp)
  have q1 : w1.cell? ⟨w.heap.size, 1, none⟩ = some (.int .i64 t) := (hb1.cell (p := ⟨w.heap.size, 1, none⟩) (by simp)).trans (by go_simp)
  have q2 : w1.frozen? ⟨w.heap.size, 0, none⟩ = false := (hb1.frozen (p := ⟨w.heap.size, 0, none⟩) (by simp)).trans (by go_simp)
  have q3 : w1.frozen? ⟨w.heap.size, 1, none⟩ = false := (hb1.frozen (p := ⟨w.heap.size, 1, none⟩) (by simp)).trans (by go_simp)
  have hx : Below w.heap.size w w1 := ((Below.refl _ w).alloc (Nat.le_refl _) _).trans (hb1.mono (by simp))
  clear hb1 hC
  by_cases hT : T = 1099511627776
  · have hB : B = 1099511627776 := by rw [E.out, if_pos hT]
    clear E
    subst hT hB
    go_wp2
    all_goals go_ret
    all_goals exact ⟨rfl, (hx.setCell (Nat.le_refl _) _).setCell (Nat.le_refl _) _⟩
  · have hB : B = T - F := by rw [E.out, if_neg hT]
    clear E
    subst hB
    go_wp2
    all_goals try go_region
    all_goals try go_wp2
    all_goals go_ret
    all_goals exact ⟨rfl, by first | exact (hx.setCell (Nat.le_refl _) _).setCell (Nat.le_refl _) _ | exact ((hx.setCell (Nat.le_refl _) _).setCell (Nat.le_refl _) _).drew⟩
end Go.Proofs.Ytnmhdodcfbjalaa
