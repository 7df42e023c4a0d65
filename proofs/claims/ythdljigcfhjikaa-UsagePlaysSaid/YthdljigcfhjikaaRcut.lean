/- The contract of the reference's Cut of layer 1 (out of tick's texts, for seats without its Len). No condition. -/
import Derived.Test.YthdljigcfhjikaaSpanC
namespace Go.Proofs.Ythdljigcfhjikaa
set_option linter.unusedVariables false
open Go.ChangeShapes Go.WideShapes Go.ChangeAt Go.RowKit
theorem cleanI_bd (a : Int × Int) : (0 ≤ (cleanI a).1 ∧ (cleanI a).1 ≤ 1099511627776) ∧ 0 ≤ (cleanI a).2 ∧ (cleanI a).2 ≤ 1099511627776 := by
  have h1 := clampI_bd a.1; have h2 := clampI_bd a.2
  unfold cleanI
  split <;> simp <;> omega
theorem rlen_eq (f t : Int) : (if (cleanI (f, t)).2 = 1099511627776 then 1099511627776 else (cleanI (f, t)).2 - (cleanI (f, t)).1) = lenI (f, t) := by
  have h1 := clampI_bd f; have h2 := clampI_bd t
  have e2 : lenI (f, t) = if clampI t ≤ clampI f then 0 else subI t f := rfl
  by_cases hle : clampI t ≤ clampI f
  · have e : cleanI (f, t) = (0, 0) := by unfold cleanI; exact if_pos hle
    rw [e, e2, if_pos hle]; rfl
  · have e : cleanI (f, t) = (clampI f, clampI t) := by unfold cleanI; exact if_neg hle
    rw [e, e2, if_neg hle]
    unfold subI
    show (if clampI t = 1099511627776 then _ else clampI t - clampI f) = _
    by_cases h : clampI t = 1099511627776
    · rw [if_pos h]; repeat' split
      all_goals first | omega | rfl
    · rw [if_neg h, clampI_id (n := clampI t - clampI f) (by omega) (by omega)]; repeat' split
      all_goals omega
theorem rcut_eq (a b : Int × Int) : cleanI (max (cleanI a).1 (cleanI b).1, min (cleanI a).2 (cleanI b).2) = cutI a b := by
  have h1 := clampI_bd a.1; have h2 := clampI_bd a.2; have h3 := clampI_bd b.1; have h4 := clampI_bd b.2
  have ha := cleanI_bd a; have hb := cleanI_bd b
  have e : cleanI (max (cleanI a).1 (cleanI b).1, min (cleanI a).2 (cleanI b).2) = if min (cleanI a).2 (cleanI b).2 ≤ max (cleanI a).1 (cleanI b).1 then (0, 0) else (max (cleanI a).1 (cleanI b).1, min (cleanI a).2 (cleanI b).2) := by
    show (if clampI (min (cleanI a).2 (cleanI b).2) ≤ clampI (max (cleanI a).1 (cleanI b).1) then _ else (clampI _, clampI _)) = _
    rw [clampI_id (n := min (cleanI a).2 (cleanI b).2) (by omega) (by omega), clampI_id (n := max (cleanI a).1 (cleanI b).1) (by omega) (by omega)]
  rw [e]
  unfold cutI bothT bothF
  by_cases p : clampI a.2 ≤ clampI a.1
  · have ea : cleanI a = (0, 0) := by unfold cleanI; exact if_pos p
    rw [ea] at *
    rw [if_pos (by simp at *; omega), if_pos (by omega)]
  · have ea : cleanI a = (clampI a.1, clampI a.2) := by unfold cleanI; exact if_neg p
    by_cases q : clampI b.2 ≤ clampI b.1
    · have eb : cleanI b = (0, 0) := by unfold cleanI; exact if_pos q
      rw [eb] at *
      rw [if_pos (by simp at *; omega), if_pos (by omega)]
    · have eb : cleanI b = (clampI b.1, clampI b.2) := by unfold cleanI; exact if_neg q
      rw [ea, eb]
set_option maxRecDepth 100000 in
set_option maxHeartbeats 1000000 in
theorem rcut_any (f t g u : Int) (w : World) :
    Calls Try.prog 36 #[.agg #[.int .i64 f, .int .i64 t], .agg #[.int .i64 g, .int .i64 u]] w fun e w' => e = .returned (.agg #[.int .i64 (cutI (f, t) (g, u)).1, .int .i64 (cutI (f, t) (g, u)).2]) ∧ Below w.heap.size w w' := by
  have E := Lib.hid (rcut_eq (f, t) (g, u)).symm
  generalize cutI (f, t) (g, u) = C at *
  have hC := fun W => rclean_any f t W
  have hD := fun W => rclean_any g u W
  generalize (cleanI (f, t)).1 = F at *
  generalize (cleanI (f, t)).2 = T at *
  generalize (cleanI (g, u)).1 = G at *
  generalize (cleanI (g, u)).2 = U at *
  have hE := fun X Y W => rclean_any X Y W
  go_enter Try.func36, Try.ntmps36
  go_wp2_with fail
  refine (hC _).mono ?_
  rintro e w1 ⟨rfl, hb1⟩
  have hx : Below w.heap.size w w1 := by
    refine Below.trans ?_ (hb1.mono ?_)
    · exact (by repeat (first | exact Below.refl _ _ | assumption | refine below_drewN ?_ _ | refine Below.drew ?_ | refine below_alloc ?_ _ | refine Below.alloc ?_ (by first | omega | (simp; done) | (simp; omega)) _ | refine Below.setCell ?_ (Below.size (by assumption)) _ | refine Below.setCell ?_ (by first | omega | (simp; done) | (simp; omega)) _ | (refine Below.trans ?_ (Below.mono (by assumption) (by first | omega | (simp; done) | (simp; omega)))) | refine below_next ?_ (by assumption)))
    · simp; omega
  have q0 : w1.cell? ⟨w.heap.size, 0, none⟩ = some (.int .i64 f) := (hb1.cell (p := ⟨w.heap.size, 0, none⟩) (by simp; omega)).trans (by go_simp)
  have q1 : w1.cell? ⟨w.heap.size, 1, none⟩ = some (.int .i64 t) := (hb1.cell (p := ⟨w.heap.size, 1, none⟩) (by simp; omega)).trans (by go_simp)
  have q2 : w1.frozen? ⟨w.heap.size, 0, none⟩ = false := (hb1.frozen (p := ⟨w.heap.size, 0, none⟩) (by simp; omega)).trans (by go_simp)
  have q3 : w1.frozen? ⟨w.heap.size, 1, none⟩ = false := (hb1.frozen (p := ⟨w.heap.size, 1, none⟩) (by simp; omega)).trans (by go_simp)
  have s0 : w1.cell? ⟨w.heap.size + 1, 0, none⟩ = some (.int .i64 g) := (hb1.cell (p := ⟨w.heap.size + 1, 0, none⟩) (by simp)).trans (by go_simp)
  have s1 : w1.cell? ⟨w.heap.size + 1, 1, none⟩ = some (.int .i64 u) := (hb1.cell (p := ⟨w.heap.size + 1, 1, none⟩) (by simp)).trans (by go_simp)
  have s2 : w1.frozen? ⟨w.heap.size + 1, 0, none⟩ = false := (hb1.frozen (p := ⟨w.heap.size + 1, 0, none⟩) (by simp)).trans (by go_simp)
  have s3 : w1.frozen? ⟨w.heap.size + 1, 1, none⟩ = false := (hb1.frozen (p := ⟨w.heap.size + 1, 1, none⟩) (by simp)).trans (by go_simp)
  have p0 : w1.cell? ⟨w.heap.size + 1 + 1, 0, none⟩ = some (.int .i64 0) := (hb1.cell (p := ⟨w.heap.size + 1 + 1, 0, none⟩) (by simp)).trans (by go_simp)
  have p1 : w1.cell? ⟨w.heap.size + 1 + 1, 1, none⟩ = some (.int .i64 0) := (hb1.cell (p := ⟨w.heap.size + 1 + 1, 1, none⟩) (by simp)).trans (by go_simp)
  have p2 : w1.frozen? ⟨w.heap.size + 1 + 1, 0, none⟩ = false := (hb1.frozen (p := ⟨w.heap.size + 1 + 1, 0, none⟩) (by simp)).trans (by go_simp)
  have p3 : w1.frozen? ⟨w.heap.size + 1 + 1, 1, none⟩ = false := (hb1.frozen (p := ⟨w.heap.size + 1 + 1, 1, none⟩) (by simp)).trans (by go_simp)
  have hz1 : w.heap.size + 1 + 1 < w1.heap.size := by have := hb1.size; simp at this; omega
  clear hb1
  go_wp2_with fail
  refine (hD _).mono ?_
  rintro e w2 ⟨rfl, hb2⟩
  have hX : Below w.heap.size w ((w1.setCell ⟨w.heap.size, 0, none⟩ (.int .i64 F)).setCell ⟨w.heap.size, 1, none⟩ (.int .i64 T)) := (hx.setCell (Nat.le_refl _) _).setCell (Nat.le_refl _) _
  have c0 : ((w1.setCell ⟨w.heap.size, 0, none⟩ (.int .i64 F)).setCell ⟨w.heap.size, 1, none⟩ (.int .i64 T)).cell? ⟨w.heap.size, 0, none⟩ = some (.int .i64 F) := by go_simp
  have c1 : ((w1.setCell ⟨w.heap.size, 0, none⟩ (.int .i64 F)).setCell ⟨w.heap.size, 1, none⟩ (.int .i64 T)).cell? ⟨w.heap.size, 1, none⟩ = some (.int .i64 T) := by go_simp
  have c2 : ((w1.setCell ⟨w.heap.size, 0, none⟩ (.int .i64 F)).setCell ⟨w.heap.size, 1, none⟩ (.int .i64 T)).cell? ⟨w.heap.size + 1, 0, none⟩ = some (.int .i64 g) := by go_simp
  have c3 : ((w1.setCell ⟨w.heap.size, 0, none⟩ (.int .i64 F)).setCell ⟨w.heap.size, 1, none⟩ (.int .i64 T)).cell? ⟨w.heap.size + 1, 1, none⟩ = some (.int .i64 u) := by go_simp
  have c4 : ((w1.setCell ⟨w.heap.size, 0, none⟩ (.int .i64 F)).setCell ⟨w.heap.size, 1, none⟩ (.int .i64 T)).frozen? ⟨w.heap.size + 1, 0, none⟩ = false := by go_simp
  have c5 : ((w1.setCell ⟨w.heap.size, 0, none⟩ (.int .i64 F)).setCell ⟨w.heap.size, 1, none⟩ (.int .i64 T)).frozen? ⟨w.heap.size + 1, 1, none⟩ = false := by go_simp
  have c6 : ((w1.setCell ⟨w.heap.size, 0, none⟩ (.int .i64 F)).setCell ⟨w.heap.size, 1, none⟩ (.int .i64 T)).cell? ⟨w.heap.size + 1 + 1, 0, none⟩ = some (.int .i64 0) := by go_simp
  have c7 : ((w1.setCell ⟨w.heap.size, 0, none⟩ (.int .i64 F)).setCell ⟨w.heap.size, 1, none⟩ (.int .i64 T)).cell? ⟨w.heap.size + 1 + 1, 1, none⟩ = some (.int .i64 0) := by go_simp
  have c8 : ((w1.setCell ⟨w.heap.size, 0, none⟩ (.int .i64 F)).setCell ⟨w.heap.size, 1, none⟩ (.int .i64 T)).frozen? ⟨w.heap.size + 1 + 1, 0, none⟩ = false := by go_simp
  have c9 : ((w1.setCell ⟨w.heap.size, 0, none⟩ (.int .i64 F)).setCell ⟨w.heap.size, 1, none⟩ (.int .i64 T)).frozen? ⟨w.heap.size + 1 + 1, 1, none⟩ = false := by go_simp
  have hz2 : w.heap.size + 1 + 1 < ((w1.setCell ⟨w.heap.size, 0, none⟩ (.int .i64 F)).setCell ⟨w.heap.size, 1, none⟩ (.int .i64 T)).heap.size := by simp; omega
  clear q0 q1 q2 q3 s0 s1 s2 s3 p0 p1 p2 p3
  generalize (w1.setCell ⟨w.heap.size, 0, none⟩ (.int .i64 F)).setCell ⟨w.heap.size, 1, none⟩ (.int .i64 T) = W1 at *
  have k0 := (hb2.cell (p := ⟨w.heap.size, 0, none⟩) (Nat.lt_of_succ_lt (Nat.lt_of_succ_lt hz2))).trans c0
  have k1 := (hb2.cell (p := ⟨w.heap.size, 1, none⟩) (Nat.lt_of_succ_lt (Nat.lt_of_succ_lt hz2))).trans c1
  have k2 := (hb2.cell (p := ⟨w.heap.size + 1, 0, none⟩) (Nat.lt_of_succ_lt hz2)).trans c2
  have k3 := (hb2.cell (p := ⟨w.heap.size + 1, 1, none⟩) (Nat.lt_of_succ_lt hz2)).trans c3
  have k4 := (hb2.frozen (p := ⟨w.heap.size + 1, 0, none⟩) (Nat.lt_of_succ_lt hz2)).trans c4
  have k5 := (hb2.frozen (p := ⟨w.heap.size + 1, 1, none⟩) (Nat.lt_of_succ_lt hz2)).trans c5
  have k6 := (hb2.cell (p := ⟨w.heap.size + 1 + 1, 0, none⟩) hz2).trans c6
  have k7 := (hb2.cell (p := ⟨w.heap.size + 1 + 1, 1, none⟩) hz2).trans c7
  have k8 := (hb2.frozen (p := ⟨w.heap.size + 1 + 1, 0, none⟩) hz2).trans c8
  have k9 := (hb2.frozen (p := ⟨w.heap.size + 1 + 1, 1, none⟩) hz2).trans c9
  have hz4 : w.heap.size + 1 + 1 < w2.heap.size := Nat.lt_of_lt_of_le hz2 hb2.size
  have hy : Below w.heap.size w w2 := hX.trans (hb2.mono hX.size)
  have hz3 : w.heap.size ≤ w2.heap.size := hy.size
  clear hb2 hX c0 c1 c2 c3 c4 c5 c6 c7 c8 c9 hz2 hx
  go_wp2_with fail
  · have e : C = cleanI (G, U) := by rw [E.out, show max F G = G by omega, show min T U = U by omega]
    refine (hE G U _).mono ?_
    rw [← e]
    rintro e w3 ⟨rfl, hb3⟩
    have hz : Below w.heap.size w w3 := ((hy.setCell (Nat.le_succ _) _).setCell (Nat.le_succ _) _).trans (hb3.mono (by simp; omega))
    have m0 : w3.cell? ⟨w.heap.size + 1 + 1, 0, none⟩ = some (.int .i64 0) := (hb3.cell (p := ⟨w.heap.size + 1 + 1, 0, none⟩) (by simp; omega)).trans (by go_simp)
    have m1 : w3.cell? ⟨w.heap.size + 1 + 1, 1, none⟩ = some (.int .i64 0) := (hb3.cell (p := ⟨w.heap.size + 1 + 1, 1, none⟩) (by simp; omega)).trans (by go_simp)
    have m2 : w3.frozen? ⟨w.heap.size + 1 + 1, 0, none⟩ = false := (hb3.frozen (p := ⟨w.heap.size + 1 + 1, 0, none⟩) (by simp; omega)).trans (by go_simp)
    have m3 : w3.frozen? ⟨w.heap.size + 1 + 1, 1, none⟩ = false := (hb3.frozen (p := ⟨w.heap.size + 1 + 1, 1, none⟩) (by simp; omega)).trans (by go_simp)
    clear hb3
    go_wp2_with fail
    exact bodyPost_ret (v := .agg #[.int .i64 C.1, .int .i64 C.2]) (by simp only [results, Try.results36]; go_simp) rfl ⟨rfl, (hz.setCell (by simp; omega) _).setCell (by simp; omega) _⟩
  · have e : C = cleanI (G, T) := by rw [E.out, show max F G = G by omega, show min T U = T by omega]
    refine (hE G T _).mono ?_
    rw [← e]
    rintro e w3 ⟨rfl, hb3⟩
    have hz : Below w.heap.size w w3 := ((hy.setCell (Nat.le_succ _) _).setCell (Nat.le_succ _) _).trans (hb3.mono (by simp; omega))
    have m0 : w3.cell? ⟨w.heap.size + 1 + 1, 0, none⟩ = some (.int .i64 0) := (hb3.cell (p := ⟨w.heap.size + 1 + 1, 0, none⟩) (by simp; omega)).trans (by go_simp)
    have m1 : w3.cell? ⟨w.heap.size + 1 + 1, 1, none⟩ = some (.int .i64 0) := (hb3.cell (p := ⟨w.heap.size + 1 + 1, 1, none⟩) (by simp; omega)).trans (by go_simp)
    have m2 : w3.frozen? ⟨w.heap.size + 1 + 1, 0, none⟩ = false := (hb3.frozen (p := ⟨w.heap.size + 1 + 1, 0, none⟩) (by simp; omega)).trans (by go_simp)
    have m3 : w3.frozen? ⟨w.heap.size + 1 + 1, 1, none⟩ = false := (hb3.frozen (p := ⟨w.heap.size + 1 + 1, 1, none⟩) (by simp; omega)).trans (by go_simp)
    clear hb3
    go_wp2_with fail
    exact bodyPost_ret (v := .agg #[.int .i64 C.1, .int .i64 C.2]) (by simp only [results, Try.results36]; go_simp) rfl ⟨rfl, (hz.setCell (by simp; omega) _).setCell (by simp; omega) _⟩
  · have e : C = cleanI (F, U) := by rw [E.out, show max F G = F by omega, show min T U = U by omega]
    refine (hE F U _).mono ?_
    rw [← e]
    rintro e w3 ⟨rfl, hb3⟩
    have hz : Below w.heap.size w w3 := ((hy.setCell (Nat.le_succ _) _).setCell (Nat.le_succ _) _).trans (hb3.mono (by simp; omega))
    have m0 : w3.cell? ⟨w.heap.size + 1 + 1, 0, none⟩ = some (.int .i64 0) := (hb3.cell (p := ⟨w.heap.size + 1 + 1, 0, none⟩) (by simp; omega)).trans (by go_simp)
    have m1 : w3.cell? ⟨w.heap.size + 1 + 1, 1, none⟩ = some (.int .i64 0) := (hb3.cell (p := ⟨w.heap.size + 1 + 1, 1, none⟩) (by simp; omega)).trans (by go_simp)
    have m2 : w3.frozen? ⟨w.heap.size + 1 + 1, 0, none⟩ = false := (hb3.frozen (p := ⟨w.heap.size + 1 + 1, 0, none⟩) (by simp; omega)).trans (by go_simp)
    have m3 : w3.frozen? ⟨w.heap.size + 1 + 1, 1, none⟩ = false := (hb3.frozen (p := ⟨w.heap.size + 1 + 1, 1, none⟩) (by simp; omega)).trans (by go_simp)
    clear hb3
    go_wp2_with fail
    exact bodyPost_ret (v := .agg #[.int .i64 C.1, .int .i64 C.2]) (by simp only [results, Try.results36]; go_simp) rfl ⟨rfl, (hz.setCell (by simp; omega) _).setCell (by simp; omega) _⟩
  · have e : C = cleanI (F, T) := by rw [E.out, show max F G = F by omega, show min T U = T by omega]
    refine (hE F T _).mono ?_
    rw [← e]
    rintro e w3 ⟨rfl, hb3⟩
    have hz : Below w.heap.size w w3 := ((hy.setCell (Nat.le_succ _) _).setCell (Nat.le_succ _) _).trans (hb3.mono (by simp; omega))
    have m0 : w3.cell? ⟨w.heap.size + 1 + 1, 0, none⟩ = some (.int .i64 0) := (hb3.cell (p := ⟨w.heap.size + 1 + 1, 0, none⟩) (by simp; omega)).trans (by go_simp)
    have m1 : w3.cell? ⟨w.heap.size + 1 + 1, 1, none⟩ = some (.int .i64 0) := (hb3.cell (p := ⟨w.heap.size + 1 + 1, 1, none⟩) (by simp; omega)).trans (by go_simp)
    have m2 : w3.frozen? ⟨w.heap.size + 1 + 1, 0, none⟩ = false := (hb3.frozen (p := ⟨w.heap.size + 1 + 1, 0, none⟩) (by simp; omega)).trans (by go_simp)
    have m3 : w3.frozen? ⟨w.heap.size + 1 + 1, 1, none⟩ = false := (hb3.frozen (p := ⟨w.heap.size + 1 + 1, 1, none⟩) (by simp; omega)).trans (by go_simp)
    clear hb3
    go_wp2_with fail
    exact bodyPost_ret (v := .agg #[.int .i64 C.1, .int .i64 C.2]) (by simp only [results, Try.results36]; go_simp) rfl ⟨rfl, (hz.setCell (by simp; omega) _).setCell (by simp; omega) _⟩
end Go.Proofs.Ythdljigcfhjikaa
