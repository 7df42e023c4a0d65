/- The contract of the reference's Cut of layer 1. No condition. -/
import Derived.Test.YtnmhdodcfbjalaaSpanE
namespace Go.Proofs.Ytnmhdodcfbjalaa
set_option linter.unusedVariables false
open Go.ChangeShapes Go.WideShapes Go.ChangeAt Go.RowKit
set_option maxRecDepth 100000 in
set_option maxHeartbeats 1000000 in
theorem rcut_any (f t g u : Int) (w : World) :
    Calls Try.prog 15 #[.agg #[.int .i64 f, .int .i64 t], .agg #[.int .i64 g, .int .i64 u]] w fun e w' => e = .returned (.agg #[.int .i64 (cutI (f, t) (g, u)).1, .int .i64 (cutI (f, t) (g, u)).2]) ∧ Below w.heap.size w w' := by
  have E := Lib.hid (rcut_eq (f, t) (g, u)).symm
  generalize cutI (f, t) (g, u) = C at *
  have hC := fun W => rclean_any f t W
  have hD := fun W => rclean_any g u W
  generalize (cleanI (f, t)).1 = F at *
  generalize (cleanI (f, t)).2 = T at *
  generalize (cleanI (g, u)).1 = G at *
  generalize (cleanI (g, u)).2 = U at *
  have hE := fun X Y W => rclean_any X Y W
  go_enter Try.func15, Try.ntmps15
  go_wp2_with fail
  refine (hC _).mono ?_
  rintro e w1 ⟨rfl, hb1⟩
  have hx : Below w.heap.size w w1 := by
    refine Below.trans ?_ (hb1.mono ?_)
    · exact (by repeat (first | exact Below.refl _ _ | assumption | refine below_drewN ?_ _ | refine Below.drew ?_ | refine below_alloc ?_ _ | refine Below.alloc ?_ (by first | omega | (simp; done) | (simp; omega)) _ | refine Below.setCell ?_ (Below.size (by assumption)) _ | refine Below.setCell ?_ (by first | omega | (simp; done) | (simp; omega)) _ | (refine Below.trans ?_ (Below.mono (by assumption) (by first | omega | (simp; done) | (simp; omega)))) | refine below_next ?_ (by assumption)))
    · simp; omega
  have q0 : w1.cell? ⟨w.heap.size, 0, none⟩ = some (.int .i64 f) := (hb1.cell (p := ⟨w.heap.size, 0, none⟩) (by simp; omega)).trans (by go_simp)
  have q1 : w1.cell? ⟨w.heap.size, 1, none⟩ = some (.int .i64 t) := (hb1.cell (p := ⟨w.heap.size, 1, none⟩) (by simp; omega)).trans (by go_simp)
  have q2 : w1.frozen? ⟨w.heap.size, 0, none⟩ = false := (hb1.frozen (p := ⟨w.heap.size, 0, none⟩) (by simp; omega)).trans (by go_simp)
  have q3 : w1.frozen? ⟨w.heap.size, 1, none⟩ = false := (hb1.frozen (p := ⟨w.heap.size, 1, none⟩) (by simp; omega)).trans (by go_simp)
  have s0 : w1.cell? ⟨w.heap.size + 1, 0, none⟩ = some (.int .i64 g) := (hb1.cell (p := ⟨w.heap.size + 1, 0, none⟩) (by simp)).trans (by go_simp)
  have s1 : w1.cell? ⟨w.heap.size + 1, 1, none⟩ = some (.int .i64 u) := (hb1.cell (p := ⟨w.heap.size + 1, 1, none⟩) (by simp)).trans (by go_simp)
  have s2 : w1.frozen? ⟨w.heap.size + 1, 0, none⟩ = false := (hb1.frozen (p := ⟨w.heap.size + 1, 0, none⟩) (by simp)).trans (by go_simp)
  have s3 : w1.frozen? ⟨w.heap.size + 1, 1, none⟩ = false := (hb1.frozen (p := ⟨w.heap.size + 1, 1, none⟩) (by simp)).trans (by go_simp)
  have p0 : w1.cell? ⟨w.heap.size + 1 + 1, 0, none⟩ = some (.int .i64 0) := (hb1.cell (p := ⟨w.heap.size + 1 + 1, 0, none⟩) (by simp)).trans (by go_simp)
  have p1 : w1.cell? ⟨w.heap.size + 1 + 1, 1, none⟩ = some (.int .i64 0) := (hb1.cell (p := ⟨w.heap.size + 1 + 1, 1, none⟩) (by simp)).trans (by go_simp)
  have p2 : w1.frozen? ⟨w.heap.size + 1 + 1, 0, none⟩ = false := (hb1.frozen (p := ⟨w.heap.size + 1 + 1, 0, none⟩) (by simp)).trans (by go_simp)
  have p3 : w1.frozen? ⟨w.heap.size + 1 + 1, 1, none⟩ = false := (hb1.frozen (p := ⟨w.heap.size + 1 + 1, 1, none⟩) (by simp)).trans (by go_simp)
  have hz1 : w.heap.size + 1 + 1 < w1.heap.size := by have := hb1.size; simp at this; omega
  clear hb1
  go_wp2_with fail
  refine (hD _).mono ?_
  rintro e w2 ⟨rfl, hb2⟩
  have hX : Below w.heap.size w ((w1.setCell ⟨w.heap.size, 0, none⟩ (.int .i64 F)).setCell ⟨w.heap.size, 1, none⟩ (.int .i64 T)) := (hx.setCell (Nat.le_refl _) _).setCell (Nat.le_refl _) _
  have c0 : ((w1.setCell ⟨w.heap.size, 0, none⟩ (.int .i64 F)).setCell ⟨w.heap.size, 1, none⟩ (.int .i64 T)).cell? ⟨w.heap.size, 0, none⟩ = some (.int .i64 F) := by go_simp
  have c1 : ((w1.setCell ⟨w.heap.size, 0, none⟩ (.int .i64 F)).setCell ⟨w.heap.size, 1, none⟩ (.int .i64 T)).cell? ⟨w.heap.size, 1, none⟩ = some (.int .i64 T) := by go_simp
  have c2 : ((w1.setCell ⟨w.heap.size, 0, none⟩ (.int .i64 F)).setCell ⟨w.heap.size, 1, none⟩ (.int .i64 T)).cell? ⟨w.heap.size + 1, 0, none⟩ = some (.int .i64 g) := by go_simp
  have c3 : ((w1.setCell ⟨w.heap.size, 0, none⟩ (.int .i64 F)).setCell ⟨w.heap.size, 1, none⟩ (.int .i64 T)).cell? ⟨w.heap.size + 1, 1, none⟩ = some (.int .i64 u) := by go_simp
  have c4 : ((w1.setCell ⟨w.heap.size, 0, none⟩ (.int .i64 F)).setCell ⟨w.heap.size, 1, none⟩ (.int .i64 T)).frozen? ⟨w.heap.size + 1, 0, none⟩ = false := by go_simp
  have c5 : ((w1.setCell ⟨w.heap.size, 0, none⟩ (.int .i64 F)).setCell ⟨w.heap.size, 1, none⟩ (.int .i64 T)).frozen? ⟨w.heap.size + 1, 1, none⟩ = false := by go_simp
  have c6 : ((w1.setCell ⟨w.heap.size, 0, none⟩ (.int .i64 F)).setCell ⟨w.heap.size, 1, none⟩ (.int .i64 T)).cell? ⟨w.heap.size + 1 + 1, 0, none⟩ = some (.int .i64 0) := by go_simp
  have c7 : ((w1.setCell ⟨w.heap.size, 0, none⟩ (.int .i64 F)).setCell ⟨w.heap.size, 1, none⟩ (.int .i64 T)).cell? ⟨w.heap.size + 1 + 1, 1, none⟩ = some (.int .i64 0) := by go_simp
  have c8 : ((w1.setCell ⟨w.heap.size, 0, none⟩ (.int .i64 F)).setCell ⟨w.heap.size, 1, none⟩ (.int .i64 T)).frozen? ⟨w.heap.size + 1 + 1, 0, none⟩ = false := by go_simp
  have c9 : ((w1.setCell ⟨w.heap.size, 0, none⟩ (.int .i64 F)).setCell ⟨w.heap.size, 1, none⟩ (.int .i64 T)).frozen? ⟨w.heap.size + 1 + 1, 1, none⟩ = false := by go_simp
  have hz2 : w.heap.size + 1 + 1 < ((w1.setCell ⟨w.heap.size, 0, none⟩ (.int .i64 F)).setCell ⟨w.heap.size, 1, none⟩ (.int .i64 T)).heap.size := by simp; omega
  clear q0 q1 q2 q3 s0 s1 s2 s3 p0 p1 p2 p3
  generalize (w1.setCell ⟨w.heap.size, 0, none⟩ (.int .i64 F)).setCell ⟨w.heap.size, 1, none⟩ (.int .i64 T) = W1 at *
  have k0 := (hb2.cell (p := ⟨w.heap.size, 0, none⟩) (Nat.lt_of_succ_lt (Nat.lt_of_succ_lt hz2))).trans c0
  have k1 := (hb2.cell (p := ⟨w.heap.size, 1, none⟩) (Nat.lt_of_succ_lt (Nat.lt_of_succ_lt hz2))).trans c1
  have k2 := (hb2.cell (p := ⟨w.heap.size + 1, 0, none⟩) (Nat.lt_of_succ_lt hz2)).trans c2
  have k3 := (hb2.cell (p := ⟨w.heap.size + 1, 1, none⟩) (Nat.lt_of_succ_lt hz2)).trans c3
  have k4 := (hb2.frozen (p := ⟨w.heap.size + 1, 0, none⟩) (Nat.lt_of_succ_lt hz2)).trans c4
  have k5 := (hb2.frozen (p := ⟨w.heap.size + 1, 1, none⟩) (Nat.lt_of_succ_lt hz2)).trans c5
  have k6 := (hb2.cell (p := ⟨w.heap.size + 1 + 1, 0, none⟩) hz2).trans c6
  have k7 := (hb2.cell (p := ⟨w.heap.size + 1 + 1, 1, none⟩) hz2).trans c7
  have k8 := (hb2.frozen (p := ⟨w.heap.size + 1 + 1, 0, none⟩) hz2).trans c8
  have k9 := (hb2.frozen (p := ⟨w.heap.size + 1 + 1, 1, none⟩) hz2).trans c9
  have hz4 : w.heap.size + 1 + 1 < w2.heap.size := Nat.lt_of_lt_of_le hz2 hb2.size
  have hy : Below w.heap.size w w2 := hX.trans (hb2.mono hX.size)
  have hz3 : w.heap.size ≤ w2.heap.size := hy.size
  clear hb2 hX c0 c1 c2 c3 c4 c5 c6 c7 c8 c9 hz2 hx
  go_wp2_with fail
  · have e : C = cleanI (G, U) := by rw [E.out, show max F G = G by omega, show min T U = U by omega]
    refine (hE G U _).mono ?_
    rw [← e]
    rintro e w3 ⟨rfl, hb3⟩
    have hz : Below w.heap.size w w3 := ((hy.setCell (Nat.le_succ _) _).setCell (Nat.le_succ _) _).trans (hb3.mono (by simp; omega))
    have m0 : w3.cell? ⟨w.heap.size + 1 + 1, 0, none⟩ = some (.int .i64 0) := (hb3.cell (p := ⟨w.heap.size + 1 + 1, 0, none⟩) (by simp; omega)).trans (by go_simp)
    have m1 : w3.cell? ⟨w.heap.size + 1 + 1, 1, none⟩ = some (.int .i64 0) := (hb3.cell (p := ⟨w.heap.size + 1 + 1, 1, none⟩) (by simp; omega)).trans (by go_simp)
    have m2 : w3.frozen? ⟨w.heap.size + 1 + 1, 0, none⟩ = false := (hb3.frozen (p := ⟨w.heap.size + 1 + 1, 0, none⟩) (by simp; omega)).trans (by go_simp)
    have m3 : w3.frozen? ⟨w.heap.size + 1 + 1, 1, none⟩ = false := (hb3.frozen (p := ⟨w.heap.size + 1 + 1, 1, none⟩) (by simp; omega)).trans (by go_simp)
    clear hb3
    go_wp2_with fail
    exact bodyPost_ret (v := .agg #[.int .i64 C.1, .int .i64 C.2]) (by simp only [results, Try.results15]; go_simp) rfl ⟨rfl, (hz.setCell (by simp; omega) _).setCell (by simp; omega) _⟩
  · have e : C = cleanI (G, T) := by rw [E.out, show max F G = G by omega, show min T U = T by omega]
    refine (hE G T _).mono ?_
    rw [← e]
    rintro e w3 ⟨rfl, hb3⟩
    have hz : Below w.heap.size w w3 := ((hy.setCell (Nat.le_succ _) _).setCell (Nat.le_succ _) _).trans (hb3.mono (by simp; omega))
    have m0 : w3.cell? ⟨w.heap.size + 1 + 1, 0, none⟩ = some (.int .i64 0) := (hb3.cell (p := ⟨w.heap.size + 1 + 1, 0, none⟩) (by simp; omega)).trans (by go_simp)
    have m1 : w3.cell? ⟨w.heap.size + 1 + 1, 1, none⟩ = some (.int .i64 0) := (hb3.cell (p := ⟨w.heap.size + 1 + 1, 1, none⟩) (by simp; omega)).trans (by go_simp)
    have m2 : w3.frozen? ⟨w.heap.size + 1 + 1, 0, none⟩ = false := (hb3.frozen (p := ⟨w.heap.size + 1 + 1, 0, none⟩) (by simp; omega)).trans (by go_simp)
    have m3 : w3.frozen? ⟨w.heap.size + 1 + 1, 1, none⟩ = false := (hb3.frozen (p := ⟨w.heap.size + 1 + 1, 1, none⟩) (by simp; omega)).trans (by go_simp)
    clear hb3
    go_wp2_with fail
    exact bodyPost_ret (v := .agg #[.int .i64 C.1, .int .i64 C.2]) (by simp only [results, Try.results15]; go_simp) rfl ⟨rfl, (hz.setCell (by simp; omega) _).setCell (by simp; omega) _⟩
  · have e : C = cleanI (F, U) := by rw [E.out, show max F G = F by omega, show min T U = U by omega]
    refine (hE F U _).mono ?_
    rw [← e]
    rintro e w3 ⟨rfl, hb3⟩
    have hz : Below w.heap.size w w3 := ((hy.setCell (Nat.le_succ _) _).setCell (Nat.le_succ _) _).trans (hb3.mono (by simp; omega))
    have m0 : w3.cell? ⟨w.heap.size + 1 + 1, 0, none⟩ = some (.int .i64 0) := (hb3.cell (p := ⟨w.heap.size + 1 + 1, 0, none⟩) (by simp; omega)).trans (by go_simp)
    have m1 : w3.cell? ⟨w.heap.size + 1 + 1, 1, none⟩ = some (.int .i64 0) := (hb3.cell (p := ⟨w.heap.size + 1 + 1, 1, none⟩) (by simp; omega)).trans (by go_simp)
    have m2 : w3.frozen? ⟨w.heap.size + 1 + 1, 0, none⟩ = false := (hb3.frozen (p := ⟨w.heap.size + 1 + 1, 0, none⟩) (by simp; omega)).trans (by go_simp)
    have m3 : w3.frozen? ⟨w.heap.size + 1 + 1, 1, none⟩ = false := (hb3.frozen (p := ⟨w.heap.size + 1 + 1, 1, none⟩) (by simp; omega)).trans (by go_simp)
    clear hb3
    go_wp2_with fail
    exact bodyPost_ret (v := .agg #[.int .i64 C.1, .int .i64 C.2]) (by simp only [results, Try.results15]; go_simp) rfl ⟨rfl, (hz.setCell (by simp; omega) _).setCell (by simp; omega) _⟩
  · have e : C = cleanI (F, T) := by rw [E.out, show max F G = F by omega, show min T U = T by omega]
    refine (hE F T _).mono ?_
    rw [← e]
    rintro e w3 ⟨rfl, hb3⟩
    have hz : Below w.heap.size w w3 := ((hy.setCell (Nat.le_succ _) _).setCell (Nat.le_succ _) _).trans (hb3.mono (by simp; omega))
    have m0 : w3.cell? ⟨w.heap.size + 1 + 1, 0, none⟩ = some (.int .i64 0) := (hb3.cell (p := ⟨w.heap.size + 1 + 1, 0, none⟩) (by simp; omega)).trans (by go_simp)
    have m1 : w3.cell? ⟨w.heap.size + 1 + 1, 1, none⟩ = some (.int .i64 0) := (hb3.cell (p := ⟨w.heap.size + 1 + 1, 1, none⟩) (by simp; omega)).trans (by go_simp)
    have m2 : w3.frozen? ⟨w.heap.size + 1 + 1, 0, none⟩ = false := (hb3.frozen (p := ⟨w.heap.size + 1 + 1, 0, none⟩) (by simp; omega)).trans (by go_simp)
    have m3 : w3.frozen? ⟨w.heap.size + 1 + 1, 1, none⟩ = false := (hb3.frozen (p := ⟨w.heap.size + 1 + 1, 1, none⟩) (by simp; omega)).trans (by go_simp)
    clear hb3
    go_wp2_with fail
    exact bodyPost_ret (v := .agg #[.int .i64 C.1, .int .i64 C.2]) (by simp only [results, Try.results15]; go_simp) rfl ⟨rfl, (hz.setCell (by simp; omega) _).setCell (by simp; omega) _⟩
end Go.Proofs.Ytnmhdodcfbjalaa
