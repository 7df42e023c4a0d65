/- The document's Next (berthingref08). No condition. -/
import Derived.Test.YtnofgffkfapodaaDoorMaj
namespace Go.Proofs.YtnofgffkfapodaaDoor
set_option linter.unusedVariables false
open Go.ChangeShapes Go.WideShapes Go.ChangeAt Go.RowKit
attribute [local go_sem ↓] Go.wp_at_zero Go.wp_at_succ comesTo_value_eq comesTo_skip_eq comesTo_enter_eq
set_option maxRecDepth 100000 in
set_option maxHeartbeats 8000000 in
theorem rnx_0_0 (m b S D P : Int) (w : World) (h1 : rightR S D P = true) (h2 : rightN (0) (m) (b) S D P = true) :
    Calls Tryd.prog 34 #[.agg #[.int .i64 0, .int .i64 m, .int .i64 b], .agg #[.int .i64 S, .int .i64 D, .int .i64 P], .int .i64 0] w fun e w' => e = .returned (.agg #[.int .i64 (0), .int .i64 (0), .int .i64 (b)]) ∧ Below w.heap.size w w' := by
  have K := Lib.hid (fun W => rn8_any (0) (m) (b) S D P W)
  rw [h1, h2] at K
  clear h1 h2
  have N0 := World.alloc_heap_new w (.cells #[.int .i64 (0), .int .i64 (m), .int .i64 (b)] 67)
  have N1 := World.alloc_heap_new (w.alloc (.cells #[.int .i64 (0), .int .i64 (m), .int .i64 (b)] 67)) (.cells #[.int .i64 S, .int .i64 D, .int .i64 P] 32)
  have N2 := World.alloc_heap_new ((w.alloc (.cells #[.int .i64 (0), .int .i64 (m), .int .i64 (b)] 67)).alloc (.cells #[.int .i64 S, .int .i64 D, .int .i64 P] 32)) (.cells #[.int .i64 0, .int .i64 0, .int .i64 0] 67)
  have B0 := below_alloc (Below.refl _ w) (.cells #[.int .i64 (0), .int .i64 (m), .int .i64 (b)] 67)
  have B1 := below_alloc (Below.refl _ (w.alloc (.cells #[.int .i64 (0), .int .i64 (m), .int .i64 (b)] 67))) (.cells #[.int .i64 S, .int .i64 D, .int .i64 P] 32)
  have B2 := below_alloc (Below.refl _ ((w.alloc (.cells #[.int .i64 (0), .int .i64 (m), .int .i64 (b)] 67)).alloc (.cells #[.int .i64 S, .int .i64 D, .int .i64 P] 32))) (.cells #[.int .i64 0, .int .i64 0, .int .i64 0] 67)
  have M0 := Lib.hid ((B2.block _ (by simp; omega)).trans ((B1.block _ (by simp)).trans N0))
  have M1 := Lib.hid ((B2.block _ (by simp)).trans N1)
  have M2 := Lib.hid N2
  have HB := Lib.hid (below_next (below_next B0 B1) B2)
  rw [World.size_alloc] at M1
  rw [World.size_alloc, World.size_alloc] at M2
  clear N0 N1 N2 B0 B1 B2
  go_enter Tryd.func34, Tryd.ntmps34
  go_upto_region 1 with fail
  generalize ((w.alloc (.cells #[.int .i64 (0), .int .i64 (m), .int .i64 (b)] 67)).alloc (.cells #[.int .i64 S, .int .i64 D, .int .i64 P] 32)).alloc (.cells #[.int .i64 0, .int .i64 0, .int .i64 0] 67) = w0 at *
  have a0 := cell_of_block (o := 0) M0.out rfl
  have a1 := cell_of_block (o := 1) M0.out rfl
  have a2 := cell_of_block (o := 2) M0.out rfl
  have r0 := cell_of_block (o := 0) M1.out rfl
  have r1 := cell_of_block (o := 1) M1.out rfl
  have r2 := cell_of_block (o := 2) M1.out rfl
  have c0 := cell_of_block (o := 0) M2.out rfl
  have c1 := cell_of_block (o := 1) M2.out rfl
  have c2 := cell_of_block (o := 2) M2.out rfl
  have g0 := free_of_block 0 M0.out
  have g1 := free_of_block 1 M0.out
  have g2 := free_of_block 2 M0.out
  have f0 := free_of_block 0 M2.out
  have f1 := free_of_block 1 M2.out
  have f2 := free_of_block 2 M2.out
  go_wp2_with fail
  refine (K.out _).mono ?_
  rintro e w1 ⟨rfl, hb⟩
  clear a0 a1 a2 r0 r1 r2 c0 c1 c2 g0 g1 g2 f0 f1 f2
  replace M0 := Lib.hid ((hb.block _ (Array.getElem?_eq_some_iff.1 M0.out).1).trans M0.out)
  replace M1 := Lib.hid ((hb.block _ (Array.getElem?_eq_some_iff.1 M1.out).1).trans M1.out)
  replace M2 := Lib.hid ((hb.block _ (Array.getElem?_eq_some_iff.1 M2.out).1).trans M2.out)
  replace HB := Lib.hid (below_next HB.out hb)
  clear hb K
  have a0 := cell_of_block (o := 0) M0.out rfl
  have a1 := cell_of_block (o := 1) M0.out rfl
  have a2 := cell_of_block (o := 2) M0.out rfl
  have r0 := cell_of_block (o := 0) M1.out rfl
  have r1 := cell_of_block (o := 1) M1.out rfl
  have r2 := cell_of_block (o := 2) M1.out rfl
  have c0 := cell_of_block (o := 0) M2.out rfl
  have c1 := cell_of_block (o := 1) M2.out rfl
  have c2 := cell_of_block (o := 2) M2.out rfl
  have g0 := free_of_block 0 M0.out
  have g1 := free_of_block 1 M0.out
  have g2 := free_of_block 2 M0.out
  have f0 := free_of_block 0 M2.out
  have f1 := free_of_block 1 M2.out
  have f2 := free_of_block 2 M2.out
  go_upto_region 7 with fail
  clear a0 a1 a2 r0 r1 r2 c0 c1 c2 g0 g1 g2 f0 f1 f2
  have hw' := ((wrote_refl M0.out).set 1 (.int .i64 (0)))
  replace M0 := Lib.hid (show (w1.setCell ⟨w.heap.size, 1, none⟩ (.int .i64 (0))).heap[w.heap.size]? = some (.cells #[.int .i64 (0), .int .i64 (0), .int .i64 (b)] 67 (0, 0)) from hw'.there)
  replace M1 := Lib.hid ((hw'.rest _ (by omega)).trans M1.out)
  replace M2 := Lib.hid ((hw'.rest _ (by omega)).trans M2.out)
  replace HB := Lib.hid (hw'.below HB.out (Nat.le_refl _))
  clear hw'
  generalize (w1.setCell ⟨w.heap.size, 1, none⟩ (.int .i64 (0))) = w2 at *
  have a0 := cell_of_block (o := 0) M0.out rfl
  have a1 := cell_of_block (o := 1) M0.out rfl
  have a2 := cell_of_block (o := 2) M0.out rfl
  have r0 := cell_of_block (o := 0) M1.out rfl
  have r1 := cell_of_block (o := 1) M1.out rfl
  have r2 := cell_of_block (o := 2) M1.out rfl
  have c0 := cell_of_block (o := 0) M2.out rfl
  have c1 := cell_of_block (o := 1) M2.out rfl
  have c2 := cell_of_block (o := 2) M2.out rfl
  have g0 := free_of_block 0 M0.out
  have g1 := free_of_block 1 M0.out
  have g2 := free_of_block 2 M0.out
  have f0 := free_of_block 0 M2.out
  have f1 := free_of_block 1 M2.out
  have f2 := free_of_block 2 M2.out
  go_wp2_with fail
  exact bodyPost_ret (v := .agg #[.int .i64 (0), .int .i64 (0), .int .i64 (b)]) (by simp [results, Tryd.results34, go_sem, *]) rfl ⟨rfl, (by repeat (first | exact Below.refl _ _ | assumption | refine below_drewN ?_ _ | refine Below.drew ?_ | refine below_alloc ?_ _ | refine Below.alloc ?_ (by first | omega | (simp; done) | (simp; omega)) _ | refine Below.setCell ?_ (Below.size (by assumption)) _ | refine Below.setCell ?_ (by first | omega | (simp; done) | (simp; omega)) _ | (refine Below.trans ?_ (Below.mono (by assumption) (by first | omega | (simp; done) | (simp; omega)))) | refine below_next ?_ (by assumption)))⟩
set_option maxRecDepth 100000 in
set_option maxHeartbeats 8000000 in
theorem rnx_0_1_yes (m b S D P : Int) (w : World) (h1 : rightR S D P = true) (h2 : rightN (1) (m) (b) S D P = true) (hx : b + 1 = P) :
    Calls Tryd.prog 34 #[.agg #[.int .i64 1, .int .i64 m, .int .i64 b], .agg #[.int .i64 S, .int .i64 D, .int .i64 P], .int .i64 0] w fun e w' => e = .returned (.agg #[.int .i64 (0), .int .i64 (0), .int .i64 (0)]) ∧ Below w.heap.size w w' := by
  have hr := h1
  have hn := h2
  unfold rightR at hr
  unfold rightN at hn
  rw [decide_eq_true_eq] at hr hn
  have hw : IntKind.i64.wrap (b + 1) = b + 1 := by rw [IntKind.wrap_i64]; omega
  have dP : decide (b + 1 ≥ P) = true := decide_eq_true (by omega)
  have dP' : decide (P ≤ b + 1) = true := decide_eq_true (by omega)
  clear hr hn hx
  have K := Lib.hid (fun W => rn8_any (1) (m) (b) S D P W)
  rw [h1, h2] at K
  clear h1 h2
  have N0 := World.alloc_heap_new w (.cells #[.int .i64 (1), .int .i64 (m), .int .i64 (b)] 67)
  have N1 := World.alloc_heap_new (w.alloc (.cells #[.int .i64 (1), .int .i64 (m), .int .i64 (b)] 67)) (.cells #[.int .i64 S, .int .i64 D, .int .i64 P] 32)
  have N2 := World.alloc_heap_new ((w.alloc (.cells #[.int .i64 (1), .int .i64 (m), .int .i64 (b)] 67)).alloc (.cells #[.int .i64 S, .int .i64 D, .int .i64 P] 32)) (.cells #[.int .i64 0, .int .i64 0, .int .i64 0] 67)
  have B0 := below_alloc (Below.refl _ w) (.cells #[.int .i64 (1), .int .i64 (m), .int .i64 (b)] 67)
  have B1 := below_alloc (Below.refl _ (w.alloc (.cells #[.int .i64 (1), .int .i64 (m), .int .i64 (b)] 67))) (.cells #[.int .i64 S, .int .i64 D, .int .i64 P] 32)
  have B2 := below_alloc (Below.refl _ ((w.alloc (.cells #[.int .i64 (1), .int .i64 (m), .int .i64 (b)] 67)).alloc (.cells #[.int .i64 S, .int .i64 D, .int .i64 P] 32))) (.cells #[.int .i64 0, .int .i64 0, .int .i64 0] 67)
  have M0 := Lib.hid ((B2.block _ (by simp; omega)).trans ((B1.block _ (by simp)).trans N0))
  have M1 := Lib.hid ((B2.block _ (by simp)).trans N1)
  have M2 := Lib.hid N2
  have HB := Lib.hid (below_next (below_next B0 B1) B2)
  rw [World.size_alloc] at M1
  rw [World.size_alloc, World.size_alloc] at M2
  clear N0 N1 N2 B0 B1 B2
  go_enter Tryd.func34, Tryd.ntmps34
  go_upto_region 1 with fail
  generalize ((w.alloc (.cells #[.int .i64 (1), .int .i64 (m), .int .i64 (b)] 67)).alloc (.cells #[.int .i64 S, .int .i64 D, .int .i64 P] 32)).alloc (.cells #[.int .i64 0, .int .i64 0, .int .i64 0] 67) = w0 at *
  have a0 := cell_of_block (o := 0) M0.out rfl
  have a1 := cell_of_block (o := 1) M0.out rfl
  have a2 := cell_of_block (o := 2) M0.out rfl
  have r0 := cell_of_block (o := 0) M1.out rfl
  have r1 := cell_of_block (o := 1) M1.out rfl
  have r2 := cell_of_block (o := 2) M1.out rfl
  have c0 := cell_of_block (o := 0) M2.out rfl
  have c1 := cell_of_block (o := 1) M2.out rfl
  have c2 := cell_of_block (o := 2) M2.out rfl
  have g0 := free_of_block 0 M0.out
  have g1 := free_of_block 1 M0.out
  have g2 := free_of_block 2 M0.out
  have f0 := free_of_block 0 M2.out
  have f1 := free_of_block 1 M2.out
  have f2 := free_of_block 2 M2.out
  go_wp2_with fail
  refine (K.out _).mono ?_
  rintro e w1 ⟨rfl, hb⟩
  clear a0 a1 a2 r0 r1 r2 c0 c1 c2 g0 g1 g2 f0 f1 f2
  replace M0 := Lib.hid ((hb.block _ (Array.getElem?_eq_some_iff.1 M0.out).1).trans M0.out)
  replace M1 := Lib.hid ((hb.block _ (Array.getElem?_eq_some_iff.1 M1.out).1).trans M1.out)
  replace M2 := Lib.hid ((hb.block _ (Array.getElem?_eq_some_iff.1 M2.out).1).trans M2.out)
  replace HB := Lib.hid (below_next HB.out hb)
  clear hb K
  have a0 := cell_of_block (o := 0) M0.out rfl
  have a1 := cell_of_block (o := 1) M0.out rfl
  have a2 := cell_of_block (o := 2) M0.out rfl
  have r0 := cell_of_block (o := 0) M1.out rfl
  have r1 := cell_of_block (o := 1) M1.out rfl
  have r2 := cell_of_block (o := 2) M1.out rfl
  have c0 := cell_of_block (o := 0) M2.out rfl
  have c1 := cell_of_block (o := 1) M2.out rfl
  have c2 := cell_of_block (o := 2) M2.out rfl
  have g0 := free_of_block 0 M0.out
  have g1 := free_of_block 1 M0.out
  have g2 := free_of_block 2 M0.out
  have f0 := free_of_block 0 M2.out
  have f1 := free_of_block 1 M2.out
  have f2 := free_of_block 2 M2.out
  go_upto_region 9 with fail
  clear a0 a1 a2 r0 r1 r2 c0 c1 c2 g0 g1 g2 f0 f1 f2
  have hw' := ((wrote_refl M0.out).set 2 (.int .i64 (b + 1)))
  replace M0 := Lib.hid (show (w1.setCell ⟨w.heap.size, 2, none⟩ (.int .i64 (b + 1))).heap[w.heap.size]? = some (.cells #[.int .i64 (1), .int .i64 (m), .int .i64 (b + 1)] 67 (0, 0)) from hw'.there)
  replace M1 := Lib.hid ((hw'.rest _ (by omega)).trans M1.out)
  replace M2 := Lib.hid ((hw'.rest _ (by omega)).trans M2.out)
  replace HB := Lib.hid (hw'.below HB.out (Nat.le_refl _))
  clear hw'
  generalize (w1.setCell ⟨w.heap.size, 2, none⟩ (.int .i64 (b + 1))) = w2 at *
  have a0 := cell_of_block (o := 0) M0.out rfl
  have a1 := cell_of_block (o := 1) M0.out rfl
  have a2 := cell_of_block (o := 2) M0.out rfl
  have r0 := cell_of_block (o := 0) M1.out rfl
  have r1 := cell_of_block (o := 1) M1.out rfl
  have r2 := cell_of_block (o := 2) M1.out rfl
  have c0 := cell_of_block (o := 0) M2.out rfl
  have c1 := cell_of_block (o := 1) M2.out rfl
  have c2 := cell_of_block (o := 2) M2.out rfl
  have g0 := free_of_block 0 M0.out
  have g1 := free_of_block 1 M0.out
  have g2 := free_of_block 2 M0.out
  have f0 := free_of_block 0 M2.out
  have f1 := free_of_block 1 M2.out
  have f2 := free_of_block 2 M2.out
  go_upto_region 31 with fail
  clear a0 a1 a2 r0 r1 r2 c0 c1 c2 g0 g1 g2 f0 f1 f2
  have hw' := ((((wrote_refl M0.out).set 0 (.int .i64 (0))).set 1 (.int .i64 (0))).set 2 (.int .i64 (0)))
  replace M0 := Lib.hid (show (((w2.setCell ⟨w.heap.size, 0, none⟩ (.int .i64 (0))).setCell ⟨w.heap.size, 1, none⟩ (.int .i64 (0))).setCell ⟨w.heap.size, 2, none⟩ (.int .i64 (0))).heap[w.heap.size]? = some (.cells #[.int .i64 (0), .int .i64 (0), .int .i64 (0)] 67 (0, 0)) from hw'.there)
  replace M1 := Lib.hid ((hw'.rest _ (by omega)).trans M1.out)
  replace M2 := Lib.hid ((hw'.rest _ (by omega)).trans M2.out)
  replace HB := Lib.hid (hw'.below HB.out (Nat.le_refl _))
  clear hw'
  generalize (((w2.setCell ⟨w.heap.size, 0, none⟩ (.int .i64 (0))).setCell ⟨w.heap.size, 1, none⟩ (.int .i64 (0))).setCell ⟨w.heap.size, 2, none⟩ (.int .i64 (0))) = w3 at *
  have a0 := cell_of_block (o := 0) M0.out rfl
  have a1 := cell_of_block (o := 1) M0.out rfl
  have a2 := cell_of_block (o := 2) M0.out rfl
  have r0 := cell_of_block (o := 0) M1.out rfl
  have r1 := cell_of_block (o := 1) M1.out rfl
  have r2 := cell_of_block (o := 2) M1.out rfl
  have c0 := cell_of_block (o := 0) M2.out rfl
  have c1 := cell_of_block (o := 1) M2.out rfl
  have c2 := cell_of_block (o := 2) M2.out rfl
  have g0 := free_of_block 0 M0.out
  have g1 := free_of_block 1 M0.out
  have g2 := free_of_block 2 M0.out
  have f0 := free_of_block 0 M2.out
  have f1 := free_of_block 1 M2.out
  have f2 := free_of_block 2 M2.out
  go_wp2_with fail
  exact bodyPost_ret (v := .agg #[.int .i64 (0), .int .i64 (0), .int .i64 (0)]) (by simp [results, Tryd.results34, go_sem, *]) rfl ⟨rfl, (by repeat (first | exact Below.refl _ _ | assumption | refine below_drewN ?_ _ | refine Below.drew ?_ | refine below_alloc ?_ _ | refine Below.alloc ?_ (by first | omega | (simp; done) | (simp; omega)) _ | refine Below.setCell ?_ (Below.size (by assumption)) _ | refine Below.setCell ?_ (by first | omega | (simp; done) | (simp; omega)) _ | (refine Below.trans ?_ (Below.mono (by assumption) (by first | omega | (simp; done) | (simp; omega)))) | refine below_next ?_ (by assumption)))⟩
set_option maxRecDepth 100000 in
set_option maxHeartbeats 8000000 in
theorem rnx_0_1_no (m b S D P : Int) (w : World) (h1 : rightR S D P = true) (h2 : rightN (1) (m) (b) S D P = true) (hx : ¬ b + 1 = P) :
    Calls Tryd.prog 34 #[.agg #[.int .i64 1, .int .i64 m, .int .i64 b], .agg #[.int .i64 S, .int .i64 D, .int .i64 P], .int .i64 0] w fun e w' => e = .returned (.agg #[.int .i64 (1), .int .i64 (m), .int .i64 (b + 1)]) ∧ Below w.heap.size w w' := by
  have hr := h1
  have hn := h2
  unfold rightR at hr
  unfold rightN at hn
  rw [decide_eq_true_eq] at hr hn
  have hw : IntKind.i64.wrap (b + 1) = b + 1 := by rw [IntKind.wrap_i64]; omega
  have dP : decide (b + 1 ≥ P) = false := decide_eq_false (by omega)
  have dP' : decide (P ≤ b + 1) = false := decide_eq_false (by omega)
  clear hr hn hx
  have K := Lib.hid (fun W => rn8_any (1) (m) (b) S D P W)
  rw [h1, h2] at K
  clear h1 h2
  have N0 := World.alloc_heap_new w (.cells #[.int .i64 (1), .int .i64 (m), .int .i64 (b)] 67)
  have N1 := World.alloc_heap_new (w.alloc (.cells #[.int .i64 (1), .int .i64 (m), .int .i64 (b)] 67)) (.cells #[.int .i64 S, .int .i64 D, .int .i64 P] 32)
  have N2 := World.alloc_heap_new ((w.alloc (.cells #[.int .i64 (1), .int .i64 (m), .int .i64 (b)] 67)).alloc (.cells #[.int .i64 S, .int .i64 D, .int .i64 P] 32)) (.cells #[.int .i64 0, .int .i64 0, .int .i64 0] 67)
  have B0 := below_alloc (Below.refl _ w) (.cells #[.int .i64 (1), .int .i64 (m), .int .i64 (b)] 67)
  have B1 := below_alloc (Below.refl _ (w.alloc (.cells #[.int .i64 (1), .int .i64 (m), .int .i64 (b)] 67))) (.cells #[.int .i64 S, .int .i64 D, .int .i64 P] 32)
  have B2 := below_alloc (Below.refl _ ((w.alloc (.cells #[.int .i64 (1), .int .i64 (m), .int .i64 (b)] 67)).alloc (.cells #[.int .i64 S, .int .i64 D, .int .i64 P] 32))) (.cells #[.int .i64 0, .int .i64 0, .int .i64 0] 67)
  have M0 := Lib.hid ((B2.block _ (by simp; omega)).trans ((B1.block _ (by simp)).trans N0))
  have M1 := Lib.hid ((B2.block _ (by simp)).trans N1)
  have M2 := Lib.hid N2
  have HB := Lib.hid (below_next (below_next B0 B1) B2)
  rw [World.size_alloc] at M1
  rw [World.size_alloc, World.size_alloc] at M2
  clear N0 N1 N2 B0 B1 B2
  go_enter Tryd.func34, Tryd.ntmps34
  go_upto_region 1 with fail
  generalize ((w.alloc (.cells #[.int .i64 (1), .int .i64 (m), .int .i64 (b)] 67)).alloc (.cells #[.int .i64 S, .int .i64 D, .int .i64 P] 32)).alloc (.cells #[.int .i64 0, .int .i64 0, .int .i64 0] 67) = w0 at *
  have a0 := cell_of_block (o := 0) M0.out rfl
  have a1 := cell_of_block (o := 1) M0.out rfl
  have a2 := cell_of_block (o := 2) M0.out rfl
  have r0 := cell_of_block (o := 0) M1.out rfl
  have r1 := cell_of_block (o := 1) M1.out rfl
  have r2 := cell_of_block (o := 2) M1.out rfl
  have c0 := cell_of_block (o := 0) M2.out rfl
  have c1 := cell_of_block (o := 1) M2.out rfl
  have c2 := cell_of_block (o := 2) M2.out rfl
  have g0 := free_of_block 0 M0.out
  have g1 := free_of_block 1 M0.out
  have g2 := free_of_block 2 M0.out
  have f0 := free_of_block 0 M2.out
  have f1 := free_of_block 1 M2.out
  have f2 := free_of_block 2 M2.out
  go_wp2_with fail
  refine (K.out _).mono ?_
  rintro e w1 ⟨rfl, hb⟩
  clear a0 a1 a2 r0 r1 r2 c0 c1 c2 g0 g1 g2 f0 f1 f2
  replace M0 := Lib.hid ((hb.block _ (Array.getElem?_eq_some_iff.1 M0.out).1).trans M0.out)
  replace M1 := Lib.hid ((hb.block _ (Array.getElem?_eq_some_iff.1 M1.out).1).trans M1.out)
  replace M2 := Lib.hid ((hb.block _ (Array.getElem?_eq_some_iff.1 M2.out).1).trans M2.out)
  replace HB := Lib.hid (below_next HB.out hb)
  clear hb K
  have a0 := cell_of_block (o := 0) M0.out rfl
  have a1 := cell_of_block (o := 1) M0.out rfl
  have a2 := cell_of_block (o := 2) M0.out rfl
  have r0 := cell_of_block (o := 0) M1.out rfl
  have r1 := cell_of_block (o := 1) M1.out rfl
  have r2 := cell_of_block (o := 2) M1.out rfl
  have c0 := cell_of_block (o := 0) M2.out rfl
  have c1 := cell_of_block (o := 1) M2.out rfl
  have c2 := cell_of_block (o := 2) M2.out rfl
  have g0 := free_of_block 0 M0.out
  have g1 := free_of_block 1 M0.out
  have g2 := free_of_block 2 M0.out
  have f0 := free_of_block 0 M2.out
  have f1 := free_of_block 1 M2.out
  have f2 := free_of_block 2 M2.out
  go_upto_region 9 with fail
  clear a0 a1 a2 r0 r1 r2 c0 c1 c2 g0 g1 g2 f0 f1 f2
  have hw' := ((wrote_refl M0.out).set 2 (.int .i64 (b + 1)))
  replace M0 := Lib.hid (show (w1.setCell ⟨w.heap.size, 2, none⟩ (.int .i64 (b + 1))).heap[w.heap.size]? = some (.cells #[.int .i64 (1), .int .i64 (m), .int .i64 (b + 1)] 67 (0, 0)) from hw'.there)
  replace M1 := Lib.hid ((hw'.rest _ (by omega)).trans M1.out)
  replace M2 := Lib.hid ((hw'.rest _ (by omega)).trans M2.out)
  replace HB := Lib.hid (hw'.below HB.out (Nat.le_refl _))
  clear hw'
  generalize (w1.setCell ⟨w.heap.size, 2, none⟩ (.int .i64 (b + 1))) = w2 at *
  have a0 := cell_of_block (o := 0) M0.out rfl
  have a1 := cell_of_block (o := 1) M0.out rfl
  have a2 := cell_of_block (o := 2) M0.out rfl
  have r0 := cell_of_block (o := 0) M1.out rfl
  have r1 := cell_of_block (o := 1) M1.out rfl
  have r2 := cell_of_block (o := 2) M1.out rfl
  have c0 := cell_of_block (o := 0) M2.out rfl
  have c1 := cell_of_block (o := 1) M2.out rfl
  have c2 := cell_of_block (o := 2) M2.out rfl
  have g0 := free_of_block 0 M0.out
  have g1 := free_of_block 1 M0.out
  have g2 := free_of_block 2 M0.out
  have f0 := free_of_block 0 M2.out
  have f1 := free_of_block 1 M2.out
  have f2 := free_of_block 2 M2.out
  go_wp2_with fail
  exact bodyPost_ret (v := .agg #[.int .i64 (1), .int .i64 (m), .int .i64 (b + 1)]) (by simp [results, Tryd.results34, go_sem, *]) rfl ⟨rfl, (by repeat (first | exact Below.refl _ _ | assumption | refine below_drewN ?_ _ | refine Below.drew ?_ | refine below_alloc ?_ _ | refine Below.alloc ?_ (by first | omega | (simp; done) | (simp; omega)) _ | refine Below.setCell ?_ (Below.size (by assumption)) _ | refine Below.setCell ?_ (by first | omega | (simp; done) | (simp; omega)) _ | (refine Below.trans ?_ (Below.mono (by assumption) (by first | omega | (simp; done) | (simp; omega)))) | refine below_next ?_ (by assumption)))⟩
set_option maxRecDepth 100000 in
set_option maxHeartbeats 8000000 in
theorem rnx_0_4_yes (m b S D P : Int) (w : World) (h1 : rightR S D P = true) (h2 : rightN (4) (m) (b) S D P = true) (hx : b + 1 = P) :
    Calls Tryd.prog 34 #[.agg #[.int .i64 4, .int .i64 m, .int .i64 b], .agg #[.int .i64 S, .int .i64 D, .int .i64 P], .int .i64 0] w fun e w' => e = .returned (.agg #[.int .i64 (0), .int .i64 (0), .int .i64 (0)]) ∧ Below w.heap.size w w' := by
  have hr := h1
  have hn := h2
  unfold rightR at hr
  unfold rightN at hn
  rw [decide_eq_true_eq] at hr hn
  have hw : IntKind.i64.wrap (b + 1) = b + 1 := by rw [IntKind.wrap_i64]; omega
  have dP : decide (b + 1 ≥ P) = true := decide_eq_true (by omega)
  have dP' : decide (P ≤ b + 1) = true := decide_eq_true (by omega)
  clear hr hn hx
  have K := Lib.hid (fun W => rn8_any (4) (m) (b) S D P W)
  rw [h1, h2] at K
  clear h1 h2
  have N0 := World.alloc_heap_new w (.cells #[.int .i64 (4), .int .i64 (m), .int .i64 (b)] 67)
  have N1 := World.alloc_heap_new (w.alloc (.cells #[.int .i64 (4), .int .i64 (m), .int .i64 (b)] 67)) (.cells #[.int .i64 S, .int .i64 D, .int .i64 P] 32)
  have N2 := World.alloc_heap_new ((w.alloc (.cells #[.int .i64 (4), .int .i64 (m), .int .i64 (b)] 67)).alloc (.cells #[.int .i64 S, .int .i64 D, .int .i64 P] 32)) (.cells #[.int .i64 0, .int .i64 0, .int .i64 0] 67)
  have B0 := below_alloc (Below.refl _ w) (.cells #[.int .i64 (4), .int .i64 (m), .int .i64 (b)] 67)
  have B1 := below_alloc (Below.refl _ (w.alloc (.cells #[.int .i64 (4), .int .i64 (m), .int .i64 (b)] 67))) (.cells #[.int .i64 S, .int .i64 D, .int .i64 P] 32)
  have B2 := below_alloc (Below.refl _ ((w.alloc (.cells #[.int .i64 (4), .int .i64 (m), .int .i64 (b)] 67)).alloc (.cells #[.int .i64 S, .int .i64 D, .int .i64 P] 32))) (.cells #[.int .i64 0, .int .i64 0, .int .i64 0] 67)
  have M0 := Lib.hid ((B2.block _ (by simp; omega)).trans ((B1.block _ (by simp)).trans N0))
  have M1 := Lib.hid ((B2.block _ (by simp)).trans N1)
  have M2 := Lib.hid N2
  have HB := Lib.hid (below_next (below_next B0 B1) B2)
  rw [World.size_alloc] at M1
  rw [World.size_alloc, World.size_alloc] at M2
  clear N0 N1 N2 B0 B1 B2
  go_enter Tryd.func34, Tryd.ntmps34
  go_upto_region 1 with fail
  generalize ((w.alloc (.cells #[.int .i64 (4), .int .i64 (m), .int .i64 (b)] 67)).alloc (.cells #[.int .i64 S, .int .i64 D, .int .i64 P] 32)).alloc (.cells #[.int .i64 0, .int .i64 0, .int .i64 0] 67) = w0 at *
  have a0 := cell_of_block (o := 0) M0.out rfl
  have a1 := cell_of_block (o := 1) M0.out rfl
  have a2 := cell_of_block (o := 2) M0.out rfl
  have r0 := cell_of_block (o := 0) M1.out rfl
  have r1 := cell_of_block (o := 1) M1.out rfl
  have r2 := cell_of_block (o := 2) M1.out rfl
  have c0 := cell_of_block (o := 0) M2.out rfl
  have c1 := cell_of_block (o := 1) M2.out rfl
  have c2 := cell_of_block (o := 2) M2.out rfl
  have g0 := free_of_block 0 M0.out
  have g1 := free_of_block 1 M0.out
  have g2 := free_of_block 2 M0.out
  have f0 := free_of_block 0 M2.out
  have f1 := free_of_block 1 M2.out
  have f2 := free_of_block 2 M2.out
  go_wp2_with fail
  refine (K.out _).mono ?_
  rintro e w1 ⟨rfl, hb⟩
  clear a0 a1 a2 r0 r1 r2 c0 c1 c2 g0 g1 g2 f0 f1 f2
  replace M0 := Lib.hid ((hb.block _ (Array.getElem?_eq_some_iff.1 M0.out).1).trans M0.out)
  replace M1 := Lib.hid ((hb.block _ (Array.getElem?_eq_some_iff.1 M1.out).1).trans M1.out)
  replace M2 := Lib.hid ((hb.block _ (Array.getElem?_eq_some_iff.1 M2.out).1).trans M2.out)
  replace HB := Lib.hid (below_next HB.out hb)
  clear hb K
  have a0 := cell_of_block (o := 0) M0.out rfl
  have a1 := cell_of_block (o := 1) M0.out rfl
  have a2 := cell_of_block (o := 2) M0.out rfl
  have r0 := cell_of_block (o := 0) M1.out rfl
  have r1 := cell_of_block (o := 1) M1.out rfl
  have r2 := cell_of_block (o := 2) M1.out rfl
  have c0 := cell_of_block (o := 0) M2.out rfl
  have c1 := cell_of_block (o := 1) M2.out rfl
  have c2 := cell_of_block (o := 2) M2.out rfl
  have g0 := free_of_block 0 M0.out
  have g1 := free_of_block 1 M0.out
  have g2 := free_of_block 2 M0.out
  have f0 := free_of_block 0 M2.out
  have f1 := free_of_block 1 M2.out
  have f2 := free_of_block 2 M2.out
  go_upto_region 9 with fail
  clear a0 a1 a2 r0 r1 r2 c0 c1 c2 g0 g1 g2 f0 f1 f2
  have hw' := ((wrote_refl M0.out).set 2 (.int .i64 (b + 1)))
  replace M0 := Lib.hid (show (w1.setCell ⟨w.heap.size, 2, none⟩ (.int .i64 (b + 1))).heap[w.heap.size]? = some (.cells #[.int .i64 (4), .int .i64 (m), .int .i64 (b + 1)] 67 (0, 0)) from hw'.there)
  replace M1 := Lib.hid ((hw'.rest _ (by omega)).trans M1.out)
  replace M2 := Lib.hid ((hw'.rest _ (by omega)).trans M2.out)
  replace HB := Lib.hid (hw'.below HB.out (Nat.le_refl _))
  clear hw'
  generalize (w1.setCell ⟨w.heap.size, 2, none⟩ (.int .i64 (b + 1))) = w2 at *
  have a0 := cell_of_block (o := 0) M0.out rfl
  have a1 := cell_of_block (o := 1) M0.out rfl
  have a2 := cell_of_block (o := 2) M0.out rfl
  have r0 := cell_of_block (o := 0) M1.out rfl
  have r1 := cell_of_block (o := 1) M1.out rfl
  have r2 := cell_of_block (o := 2) M1.out rfl
  have c0 := cell_of_block (o := 0) M2.out rfl
  have c1 := cell_of_block (o := 1) M2.out rfl
  have c2 := cell_of_block (o := 2) M2.out rfl
  have g0 := free_of_block 0 M0.out
  have g1 := free_of_block 1 M0.out
  have g2 := free_of_block 2 M0.out
  have f0 := free_of_block 0 M2.out
  have f1 := free_of_block 1 M2.out
  have f2 := free_of_block 2 M2.out
  go_upto_region 31 with fail
  clear a0 a1 a2 r0 r1 r2 c0 c1 c2 g0 g1 g2 f0 f1 f2
  have hw' := ((((wrote_refl M0.out).set 0 (.int .i64 (0))).set 1 (.int .i64 (0))).set 2 (.int .i64 (0)))
  replace M0 := Lib.hid (show (((w2.setCell ⟨w.heap.size, 0, none⟩ (.int .i64 (0))).setCell ⟨w.heap.size, 1, none⟩ (.int .i64 (0))).setCell ⟨w.heap.size, 2, none⟩ (.int .i64 (0))).heap[w.heap.size]? = some (.cells #[.int .i64 (0), .int .i64 (0), .int .i64 (0)] 67 (0, 0)) from hw'.there)
  replace M1 := Lib.hid ((hw'.rest _ (by omega)).trans M1.out)
  replace M2 := Lib.hid ((hw'.rest _ (by omega)).trans M2.out)
  replace HB := Lib.hid (hw'.below HB.out (Nat.le_refl _))
  clear hw'
  generalize (((w2.setCell ⟨w.heap.size, 0, none⟩ (.int .i64 (0))).setCell ⟨w.heap.size, 1, none⟩ (.int .i64 (0))).setCell ⟨w.heap.size, 2, none⟩ (.int .i64 (0))) = w3 at *
  have a0 := cell_of_block (o := 0) M0.out rfl
  have a1 := cell_of_block (o := 1) M0.out rfl
  have a2 := cell_of_block (o := 2) M0.out rfl
  have r0 := cell_of_block (o := 0) M1.out rfl
  have r1 := cell_of_block (o := 1) M1.out rfl
  have r2 := cell_of_block (o := 2) M1.out rfl
  have c0 := cell_of_block (o := 0) M2.out rfl
  have c1 := cell_of_block (o := 1) M2.out rfl
  have c2 := cell_of_block (o := 2) M2.out rfl
  have g0 := free_of_block 0 M0.out
  have g1 := free_of_block 1 M0.out
  have g2 := free_of_block 2 M0.out
  have f0 := free_of_block 0 M2.out
  have f1 := free_of_block 1 M2.out
  have f2 := free_of_block 2 M2.out
  go_wp2_with fail
  exact bodyPost_ret (v := .agg #[.int .i64 (0), .int .i64 (0), .int .i64 (0)]) (by simp [results, Tryd.results34, go_sem, *]) rfl ⟨rfl, (by repeat (first | exact Below.refl _ _ | assumption | refine below_drewN ?_ _ | refine Below.drew ?_ | refine below_alloc ?_ _ | refine Below.alloc ?_ (by first | omega | (simp; done) | (simp; omega)) _ | refine Below.setCell ?_ (Below.size (by assumption)) _ | refine Below.setCell ?_ (by first | omega | (simp; done) | (simp; omega)) _ | (refine Below.trans ?_ (Below.mono (by assumption) (by first | omega | (simp; done) | (simp; omega)))) | refine below_next ?_ (by assumption)))⟩
set_option maxRecDepth 100000 in
set_option maxHeartbeats 8000000 in
theorem rnx_0_4_no (m b S D P : Int) (w : World) (h1 : rightR S D P = true) (h2 : rightN (4) (m) (b) S D P = true) (hx : ¬ b + 1 = P) :
    Calls Tryd.prog 34 #[.agg #[.int .i64 4, .int .i64 m, .int .i64 b], .agg #[.int .i64 S, .int .i64 D, .int .i64 P], .int .i64 0] w fun e w' => e = .returned (.agg #[.int .i64 (4), .int .i64 (m), .int .i64 (b + 1)]) ∧ Below w.heap.size w w' := by
  have hr := h1
  have hn := h2
  unfold rightR at hr
  unfold rightN at hn
  rw [decide_eq_true_eq] at hr hn
  have hw : IntKind.i64.wrap (b + 1) = b + 1 := by rw [IntKind.wrap_i64]; omega
  have dP : decide (b + 1 ≥ P) = false := decide_eq_false (by omega)
  have dP' : decide (P ≤ b + 1) = false := decide_eq_false (by omega)
  clear hr hn hx
  have K := Lib.hid (fun W => rn8_any (4) (m) (b) S D P W)
  rw [h1, h2] at K
  clear h1 h2
  have N0 := World.alloc_heap_new w (.cells #[.int .i64 (4), .int .i64 (m), .int .i64 (b)] 67)
  have N1 := World.alloc_heap_new (w.alloc (.cells #[.int .i64 (4), .int .i64 (m), .int .i64 (b)] 67)) (.cells #[.int .i64 S, .int .i64 D, .int .i64 P] 32)
  have N2 := World.alloc_heap_new ((w.alloc (.cells #[.int .i64 (4), .int .i64 (m), .int .i64 (b)] 67)).alloc (.cells #[.int .i64 S, .int .i64 D, .int .i64 P] 32)) (.cells #[.int .i64 0, .int .i64 0, .int .i64 0] 67)
  have B0 := below_alloc (Below.refl _ w) (.cells #[.int .i64 (4), .int .i64 (m), .int .i64 (b)] 67)
  have B1 := below_alloc (Below.refl _ (w.alloc (.cells #[.int .i64 (4), .int .i64 (m), .int .i64 (b)] 67))) (.cells #[.int .i64 S, .int .i64 D, .int .i64 P] 32)
  have B2 := below_alloc (Below.refl _ ((w.alloc (.cells #[.int .i64 (4), .int .i64 (m), .int .i64 (b)] 67)).alloc (.cells #[.int .i64 S, .int .i64 D, .int .i64 P] 32))) (.cells #[.int .i64 0, .int .i64 0, .int .i64 0] 67)
  have M0 := Lib.hid ((B2.block _ (by simp; omega)).trans ((B1.block _ (by simp)).trans N0))
  have M1 := Lib.hid ((B2.block _ (by simp)).trans N1)
  have M2 := Lib.hid N2
  have HB := Lib.hid (below_next (below_next B0 B1) B2)
  rw [World.size_alloc] at M1
  rw [World.size_alloc, World.size_alloc] at M2
  clear N0 N1 N2 B0 B1 B2
  go_enter Tryd.func34, Tryd.ntmps34
  go_upto_region 1 with fail
  generalize ((w.alloc (.cells #[.int .i64 (4), .int .i64 (m), .int .i64 (b)] 67)).alloc (.cells #[.int .i64 S, .int .i64 D, .int .i64 P] 32)).alloc (.cells #[.int .i64 0, .int .i64 0, .int .i64 0] 67) = w0 at *
  have a0 := cell_of_block (o := 0) M0.out rfl
  have a1 := cell_of_block (o := 1) M0.out rfl
  have a2 := cell_of_block (o := 2) M0.out rfl
  have r0 := cell_of_block (o := 0) M1.out rfl
  have r1 := cell_of_block (o := 1) M1.out rfl
  have r2 := cell_of_block (o := 2) M1.out rfl
  have c0 := cell_of_block (o := 0) M2.out rfl
  have c1 := cell_of_block (o := 1) M2.out rfl
  have c2 := cell_of_block (o := 2) M2.out rfl
  have g0 := free_of_block 0 M0.out
  have g1 := free_of_block 1 M0.out
  have g2 := free_of_block 2 M0.out
  have f0 := free_of_block 0 M2.out
  have f1 := free_of_block 1 M2.out
  have f2 := free_of_block 2 M2.out
  go_wp2_with fail
  refine (K.out _).mono ?_
  rintro e w1 ⟨rfl, hb⟩
  clear a0 a1 a2 r0 r1 r2 c0 c1 c2 g0 g1 g2 f0 f1 f2
  replace M0 := Lib.hid ((hb.block _ (Array.getElem?_eq_some_iff.1 M0.out).1).trans M0.out)
  replace M1 := Lib.hid ((hb.block _ (Array.getElem?_eq_some_iff.1 M1.out).1).trans M1.out)
  replace M2 := Lib.hid ((hb.block _ (Array.getElem?_eq_some_iff.1 M2.out).1).trans M2.out)
  replace HB := Lib.hid (below_next HB.out hb)
  clear hb K
  have a0 := cell_of_block (o := 0) M0.out rfl
  have a1 := cell_of_block (o := 1) M0.out rfl
  have a2 := cell_of_block (o := 2) M0.out rfl
  have r0 := cell_of_block (o := 0) M1.out rfl
  have r1 := cell_of_block (o := 1) M1.out rfl
  have r2 := cell_of_block (o := 2) M1.out rfl
  have c0 := cell_of_block (o := 0) M2.out rfl
  have c1 := cell_of_block (o := 1) M2.out rfl
  have c2 := cell_of_block (o := 2) M2.out rfl
  have g0 := free_of_block 0 M0.out
  have g1 := free_of_block 1 M0.out
  have g2 := free_of_block 2 M0.out
  have f0 := free_of_block 0 M2.out
  have f1 := free_of_block 1 M2.out
  have f2 := free_of_block 2 M2.out
  go_upto_region 9 with fail
  clear a0 a1 a2 r0 r1 r2 c0 c1 c2 g0 g1 g2 f0 f1 f2
  have hw' := ((wrote_refl M0.out).set 2 (.int .i64 (b + 1)))
  replace M0 := Lib.hid (show (w1.setCell ⟨w.heap.size, 2, none⟩ (.int .i64 (b + 1))).heap[w.heap.size]? = some (.cells #[.int .i64 (4), .int .i64 (m), .int .i64 (b + 1)] 67 (0, 0)) from hw'.there)
  replace M1 := Lib.hid ((hw'.rest _ (by omega)).trans M1.out)
  replace M2 := Lib.hid ((hw'.rest _ (by omega)).trans M2.out)
  replace HB := Lib.hid (hw'.below HB.out (Nat.le_refl _))
  clear hw'
  generalize (w1.setCell ⟨w.heap.size, 2, none⟩ (.int .i64 (b + 1))) = w2 at *
  have a0 := cell_of_block (o := 0) M0.out rfl
  have a1 := cell_of_block (o := 1) M0.out rfl
  have a2 := cell_of_block (o := 2) M0.out rfl
  have r0 := cell_of_block (o := 0) M1.out rfl
  have r1 := cell_of_block (o := 1) M1.out rfl
  have r2 := cell_of_block (o := 2) M1.out rfl
  have c0 := cell_of_block (o := 0) M2.out rfl
  have c1 := cell_of_block (o := 1) M2.out rfl
  have c2 := cell_of_block (o := 2) M2.out rfl
  have g0 := free_of_block 0 M0.out
  have g1 := free_of_block 1 M0.out
  have g2 := free_of_block 2 M0.out
  have f0 := free_of_block 0 M2.out
  have f1 := free_of_block 1 M2.out
  have f2 := free_of_block 2 M2.out
  go_wp2_with fail
  exact bodyPost_ret (v := .agg #[.int .i64 (4), .int .i64 (m), .int .i64 (b + 1)]) (by simp [results, Tryd.results34, go_sem, *]) rfl ⟨rfl, (by repeat (first | exact Below.refl _ _ | assumption | refine below_drewN ?_ _ | refine Below.drew ?_ | refine below_alloc ?_ _ | refine Below.alloc ?_ (by first | omega | (simp; done) | (simp; omega)) _ | refine Below.setCell ?_ (Below.size (by assumption)) _ | refine Below.setCell ?_ (by first | omega | (simp; done) | (simp; omega)) _ | (refine Below.trans ?_ (Below.mono (by assumption) (by first | omega | (simp; done) | (simp; omega)))) | refine below_next ?_ (by assumption)))⟩
set_option maxRecDepth 100000 in
set_option maxHeartbeats 8000000 in
theorem rnx_0_2 (m b S D P : Int) (w : World) (h1 : rightR S D P = true) (h2 : rightN (2) (m) (b) S D P = true) :
    Calls Tryd.prog 34 #[.agg #[.int .i64 2, .int .i64 m, .int .i64 b], .agg #[.int .i64 S, .int .i64 D, .int .i64 P], .int .i64 0] w fun e w' => e = .returned (.agg #[.int .i64 (2), .int .i64 (m), .int .i64 (b)]) ∧ Below w.heap.size w w' := by
  have K := Lib.hid (fun W => rn8_any (2) (m) (b) S D P W)
  rw [h1, h2] at K
  clear h1 h2
  have N0 := World.alloc_heap_new w (.cells #[.int .i64 (2), .int .i64 (m), .int .i64 (b)] 67)
  have N1 := World.alloc_heap_new (w.alloc (.cells #[.int .i64 (2), .int .i64 (m), .int .i64 (b)] 67)) (.cells #[.int .i64 S, .int .i64 D, .int .i64 P] 32)
  have N2 := World.alloc_heap_new ((w.alloc (.cells #[.int .i64 (2), .int .i64 (m), .int .i64 (b)] 67)).alloc (.cells #[.int .i64 S, .int .i64 D, .int .i64 P] 32)) (.cells #[.int .i64 0, .int .i64 0, .int .i64 0] 67)
  have B0 := below_alloc (Below.refl _ w) (.cells #[.int .i64 (2), .int .i64 (m), .int .i64 (b)] 67)
  have B1 := below_alloc (Below.refl _ (w.alloc (.cells #[.int .i64 (2), .int .i64 (m), .int .i64 (b)] 67))) (.cells #[.int .i64 S, .int .i64 D, .int .i64 P] 32)
  have B2 := below_alloc (Below.refl _ ((w.alloc (.cells #[.int .i64 (2), .int .i64 (m), .int .i64 (b)] 67)).alloc (.cells #[.int .i64 S, .int .i64 D, .int .i64 P] 32))) (.cells #[.int .i64 0, .int .i64 0, .int .i64 0] 67)
  have M0 := Lib.hid ((B2.block _ (by simp; omega)).trans ((B1.block _ (by simp)).trans N0))
  have M1 := Lib.hid ((B2.block _ (by simp)).trans N1)
  have M2 := Lib.hid N2
  have HB := Lib.hid (below_next (below_next B0 B1) B2)
  rw [World.size_alloc] at M1
  rw [World.size_alloc, World.size_alloc] at M2
  clear N0 N1 N2 B0 B1 B2
  go_enter Tryd.func34, Tryd.ntmps34
  go_upto_region 1 with fail
  generalize ((w.alloc (.cells #[.int .i64 (2), .int .i64 (m), .int .i64 (b)] 67)).alloc (.cells #[.int .i64 S, .int .i64 D, .int .i64 P] 32)).alloc (.cells #[.int .i64 0, .int .i64 0, .int .i64 0] 67) = w0 at *
  have a0 := cell_of_block (o := 0) M0.out rfl
  have a1 := cell_of_block (o := 1) M0.out rfl
  have a2 := cell_of_block (o := 2) M0.out rfl
  have r0 := cell_of_block (o := 0) M1.out rfl
  have r1 := cell_of_block (o := 1) M1.out rfl
  have r2 := cell_of_block (o := 2) M1.out rfl
  have c0 := cell_of_block (o := 0) M2.out rfl
  have c1 := cell_of_block (o := 1) M2.out rfl
  have c2 := cell_of_block (o := 2) M2.out rfl
  have g0 := free_of_block 0 M0.out
  have g1 := free_of_block 1 M0.out
  have g2 := free_of_block 2 M0.out
  have f0 := free_of_block 0 M2.out
  have f1 := free_of_block 1 M2.out
  have f2 := free_of_block 2 M2.out
  go_wp2_with fail
  refine (K.out _).mono ?_
  rintro e w1 ⟨rfl, hb⟩
  clear a0 a1 a2 r0 r1 r2 c0 c1 c2 g0 g1 g2 f0 f1 f2
  replace M0 := Lib.hid ((hb.block _ (Array.getElem?_eq_some_iff.1 M0.out).1).trans M0.out)
  replace M1 := Lib.hid ((hb.block _ (Array.getElem?_eq_some_iff.1 M1.out).1).trans M1.out)
  replace M2 := Lib.hid ((hb.block _ (Array.getElem?_eq_some_iff.1 M2.out).1).trans M2.out)
  replace HB := Lib.hid (below_next HB.out hb)
  clear hb K
  have a0 := cell_of_block (o := 0) M0.out rfl
  have a1 := cell_of_block (o := 1) M0.out rfl
  have a2 := cell_of_block (o := 2) M0.out rfl
  have r0 := cell_of_block (o := 0) M1.out rfl
  have r1 := cell_of_block (o := 1) M1.out rfl
  have r2 := cell_of_block (o := 2) M1.out rfl
  have c0 := cell_of_block (o := 0) M2.out rfl
  have c1 := cell_of_block (o := 1) M2.out rfl
  have c2 := cell_of_block (o := 2) M2.out rfl
  have g0 := free_of_block 0 M0.out
  have g1 := free_of_block 1 M0.out
  have g2 := free_of_block 2 M0.out
  have f0 := free_of_block 0 M2.out
  have f1 := free_of_block 1 M2.out
  have f2 := free_of_block 2 M2.out
  go_wp2_with fail
  exact bodyPost_ret (v := .agg #[.int .i64 (2), .int .i64 (m), .int .i64 (b)]) (by simp [results, Tryd.results34, go_sem, *]) rfl ⟨rfl, (by repeat (first | exact Below.refl _ _ | assumption | refine below_drewN ?_ _ | refine Below.drew ?_ | refine below_alloc ?_ _ | refine Below.alloc ?_ (by first | omega | (simp; done) | (simp; omega)) _ | refine Below.setCell ?_ (Below.size (by assumption)) _ | refine Below.setCell ?_ (by first | omega | (simp; done) | (simp; omega)) _ | (refine Below.trans ?_ (Below.mono (by assumption) (by first | omega | (simp; done) | (simp; omega)))) | refine below_next ?_ (by assumption)))⟩
set_option maxRecDepth 100000 in
set_option maxHeartbeats 8000000 in
theorem rnx_0_3 (m b S D P : Int) (w : World) (h1 : rightR S D P = true) (h2 : rightN (3) (m) (b) S D P = true) :
    Calls Tryd.prog 34 #[.agg #[.int .i64 3, .int .i64 m, .int .i64 b], .agg #[.int .i64 S, .int .i64 D, .int .i64 P], .int .i64 0] w fun e w' => e = .returned (.agg #[.int .i64 (3), .int .i64 (m), .int .i64 (b)]) ∧ Below w.heap.size w w' := by
  have K := Lib.hid (fun W => rn8_any (3) (m) (b) S D P W)
  rw [h1, h2] at K
  clear h1 h2
  have N0 := World.alloc_heap_new w (.cells #[.int .i64 (3), .int .i64 (m), .int .i64 (b)] 67)
  have N1 := World.alloc_heap_new (w.alloc (.cells #[.int .i64 (3), .int .i64 (m), .int .i64 (b)] 67)) (.cells #[.int .i64 S, .int .i64 D, .int .i64 P] 32)
  have N2 := World.alloc_heap_new ((w.alloc (.cells #[.int .i64 (3), .int .i64 (m), .int .i64 (b)] 67)).alloc (.cells #[.int .i64 S, .int .i64 D, .int .i64 P] 32)) (.cells #[.int .i64 0, .int .i64 0, .int .i64 0] 67)
  have B0 := below_alloc (Below.refl _ w) (.cells #[.int .i64 (3), .int .i64 (m), .int .i64 (b)] 67)
  have B1 := below_alloc (Below.refl _ (w.alloc (.cells #[.int .i64 (3), .int .i64 (m), .int .i64 (b)] 67))) (.cells #[.int .i64 S, .int .i64 D, .int .i64 P] 32)
  have B2 := below_alloc (Below.refl _ ((w.alloc (.cells #[.int .i64 (3), .int .i64 (m), .int .i64 (b)] 67)).alloc (.cells #[.int .i64 S, .int .i64 D, .int .i64 P] 32))) (.cells #[.int .i64 0, .int .i64 0, .int .i64 0] 67)
  have M0 := Lib.hid ((B2.block _ (by simp; omega)).trans ((B1.block _ (by simp)).trans N0))
  have M1 := Lib.hid ((B2.block _ (by simp)).trans N1)
  have M2 := Lib.hid N2
  have HB := Lib.hid (below_next (below_next B0 B1) B2)
  rw [World.size_alloc] at M1
  rw [World.size_alloc, World.size_alloc] at M2
  clear N0 N1 N2 B0 B1 B2
  go_enter Tryd.func34, Tryd.ntmps34
  go_upto_region 1 with fail
  generalize ((w.alloc (.cells #[.int .i64 (3), .int .i64 (m), .int .i64 (b)] 67)).alloc (.cells #[.int .i64 S, .int .i64 D, .int .i64 P] 32)).alloc (.cells #[.int .i64 0, .int .i64 0, .int .i64 0] 67) = w0 at *
  have a0 := cell_of_block (o := 0) M0.out rfl
  have a1 := cell_of_block (o := 1) M0.out rfl
  have a2 := cell_of_block (o := 2) M0.out rfl
  have r0 := cell_of_block (o := 0) M1.out rfl
  have r1 := cell_of_block (o := 1) M1.out rfl
  have r2 := cell_of_block (o := 2) M1.out rfl
  have c0 := cell_of_block (o := 0) M2.out rfl
  have c1 := cell_of_block (o := 1) M2.out rfl
  have c2 := cell_of_block (o := 2) M2.out rfl
  have g0 := free_of_block 0 M0.out
  have g1 := free_of_block 1 M0.out
  have g2 := free_of_block 2 M0.out
  have f0 := free_of_block 0 M2.out
  have f1 := free_of_block 1 M2.out
  have f2 := free_of_block 2 M2.out
  go_wp2_with fail
  refine (K.out _).mono ?_
  rintro e w1 ⟨rfl, hb⟩
  clear a0 a1 a2 r0 r1 r2 c0 c1 c2 g0 g1 g2 f0 f1 f2
  replace M0 := Lib.hid ((hb.block _ (Array.getElem?_eq_some_iff.1 M0.out).1).trans M0.out)
  replace M1 := Lib.hid ((hb.block _ (Array.getElem?_eq_some_iff.1 M1.out).1).trans M1.out)
  replace M2 := Lib.hid ((hb.block _ (Array.getElem?_eq_some_iff.1 M2.out).1).trans M2.out)
  replace HB := Lib.hid (below_next HB.out hb)
  clear hb K
  have a0 := cell_of_block (o := 0) M0.out rfl
  have a1 := cell_of_block (o := 1) M0.out rfl
  have a2 := cell_of_block (o := 2) M0.out rfl
  have r0 := cell_of_block (o := 0) M1.out rfl
  have r1 := cell_of_block (o := 1) M1.out rfl
  have r2 := cell_of_block (o := 2) M1.out rfl
  have c0 := cell_of_block (o := 0) M2.out rfl
  have c1 := cell_of_block (o := 1) M2.out rfl
  have c2 := cell_of_block (o := 2) M2.out rfl
  have g0 := free_of_block 0 M0.out
  have g1 := free_of_block 1 M0.out
  have g2 := free_of_block 2 M0.out
  have f0 := free_of_block 0 M2.out
  have f1 := free_of_block 1 M2.out
  have f2 := free_of_block 2 M2.out
  go_wp2_with fail
  exact bodyPost_ret (v := .agg #[.int .i64 (3), .int .i64 (m), .int .i64 (b)]) (by simp [results, Tryd.results34, go_sem, *]) rfl ⟨rfl, (by repeat (first | exact Below.refl _ _ | assumption | refine below_drewN ?_ _ | refine Below.drew ?_ | refine below_alloc ?_ _ | refine Below.alloc ?_ (by first | omega | (simp; done) | (simp; omega)) _ | refine Below.setCell ?_ (Below.size (by assumption)) _ | refine Below.setCell ?_ (by first | omega | (simp; done) | (simp; omega)) _ | (refine Below.trans ?_ (Below.mono (by assumption) (by first | omega | (simp; done) | (simp; omega)))) | refine below_next ?_ (by assumption)))⟩
set_option maxRecDepth 100000 in
set_option maxHeartbeats 8000000 in
theorem rnx_1_0_yes (m b S D P : Int) (w : World) (h1 : rightR S D P = true) (h2 : rightN (0) (m) (b) S D P = true) (hx : m + 1 = S) :
    Calls Tryd.prog 34 #[.agg #[.int .i64 0, .int .i64 m, .int .i64 b], .agg #[.int .i64 S, .int .i64 D, .int .i64 P], .int .i64 1] w fun e w' => e = .returned (.agg #[.int .i64 (1), .int .i64 (m + 1), .int .i64 (0)]) ∧ Below w.heap.size w w' := by
  have hr := h1
  have hn := h2
  unfold rightR at hr
  unfold rightN at hn
  rw [decide_eq_true_eq] at hr hn
  have hw : IntKind.i64.wrap (m + 1) = m + 1 := by rw [IntKind.wrap_i64]; omega
  have dS : decide (m + 1 ≥ S) = true := decide_eq_true (by omega)
  have dS' : decide (S ≤ m + 1) = true := decide_eq_true (by omega)
  have dD : decide (m + 1 ≥ D) = false := decide_eq_false (by omega)
  have dD' : decide (D ≤ m + 1) = false := decide_eq_false (by omega)
  clear hr hn hx
  have K := Lib.hid (fun W => rn8_any (0) (m) (b) S D P W)
  rw [h1, h2] at K
  clear h1 h2
  have N0 := World.alloc_heap_new w (.cells #[.int .i64 (0), .int .i64 (m), .int .i64 (b)] 67)
  have N1 := World.alloc_heap_new (w.alloc (.cells #[.int .i64 (0), .int .i64 (m), .int .i64 (b)] 67)) (.cells #[.int .i64 S, .int .i64 D, .int .i64 P] 32)
  have N2 := World.alloc_heap_new ((w.alloc (.cells #[.int .i64 (0), .int .i64 (m), .int .i64 (b)] 67)).alloc (.cells #[.int .i64 S, .int .i64 D, .int .i64 P] 32)) (.cells #[.int .i64 0, .int .i64 0, .int .i64 0] 67)
  have B0 := below_alloc (Below.refl _ w) (.cells #[.int .i64 (0), .int .i64 (m), .int .i64 (b)] 67)
  have B1 := below_alloc (Below.refl _ (w.alloc (.cells #[.int .i64 (0), .int .i64 (m), .int .i64 (b)] 67))) (.cells #[.int .i64 S, .int .i64 D, .int .i64 P] 32)
  have B2 := below_alloc (Below.refl _ ((w.alloc (.cells #[.int .i64 (0), .int .i64 (m), .int .i64 (b)] 67)).alloc (.cells #[.int .i64 S, .int .i64 D, .int .i64 P] 32))) (.cells #[.int .i64 0, .int .i64 0, .int .i64 0] 67)
  have M0 := Lib.hid ((B2.block _ (by simp; omega)).trans ((B1.block _ (by simp)).trans N0))
  have M1 := Lib.hid ((B2.block _ (by simp)).trans N1)
  have M2 := Lib.hid N2
  have HB := Lib.hid (below_next (below_next B0 B1) B2)
  rw [World.size_alloc] at M1
  rw [World.size_alloc, World.size_alloc] at M2
  clear N0 N1 N2 B0 B1 B2
  go_enter Tryd.func34, Tryd.ntmps34
  go_upto_region 1 with fail
  generalize ((w.alloc (.cells #[.int .i64 (0), .int .i64 (m), .int .i64 (b)] 67)).alloc (.cells #[.int .i64 S, .int .i64 D, .int .i64 P] 32)).alloc (.cells #[.int .i64 0, .int .i64 0, .int .i64 0] 67) = w0 at *
  have a0 := cell_of_block (o := 0) M0.out rfl
  have a1 := cell_of_block (o := 1) M0.out rfl
  have a2 := cell_of_block (o := 2) M0.out rfl
  have r0 := cell_of_block (o := 0) M1.out rfl
  have r1 := cell_of_block (o := 1) M1.out rfl
  have r2 := cell_of_block (o := 2) M1.out rfl
  have c0 := cell_of_block (o := 0) M2.out rfl
  have c1 := cell_of_block (o := 1) M2.out rfl
  have c2 := cell_of_block (o := 2) M2.out rfl
  have g0 := free_of_block 0 M0.out
  have g1 := free_of_block 1 M0.out
  have g2 := free_of_block 2 M0.out
  have f0 := free_of_block 0 M2.out
  have f1 := free_of_block 1 M2.out
  have f2 := free_of_block 2 M2.out
  go_wp2_with fail
  refine (K.out _).mono ?_
  rintro e w1 ⟨rfl, hb⟩
  clear a0 a1 a2 r0 r1 r2 c0 c1 c2 g0 g1 g2 f0 f1 f2
  replace M0 := Lib.hid ((hb.block _ (Array.getElem?_eq_some_iff.1 M0.out).1).trans M0.out)
  replace M1 := Lib.hid ((hb.block _ (Array.getElem?_eq_some_iff.1 M1.out).1).trans M1.out)
  replace M2 := Lib.hid ((hb.block _ (Array.getElem?_eq_some_iff.1 M2.out).1).trans M2.out)
  replace HB := Lib.hid (below_next HB.out hb)
  clear hb K
  have a0 := cell_of_block (o := 0) M0.out rfl
  have a1 := cell_of_block (o := 1) M0.out rfl
  have a2 := cell_of_block (o := 2) M0.out rfl
  have r0 := cell_of_block (o := 0) M1.out rfl
  have r1 := cell_of_block (o := 1) M1.out rfl
  have r2 := cell_of_block (o := 2) M1.out rfl
  have c0 := cell_of_block (o := 0) M2.out rfl
  have c1 := cell_of_block (o := 1) M2.out rfl
  have c2 := cell_of_block (o := 2) M2.out rfl
  have g0 := free_of_block 0 M0.out
  have g1 := free_of_block 1 M0.out
  have g2 := free_of_block 2 M0.out
  have f0 := free_of_block 0 M2.out
  have f1 := free_of_block 1 M2.out
  have f2 := free_of_block 2 M2.out
  go_upto_region 16 with fail
  clear a0 a1 a2 r0 r1 r2 c0 c1 c2 g0 g1 g2 f0 f1 f2
  have hw' := ((wrote_refl M0.out).set 1 (.int .i64 (m + 1)))
  replace M0 := Lib.hid (show (w1.setCell ⟨w.heap.size, 1, none⟩ (.int .i64 (m + 1))).heap[w.heap.size]? = some (.cells #[.int .i64 (0), .int .i64 (m + 1), .int .i64 (b)] 67 (0, 0)) from hw'.there)
  replace M1 := Lib.hid ((hw'.rest _ (by omega)).trans M1.out)
  replace M2 := Lib.hid ((hw'.rest _ (by omega)).trans M2.out)
  replace HB := Lib.hid (hw'.below HB.out (Nat.le_refl _))
  clear hw'
  generalize (w1.setCell ⟨w.heap.size, 1, none⟩ (.int .i64 (m + 1))) = w2 at *
  have a0 := cell_of_block (o := 0) M0.out rfl
  have a1 := cell_of_block (o := 1) M0.out rfl
  have a2 := cell_of_block (o := 2) M0.out rfl
  have r0 := cell_of_block (o := 0) M1.out rfl
  have r1 := cell_of_block (o := 1) M1.out rfl
  have r2 := cell_of_block (o := 2) M1.out rfl
  have c0 := cell_of_block (o := 0) M2.out rfl
  have c1 := cell_of_block (o := 1) M2.out rfl
  have c2 := cell_of_block (o := 2) M2.out rfl
  have g0 := free_of_block 0 M0.out
  have g1 := free_of_block 1 M0.out
  have g2 := free_of_block 2 M0.out
  have f0 := free_of_block 0 M2.out
  have f1 := free_of_block 1 M2.out
  have f2 := free_of_block 2 M2.out
  go_upto_region 17 with fail
  clear a0 a1 a2 r0 r1 r2 c0 c1 c2 g0 g1 g2 f0 f1 f2
  have hw' := ((wrote_refl M0.out).set 2 (.int .i64 (0)))
  replace M0 := Lib.hid (show (w2.setCell ⟨w.heap.size, 2, none⟩ (.int .i64 (0))).heap[w.heap.size]? = some (.cells #[.int .i64 (0), .int .i64 (m + 1), .int .i64 (0)] 67 (0, 0)) from hw'.there)
  replace M1 := Lib.hid ((hw'.rest _ (by omega)).trans M1.out)
  replace M2 := Lib.hid ((hw'.rest _ (by omega)).trans M2.out)
  replace HB := Lib.hid (hw'.below HB.out (Nat.le_refl _))
  clear hw'
  generalize (w2.setCell ⟨w.heap.size, 2, none⟩ (.int .i64 (0))) = w3 at *
  have a0 := cell_of_block (o := 0) M0.out rfl
  have a1 := cell_of_block (o := 1) M0.out rfl
  have a2 := cell_of_block (o := 2) M0.out rfl
  have r0 := cell_of_block (o := 0) M1.out rfl
  have r1 := cell_of_block (o := 1) M1.out rfl
  have r2 := cell_of_block (o := 2) M1.out rfl
  have c0 := cell_of_block (o := 0) M2.out rfl
  have c1 := cell_of_block (o := 1) M2.out rfl
  have c2 := cell_of_block (o := 2) M2.out rfl
  have g0 := free_of_block 0 M0.out
  have g1 := free_of_block 1 M0.out
  have g2 := free_of_block 2 M0.out
  have f0 := free_of_block 0 M2.out
  have f1 := free_of_block 1 M2.out
  have f2 := free_of_block 2 M2.out
  go_upto_region 18 with fail
  clear a0 a1 a2 r0 r1 r2 c0 c1 c2 g0 g1 g2 f0 f1 f2
  have hw' := ((wrote_refl M0.out).set 0 (.int .i64 (0)))
  replace M0 := Lib.hid (show (w3.setCell ⟨w.heap.size, 0, none⟩ (.int .i64 (0))).heap[w.heap.size]? = some (.cells #[.int .i64 (0), .int .i64 (m + 1), .int .i64 (0)] 67 (0, 0)) from hw'.there)
  replace M1 := Lib.hid ((hw'.rest _ (by omega)).trans M1.out)
  replace M2 := Lib.hid ((hw'.rest _ (by omega)).trans M2.out)
  replace HB := Lib.hid (hw'.below HB.out (Nat.le_refl _))
  clear hw'
  generalize (w3.setCell ⟨w.heap.size, 0, none⟩ (.int .i64 (0))) = w4 at *
  have a0 := cell_of_block (o := 0) M0.out rfl
  have a1 := cell_of_block (o := 1) M0.out rfl
  have a2 := cell_of_block (o := 2) M0.out rfl
  have r0 := cell_of_block (o := 0) M1.out rfl
  have r1 := cell_of_block (o := 1) M1.out rfl
  have r2 := cell_of_block (o := 2) M1.out rfl
  have c0 := cell_of_block (o := 0) M2.out rfl
  have c1 := cell_of_block (o := 1) M2.out rfl
  have c2 := cell_of_block (o := 2) M2.out rfl
  have g0 := free_of_block 0 M0.out
  have g1 := free_of_block 1 M0.out
  have g2 := free_of_block 2 M0.out
  have f0 := free_of_block 0 M2.out
  have f1 := free_of_block 1 M2.out
  have f2 := free_of_block 2 M2.out
  go_upto_region 20 with fail
  clear a0 a1 a2 r0 r1 r2 c0 c1 c2 g0 g1 g2 f0 f1 f2
  have hw' := ((wrote_refl M0.out).set 0 (.int .i64 (1)))
  replace M0 := Lib.hid (show (w4.setCell ⟨w.heap.size, 0, none⟩ (.int .i64 (1))).heap[w.heap.size]? = some (.cells #[.int .i64 (1), .int .i64 (m + 1), .int .i64 (0)] 67 (0, 0)) from hw'.there)
  replace M1 := Lib.hid ((hw'.rest _ (by omega)).trans M1.out)
  replace M2 := Lib.hid ((hw'.rest _ (by omega)).trans M2.out)
  replace HB := Lib.hid (hw'.below HB.out (Nat.le_refl _))
  clear hw'
  generalize (w4.setCell ⟨w.heap.size, 0, none⟩ (.int .i64 (1))) = w5 at *
  have a0 := cell_of_block (o := 0) M0.out rfl
  have a1 := cell_of_block (o := 1) M0.out rfl
  have a2 := cell_of_block (o := 2) M0.out rfl
  have r0 := cell_of_block (o := 0) M1.out rfl
  have r1 := cell_of_block (o := 1) M1.out rfl
  have r2 := cell_of_block (o := 2) M1.out rfl
  have c0 := cell_of_block (o := 0) M2.out rfl
  have c1 := cell_of_block (o := 1) M2.out rfl
  have c2 := cell_of_block (o := 2) M2.out rfl
  have g0 := free_of_block 0 M0.out
  have g1 := free_of_block 1 M0.out
  have g2 := free_of_block 2 M0.out
  have f0 := free_of_block 0 M2.out
  have f1 := free_of_block 1 M2.out
  have f2 := free_of_block 2 M2.out
  go_wp2_with fail
  exact bodyPost_ret (v := .agg #[.int .i64 (1), .int .i64 (m + 1), .int .i64 (0)]) (by simp [results, Tryd.results34, go_sem, *]) rfl ⟨rfl, (by repeat (first | exact Below.refl _ _ | assumption | refine below_drewN ?_ _ | refine Below.drew ?_ | refine below_alloc ?_ _ | refine Below.alloc ?_ (by first | omega | (simp; done) | (simp; omega)) _ | refine Below.setCell ?_ (Below.size (by assumption)) _ | refine Below.setCell ?_ (by first | omega | (simp; done) | (simp; omega)) _ | (refine Below.trans ?_ (Below.mono (by assumption) (by first | omega | (simp; done) | (simp; omega)))) | refine below_next ?_ (by assumption)))⟩
set_option maxRecDepth 100000 in
set_option maxHeartbeats 8000000 in
theorem rnx_1_0_no (m b S D P : Int) (w : World) (h1 : rightR S D P = true) (h2 : rightN (0) (m) (b) S D P = true) (hx : ¬ m + 1 = S) :
    Calls Tryd.prog 34 #[.agg #[.int .i64 0, .int .i64 m, .int .i64 b], .agg #[.int .i64 S, .int .i64 D, .int .i64 P], .int .i64 1] w fun e w' => e = .returned (.agg #[.int .i64 (0), .int .i64 (m + 1), .int .i64 (0)]) ∧ Below w.heap.size w w' := by
  have hr := h1
  have hn := h2
  unfold rightR at hr
  unfold rightN at hn
  rw [decide_eq_true_eq] at hr hn
  have hw : IntKind.i64.wrap (m + 1) = m + 1 := by rw [IntKind.wrap_i64]; omega
  have dS : decide (m + 1 ≥ S) = false := decide_eq_false (by omega)
  have dS' : decide (S ≤ m + 1) = false := decide_eq_false (by omega)
  have dD : decide (m + 1 ≥ D) = false := decide_eq_false (by omega)
  have dD' : decide (D ≤ m + 1) = false := decide_eq_false (by omega)
  clear hr hn hx
  have K := Lib.hid (fun W => rn8_any (0) (m) (b) S D P W)
  rw [h1, h2] at K
  clear h1 h2
  have N0 := World.alloc_heap_new w (.cells #[.int .i64 (0), .int .i64 (m), .int .i64 (b)] 67)
  have N1 := World.alloc_heap_new (w.alloc (.cells #[.int .i64 (0), .int .i64 (m), .int .i64 (b)] 67)) (.cells #[.int .i64 S, .int .i64 D, .int .i64 P] 32)
  have N2 := World.alloc_heap_new ((w.alloc (.cells #[.int .i64 (0), .int .i64 (m), .int .i64 (b)] 67)).alloc (.cells #[.int .i64 S, .int .i64 D, .int .i64 P] 32)) (.cells #[.int .i64 0, .int .i64 0, .int .i64 0] 67)
  have B0 := below_alloc (Below.refl _ w) (.cells #[.int .i64 (0), .int .i64 (m), .int .i64 (b)] 67)
  have B1 := below_alloc (Below.refl _ (w.alloc (.cells #[.int .i64 (0), .int .i64 (m), .int .i64 (b)] 67))) (.cells #[.int .i64 S, .int .i64 D, .int .i64 P] 32)
  have B2 := below_alloc (Below.refl _ ((w.alloc (.cells #[.int .i64 (0), .int .i64 (m), .int .i64 (b)] 67)).alloc (.cells #[.int .i64 S, .int .i64 D, .int .i64 P] 32))) (.cells #[.int .i64 0, .int .i64 0, .int .i64 0] 67)
  have M0 := Lib.hid ((B2.block _ (by simp; omega)).trans ((B1.block _ (by simp)).trans N0))
  have M1 := Lib.hid ((B2.block _ (by simp)).trans N1)
  have M2 := Lib.hid N2
  have HB := Lib.hid (below_next (below_next B0 B1) B2)
  rw [World.size_alloc] at M1
  rw [World.size_alloc, World.size_alloc] at M2
  clear N0 N1 N2 B0 B1 B2
  go_enter Tryd.func34, Tryd.ntmps34
  go_upto_region 1 with fail
  generalize ((w.alloc (.cells #[.int .i64 (0), .int .i64 (m), .int .i64 (b)] 67)).alloc (.cells #[.int .i64 S, .int .i64 D, .int .i64 P] 32)).alloc (.cells #[.int .i64 0, .int .i64 0, .int .i64 0] 67) = w0 at *
  have a0 := cell_of_block (o := 0) M0.out rfl
  have a1 := cell_of_block (o := 1) M0.out rfl
  have a2 := cell_of_block (o := 2) M0.out rfl
  have r0 := cell_of_block (o := 0) M1.out rfl
  have r1 := cell_of_block (o := 1) M1.out rfl
  have r2 := cell_of_block (o := 2) M1.out rfl
  have c0 := cell_of_block (o := 0) M2.out rfl
  have c1 := cell_of_block (o := 1) M2.out rfl
  have c2 := cell_of_block (o := 2) M2.out rfl
  have g0 := free_of_block 0 M0.out
  have g1 := free_of_block 1 M0.out
  have g2 := free_of_block 2 M0.out
  have f0 := free_of_block 0 M2.out
  have f1 := free_of_block 1 M2.out
  have f2 := free_of_block 2 M2.out
  go_wp2_with fail
  refine (K.out _).mono ?_
  rintro e w1 ⟨rfl, hb⟩
  clear a0 a1 a2 r0 r1 r2 c0 c1 c2 g0 g1 g2 f0 f1 f2
  replace M0 := Lib.hid ((hb.block _ (Array.getElem?_eq_some_iff.1 M0.out).1).trans M0.out)
  replace M1 := Lib.hid ((hb.block _ (Array.getElem?_eq_some_iff.1 M1.out).1).trans M1.out)
  replace M2 := Lib.hid ((hb.block _ (Array.getElem?_eq_some_iff.1 M2.out).1).trans M2.out)
  replace HB := Lib.hid (below_next HB.out hb)
  clear hb K
  have a0 := cell_of_block (o := 0) M0.out rfl
  have a1 := cell_of_block (o := 1) M0.out rfl
  have a2 := cell_of_block (o := 2) M0.out rfl
  have r0 := cell_of_block (o := 0) M1.out rfl
  have r1 := cell_of_block (o := 1) M1.out rfl
  have r2 := cell_of_block (o := 2) M1.out rfl
  have c0 := cell_of_block (o := 0) M2.out rfl
  have c1 := cell_of_block (o := 1) M2.out rfl
  have c2 := cell_of_block (o := 2) M2.out rfl
  have g0 := free_of_block 0 M0.out
  have g1 := free_of_block 1 M0.out
  have g2 := free_of_block 2 M0.out
  have f0 := free_of_block 0 M2.out
  have f1 := free_of_block 1 M2.out
  have f2 := free_of_block 2 M2.out
  go_upto_region 16 with fail
  clear a0 a1 a2 r0 r1 r2 c0 c1 c2 g0 g1 g2 f0 f1 f2
  have hw' := ((wrote_refl M0.out).set 1 (.int .i64 (m + 1)))
  replace M0 := Lib.hid (show (w1.setCell ⟨w.heap.size, 1, none⟩ (.int .i64 (m + 1))).heap[w.heap.size]? = some (.cells #[.int .i64 (0), .int .i64 (m + 1), .int .i64 (b)] 67 (0, 0)) from hw'.there)
  replace M1 := Lib.hid ((hw'.rest _ (by omega)).trans M1.out)
  replace M2 := Lib.hid ((hw'.rest _ (by omega)).trans M2.out)
  replace HB := Lib.hid (hw'.below HB.out (Nat.le_refl _))
  clear hw'
  generalize (w1.setCell ⟨w.heap.size, 1, none⟩ (.int .i64 (m + 1))) = w2 at *
  have a0 := cell_of_block (o := 0) M0.out rfl
  have a1 := cell_of_block (o := 1) M0.out rfl
  have a2 := cell_of_block (o := 2) M0.out rfl
  have r0 := cell_of_block (o := 0) M1.out rfl
  have r1 := cell_of_block (o := 1) M1.out rfl
  have r2 := cell_of_block (o := 2) M1.out rfl
  have c0 := cell_of_block (o := 0) M2.out rfl
  have c1 := cell_of_block (o := 1) M2.out rfl
  have c2 := cell_of_block (o := 2) M2.out rfl
  have g0 := free_of_block 0 M0.out
  have g1 := free_of_block 1 M0.out
  have g2 := free_of_block 2 M0.out
  have f0 := free_of_block 0 M2.out
  have f1 := free_of_block 1 M2.out
  have f2 := free_of_block 2 M2.out
  go_upto_region 17 with fail
  clear a0 a1 a2 r0 r1 r2 c0 c1 c2 g0 g1 g2 f0 f1 f2
  have hw' := ((wrote_refl M0.out).set 2 (.int .i64 (0)))
  replace M0 := Lib.hid (show (w2.setCell ⟨w.heap.size, 2, none⟩ (.int .i64 (0))).heap[w.heap.size]? = some (.cells #[.int .i64 (0), .int .i64 (m + 1), .int .i64 (0)] 67 (0, 0)) from hw'.there)
  replace M1 := Lib.hid ((hw'.rest _ (by omega)).trans M1.out)
  replace M2 := Lib.hid ((hw'.rest _ (by omega)).trans M2.out)
  replace HB := Lib.hid (hw'.below HB.out (Nat.le_refl _))
  clear hw'
  generalize (w2.setCell ⟨w.heap.size, 2, none⟩ (.int .i64 (0))) = w3 at *
  have a0 := cell_of_block (o := 0) M0.out rfl
  have a1 := cell_of_block (o := 1) M0.out rfl
  have a2 := cell_of_block (o := 2) M0.out rfl
  have r0 := cell_of_block (o := 0) M1.out rfl
  have r1 := cell_of_block (o := 1) M1.out rfl
  have r2 := cell_of_block (o := 2) M1.out rfl
  have c0 := cell_of_block (o := 0) M2.out rfl
  have c1 := cell_of_block (o := 1) M2.out rfl
  have c2 := cell_of_block (o := 2) M2.out rfl
  have g0 := free_of_block 0 M0.out
  have g1 := free_of_block 1 M0.out
  have g2 := free_of_block 2 M0.out
  have f0 := free_of_block 0 M2.out
  have f1 := free_of_block 1 M2.out
  have f2 := free_of_block 2 M2.out
  go_upto_region 18 with fail
  clear a0 a1 a2 r0 r1 r2 c0 c1 c2 g0 g1 g2 f0 f1 f2
  have hw' := ((wrote_refl M0.out).set 0 (.int .i64 (0)))
  replace M0 := Lib.hid (show (w3.setCell ⟨w.heap.size, 0, none⟩ (.int .i64 (0))).heap[w.heap.size]? = some (.cells #[.int .i64 (0), .int .i64 (m + 1), .int .i64 (0)] 67 (0, 0)) from hw'.there)
  replace M1 := Lib.hid ((hw'.rest _ (by omega)).trans M1.out)
  replace M2 := Lib.hid ((hw'.rest _ (by omega)).trans M2.out)
  replace HB := Lib.hid (hw'.below HB.out (Nat.le_refl _))
  clear hw'
  generalize (w3.setCell ⟨w.heap.size, 0, none⟩ (.int .i64 (0))) = w4 at *
  have a0 := cell_of_block (o := 0) M0.out rfl
  have a1 := cell_of_block (o := 1) M0.out rfl
  have a2 := cell_of_block (o := 2) M0.out rfl
  have r0 := cell_of_block (o := 0) M1.out rfl
  have r1 := cell_of_block (o := 1) M1.out rfl
  have r2 := cell_of_block (o := 2) M1.out rfl
  have c0 := cell_of_block (o := 0) M2.out rfl
  have c1 := cell_of_block (o := 1) M2.out rfl
  have c2 := cell_of_block (o := 2) M2.out rfl
  have g0 := free_of_block 0 M0.out
  have g1 := free_of_block 1 M0.out
  have g2 := free_of_block 2 M0.out
  have f0 := free_of_block 0 M2.out
  have f1 := free_of_block 1 M2.out
  have f2 := free_of_block 2 M2.out
  go_wp2_with fail
  exact bodyPost_ret (v := .agg #[.int .i64 (0), .int .i64 (m + 1), .int .i64 (0)]) (by simp [results, Tryd.results34, go_sem, *]) rfl ⟨rfl, (by repeat (first | exact Below.refl _ _ | assumption | refine below_drewN ?_ _ | refine Below.drew ?_ | refine below_alloc ?_ _ | refine Below.alloc ?_ (by first | omega | (simp; done) | (simp; omega)) _ | refine Below.setCell ?_ (Below.size (by assumption)) _ | refine Below.setCell ?_ (by first | omega | (simp; done) | (simp; omega)) _ | (refine Below.trans ?_ (Below.mono (by assumption) (by first | omega | (simp; done) | (simp; omega)))) | refine below_next ?_ (by assumption)))⟩
set_option maxRecDepth 100000 in
set_option maxHeartbeats 8000000 in
theorem rnx_1_1_yes (m b S D P : Int) (w : World) (h1 : rightR S D P = true) (h2 : rightN (1) (m) (b) S D P = true) (hx : m + 1 = D) :
    Calls Tryd.prog 34 #[.agg #[.int .i64 1, .int .i64 m, .int .i64 b], .agg #[.int .i64 S, .int .i64 D, .int .i64 P], .int .i64 1] w fun e w' => e = .returned (.agg #[.int .i64 (2), .int .i64 (0), .int .i64 (0)]) ∧ Below w.heap.size w w' := by
  have hr := h1
  have hn := h2
  unfold rightR at hr
  unfold rightN at hn
  rw [decide_eq_true_eq] at hr hn
  have hw : IntKind.i64.wrap (m + 1) = m + 1 := by rw [IntKind.wrap_i64]; omega
  have dS : decide (m + 1 ≥ S) = true := decide_eq_true (by omega)
  have dS' : decide (S ≤ m + 1) = true := decide_eq_true (by omega)
  have dD : decide (m + 1 ≥ D) = true := decide_eq_true (by omega)
  have dD' : decide (D ≤ m + 1) = true := decide_eq_true (by omega)
  clear hr hn hx
  have K := Lib.hid (fun W => rn8_any (1) (m) (b) S D P W)
  rw [h1, h2] at K
  clear h1 h2
  have N0 := World.alloc_heap_new w (.cells #[.int .i64 (1), .int .i64 (m), .int .i64 (b)] 67)
  have N1 := World.alloc_heap_new (w.alloc (.cells #[.int .i64 (1), .int .i64 (m), .int .i64 (b)] 67)) (.cells #[.int .i64 S, .int .i64 D, .int .i64 P] 32)
  have N2 := World.alloc_heap_new ((w.alloc (.cells #[.int .i64 (1), .int .i64 (m), .int .i64 (b)] 67)).alloc (.cells #[.int .i64 S, .int .i64 D, .int .i64 P] 32)) (.cells #[.int .i64 0, .int .i64 0, .int .i64 0] 67)
  have B0 := below_alloc (Below.refl _ w) (.cells #[.int .i64 (1), .int .i64 (m), .int .i64 (b)] 67)
  have B1 := below_alloc (Below.refl _ (w.alloc (.cells #[.int .i64 (1), .int .i64 (m), .int .i64 (b)] 67))) (.cells #[.int .i64 S, .int .i64 D, .int .i64 P] 32)
  have B2 := below_alloc (Below.refl _ ((w.alloc (.cells #[.int .i64 (1), .int .i64 (m), .int .i64 (b)] 67)).alloc (.cells #[.int .i64 S, .int .i64 D, .int .i64 P] 32))) (.cells #[.int .i64 0, .int .i64 0, .int .i64 0] 67)
  have M0 := Lib.hid ((B2.block _ (by simp; omega)).trans ((B1.block _ (by simp)).trans N0))
  have M1 := Lib.hid ((B2.block _ (by simp)).trans N1)
  have M2 := Lib.hid N2
  have HB := Lib.hid (below_next (below_next B0 B1) B2)
  rw [World.size_alloc] at M1
  rw [World.size_alloc, World.size_alloc] at M2
  clear N0 N1 N2 B0 B1 B2
  go_enter Tryd.func34, Tryd.ntmps34
  go_upto_region 1 with fail
  generalize ((w.alloc (.cells #[.int .i64 (1), .int .i64 (m), .int .i64 (b)] 67)).alloc (.cells #[.int .i64 S, .int .i64 D, .int .i64 P] 32)).alloc (.cells #[.int .i64 0, .int .i64 0, .int .i64 0] 67) = w0 at *
  have a0 := cell_of_block (o := 0) M0.out rfl
  have a1 := cell_of_block (o := 1) M0.out rfl
  have a2 := cell_of_block (o := 2) M0.out rfl
  have r0 := cell_of_block (o := 0) M1.out rfl
  have r1 := cell_of_block (o := 1) M1.out rfl
  have r2 := cell_of_block (o := 2) M1.out rfl
  have c0 := cell_of_block (o := 0) M2.out rfl
  have c1 := cell_of_block (o := 1) M2.out rfl
  have c2 := cell_of_block (o := 2) M2.out rfl
  have g0 := free_of_block 0 M0.out
  have g1 := free_of_block 1 M0.out
  have g2 := free_of_block 2 M0.out
  have f0 := free_of_block 0 M2.out
  have f1 := free_of_block 1 M2.out
  have f2 := free_of_block 2 M2.out
  go_wp2_with fail
  refine (K.out _).mono ?_
  rintro e w1 ⟨rfl, hb⟩
  clear a0 a1 a2 r0 r1 r2 c0 c1 c2 g0 g1 g2 f0 f1 f2
  replace M0 := Lib.hid ((hb.block _ (Array.getElem?_eq_some_iff.1 M0.out).1).trans M0.out)
  replace M1 := Lib.hid ((hb.block _ (Array.getElem?_eq_some_iff.1 M1.out).1).trans M1.out)
  replace M2 := Lib.hid ((hb.block _ (Array.getElem?_eq_some_iff.1 M2.out).1).trans M2.out)
  replace HB := Lib.hid (below_next HB.out hb)
  clear hb K
  have a0 := cell_of_block (o := 0) M0.out rfl
  have a1 := cell_of_block (o := 1) M0.out rfl
  have a2 := cell_of_block (o := 2) M0.out rfl
  have r0 := cell_of_block (o := 0) M1.out rfl
  have r1 := cell_of_block (o := 1) M1.out rfl
  have r2 := cell_of_block (o := 2) M1.out rfl
  have c0 := cell_of_block (o := 0) M2.out rfl
  have c1 := cell_of_block (o := 1) M2.out rfl
  have c2 := cell_of_block (o := 2) M2.out rfl
  have g0 := free_of_block 0 M0.out
  have g1 := free_of_block 1 M0.out
  have g2 := free_of_block 2 M0.out
  have f0 := free_of_block 0 M2.out
  have f1 := free_of_block 1 M2.out
  have f2 := free_of_block 2 M2.out
  go_upto_region 16 with fail
  clear a0 a1 a2 r0 r1 r2 c0 c1 c2 g0 g1 g2 f0 f1 f2
  have hw' := ((wrote_refl M0.out).set 1 (.int .i64 (m + 1)))
  replace M0 := Lib.hid (show (w1.setCell ⟨w.heap.size, 1, none⟩ (.int .i64 (m + 1))).heap[w.heap.size]? = some (.cells #[.int .i64 (1), .int .i64 (m + 1), .int .i64 (b)] 67 (0, 0)) from hw'.there)
  replace M1 := Lib.hid ((hw'.rest _ (by omega)).trans M1.out)
  replace M2 := Lib.hid ((hw'.rest _ (by omega)).trans M2.out)
  replace HB := Lib.hid (hw'.below HB.out (Nat.le_refl _))
  clear hw'
  generalize (w1.setCell ⟨w.heap.size, 1, none⟩ (.int .i64 (m + 1))) = w2 at *
  have a0 := cell_of_block (o := 0) M0.out rfl
  have a1 := cell_of_block (o := 1) M0.out rfl
  have a2 := cell_of_block (o := 2) M0.out rfl
  have r0 := cell_of_block (o := 0) M1.out rfl
  have r1 := cell_of_block (o := 1) M1.out rfl
  have r2 := cell_of_block (o := 2) M1.out rfl
  have c0 := cell_of_block (o := 0) M2.out rfl
  have c1 := cell_of_block (o := 1) M2.out rfl
  have c2 := cell_of_block (o := 2) M2.out rfl
  have g0 := free_of_block 0 M0.out
  have g1 := free_of_block 1 M0.out
  have g2 := free_of_block 2 M0.out
  have f0 := free_of_block 0 M2.out
  have f1 := free_of_block 1 M2.out
  have f2 := free_of_block 2 M2.out
  go_upto_region 17 with fail
  clear a0 a1 a2 r0 r1 r2 c0 c1 c2 g0 g1 g2 f0 f1 f2
  have hw' := ((wrote_refl M0.out).set 2 (.int .i64 (0)))
  replace M0 := Lib.hid (show (w2.setCell ⟨w.heap.size, 2, none⟩ (.int .i64 (0))).heap[w.heap.size]? = some (.cells #[.int .i64 (1), .int .i64 (m + 1), .int .i64 (0)] 67 (0, 0)) from hw'.there)
  replace M1 := Lib.hid ((hw'.rest _ (by omega)).trans M1.out)
  replace M2 := Lib.hid ((hw'.rest _ (by omega)).trans M2.out)
  replace HB := Lib.hid (hw'.below HB.out (Nat.le_refl _))
  clear hw'
  generalize (w2.setCell ⟨w.heap.size, 2, none⟩ (.int .i64 (0))) = w3 at *
  have a0 := cell_of_block (o := 0) M0.out rfl
  have a1 := cell_of_block (o := 1) M0.out rfl
  have a2 := cell_of_block (o := 2) M0.out rfl
  have r0 := cell_of_block (o := 0) M1.out rfl
  have r1 := cell_of_block (o := 1) M1.out rfl
  have r2 := cell_of_block (o := 2) M1.out rfl
  have c0 := cell_of_block (o := 0) M2.out rfl
  have c1 := cell_of_block (o := 1) M2.out rfl
  have c2 := cell_of_block (o := 2) M2.out rfl
  have g0 := free_of_block 0 M0.out
  have g1 := free_of_block 1 M0.out
  have g2 := free_of_block 2 M0.out
  have f0 := free_of_block 0 M2.out
  have f1 := free_of_block 1 M2.out
  have f2 := free_of_block 2 M2.out
  go_upto_region 18 with fail
  clear a0 a1 a2 r0 r1 r2 c0 c1 c2 g0 g1 g2 f0 f1 f2
  have hw' := ((wrote_refl M0.out).set 0 (.int .i64 (0)))
  replace M0 := Lib.hid (show (w3.setCell ⟨w.heap.size, 0, none⟩ (.int .i64 (0))).heap[w.heap.size]? = some (.cells #[.int .i64 (0), .int .i64 (m + 1), .int .i64 (0)] 67 (0, 0)) from hw'.there)
  replace M1 := Lib.hid ((hw'.rest _ (by omega)).trans M1.out)
  replace M2 := Lib.hid ((hw'.rest _ (by omega)).trans M2.out)
  replace HB := Lib.hid (hw'.below HB.out (Nat.le_refl _))
  clear hw'
  generalize (w3.setCell ⟨w.heap.size, 0, none⟩ (.int .i64 (0))) = w4 at *
  have a0 := cell_of_block (o := 0) M0.out rfl
  have a1 := cell_of_block (o := 1) M0.out rfl
  have a2 := cell_of_block (o := 2) M0.out rfl
  have r0 := cell_of_block (o := 0) M1.out rfl
  have r1 := cell_of_block (o := 1) M1.out rfl
  have r2 := cell_of_block (o := 2) M1.out rfl
  have c0 := cell_of_block (o := 0) M2.out rfl
  have c1 := cell_of_block (o := 1) M2.out rfl
  have c2 := cell_of_block (o := 2) M2.out rfl
  have g0 := free_of_block 0 M0.out
  have g1 := free_of_block 1 M0.out
  have g2 := free_of_block 2 M0.out
  have f0 := free_of_block 0 M2.out
  have f1 := free_of_block 1 M2.out
  have f2 := free_of_block 2 M2.out
  go_upto_region 20 with fail
  clear a0 a1 a2 r0 r1 r2 c0 c1 c2 g0 g1 g2 f0 f1 f2
  have hw' := ((wrote_refl M0.out).set 0 (.int .i64 (1)))
  replace M0 := Lib.hid (show (w4.setCell ⟨w.heap.size, 0, none⟩ (.int .i64 (1))).heap[w.heap.size]? = some (.cells #[.int .i64 (1), .int .i64 (m + 1), .int .i64 (0)] 67 (0, 0)) from hw'.there)
  replace M1 := Lib.hid ((hw'.rest _ (by omega)).trans M1.out)
  replace M2 := Lib.hid ((hw'.rest _ (by omega)).trans M2.out)
  replace HB := Lib.hid (hw'.below HB.out (Nat.le_refl _))
  clear hw'
  generalize (w4.setCell ⟨w.heap.size, 0, none⟩ (.int .i64 (1))) = w5 at *
  have a0 := cell_of_block (o := 0) M0.out rfl
  have a1 := cell_of_block (o := 1) M0.out rfl
  have a2 := cell_of_block (o := 2) M0.out rfl
  have r0 := cell_of_block (o := 0) M1.out rfl
  have r1 := cell_of_block (o := 1) M1.out rfl
  have r2 := cell_of_block (o := 2) M1.out rfl
  have c0 := cell_of_block (o := 0) M2.out rfl
  have c1 := cell_of_block (o := 1) M2.out rfl
  have c2 := cell_of_block (o := 2) M2.out rfl
  have g0 := free_of_block 0 M0.out
  have g1 := free_of_block 1 M0.out
  have g2 := free_of_block 2 M0.out
  have f0 := free_of_block 0 M2.out
  have f1 := free_of_block 1 M2.out
  have f2 := free_of_block 2 M2.out
  go_upto_region 31 with fail
  clear a0 a1 a2 r0 r1 r2 c0 c1 c2 g0 g1 g2 f0 f1 f2
  have hw' := ((((wrote_refl M0.out).set 0 (.int .i64 (2))).set 1 (.int .i64 (0))).set 2 (.int .i64 (0)))
  replace M0 := Lib.hid (show (((w5.setCell ⟨w.heap.size, 0, none⟩ (.int .i64 (2))).setCell ⟨w.heap.size, 1, none⟩ (.int .i64 (0))).setCell ⟨w.heap.size, 2, none⟩ (.int .i64 (0))).heap[w.heap.size]? = some (.cells #[.int .i64 (2), .int .i64 (0), .int .i64 (0)] 67 (0, 0)) from hw'.there)
  replace M1 := Lib.hid ((hw'.rest _ (by omega)).trans M1.out)
  replace M2 := Lib.hid ((hw'.rest _ (by omega)).trans M2.out)
  replace HB := Lib.hid (hw'.below HB.out (Nat.le_refl _))
  clear hw'
  generalize (((w5.setCell ⟨w.heap.size, 0, none⟩ (.int .i64 (2))).setCell ⟨w.heap.size, 1, none⟩ (.int .i64 (0))).setCell ⟨w.heap.size, 2, none⟩ (.int .i64 (0))) = w6 at *
  have a0 := cell_of_block (o := 0) M0.out rfl
  have a1 := cell_of_block (o := 1) M0.out rfl
  have a2 := cell_of_block (o := 2) M0.out rfl
  have r0 := cell_of_block (o := 0) M1.out rfl
  have r1 := cell_of_block (o := 1) M1.out rfl
  have r2 := cell_of_block (o := 2) M1.out rfl
  have c0 := cell_of_block (o := 0) M2.out rfl
  have c1 := cell_of_block (o := 1) M2.out rfl
  have c2 := cell_of_block (o := 2) M2.out rfl
  have g0 := free_of_block 0 M0.out
  have g1 := free_of_block 1 M0.out
  have g2 := free_of_block 2 M0.out
  have f0 := free_of_block 0 M2.out
  have f1 := free_of_block 1 M2.out
  have f2 := free_of_block 2 M2.out
  go_wp2_with fail
  exact bodyPost_ret (v := .agg #[.int .i64 (2), .int .i64 (0), .int .i64 (0)]) (by simp [results, Tryd.results34, go_sem, *]) rfl ⟨rfl, (by repeat (first | exact Below.refl _ _ | assumption | refine below_drewN ?_ _ | refine Below.drew ?_ | refine below_alloc ?_ _ | refine Below.alloc ?_ (by first | omega | (simp; done) | (simp; omega)) _ | refine Below.setCell ?_ (Below.size (by assumption)) _ | refine Below.setCell ?_ (by first | omega | (simp; done) | (simp; omega)) _ | (refine Below.trans ?_ (Below.mono (by assumption) (by first | omega | (simp; done) | (simp; omega)))) | refine below_next ?_ (by assumption)))⟩
set_option maxRecDepth 100000 in
set_option maxHeartbeats 8000000 in
theorem rnx_1_1_no (m b S D P : Int) (w : World) (h1 : rightR S D P = true) (h2 : rightN (1) (m) (b) S D P = true) (hx : ¬ m + 1 = D) :
    Calls Tryd.prog 34 #[.agg #[.int .i64 1, .int .i64 m, .int .i64 b], .agg #[.int .i64 S, .int .i64 D, .int .i64 P], .int .i64 1] w fun e w' => e = .returned (.agg #[.int .i64 (1), .int .i64 (m + 1), .int .i64 (0)]) ∧ Below w.heap.size w w' := by
  have hr := h1
  have hn := h2
  unfold rightR at hr
  unfold rightN at hn
  rw [decide_eq_true_eq] at hr hn
  have hw : IntKind.i64.wrap (m + 1) = m + 1 := by rw [IntKind.wrap_i64]; omega
  have dS : decide (m + 1 ≥ S) = true := decide_eq_true (by omega)
  have dS' : decide (S ≤ m + 1) = true := decide_eq_true (by omega)
  have dD : decide (m + 1 ≥ D) = false := decide_eq_false (by omega)
  have dD' : decide (D ≤ m + 1) = false := decide_eq_false (by omega)
  clear hr hn hx
  have K := Lib.hid (fun W => rn8_any (1) (m) (b) S D P W)
  rw [h1, h2] at K
  clear h1 h2
  have N0 := World.alloc_heap_new w (.cells #[.int .i64 (1), .int .i64 (m), .int .i64 (b)] 67)
  have N1 := World.alloc_heap_new (w.alloc (.cells #[.int .i64 (1), .int .i64 (m), .int .i64 (b)] 67)) (.cells #[.int .i64 S, .int .i64 D, .int .i64 P] 32)
  have N2 := World.alloc_heap_new ((w.alloc (.cells #[.int .i64 (1), .int .i64 (m), .int .i64 (b)] 67)).alloc (.cells #[.int .i64 S, .int .i64 D, .int .i64 P] 32)) (.cells #[.int .i64 0, .int .i64 0, .int .i64 0] 67)
  have B0 := below_alloc (Below.refl _ w) (.cells #[.int .i64 (1), .int .i64 (m), .int .i64 (b)] 67)
  have B1 := below_alloc (Below.refl _ (w.alloc (.cells #[.int .i64 (1), .int .i64 (m), .int .i64 (b)] 67))) (.cells #[.int .i64 S, .int .i64 D, .int .i64 P] 32)
  have B2 := below_alloc (Below.refl _ ((w.alloc (.cells #[.int .i64 (1), .int .i64 (m), .int .i64 (b)] 67)).alloc (.cells #[.int .i64 S, .int .i64 D, .int .i64 P] 32))) (.cells #[.int .i64 0, .int .i64 0, .int .i64 0] 67)
  have M0 := Lib.hid ((B2.block _ (by simp; omega)).trans ((B1.block _ (by simp)).trans N0))
  have M1 := Lib.hid ((B2.block _ (by simp)).trans N1)
  have M2 := Lib.hid N2
  have HB := Lib.hid (below_next (below_next B0 B1) B2)
  rw [World.size_alloc] at M1
  rw [World.size_alloc, World.size_alloc] at M2
  clear N0 N1 N2 B0 B1 B2
  go_enter Tryd.func34, Tryd.ntmps34
  go_upto_region 1 with fail
  generalize ((w.alloc (.cells #[.int .i64 (1), .int .i64 (m), .int .i64 (b)] 67)).alloc (.cells #[.int .i64 S, .int .i64 D, .int .i64 P] 32)).alloc (.cells #[.int .i64 0, .int .i64 0, .int .i64 0] 67) = w0 at *
  have a0 := cell_of_block (o := 0) M0.out rfl
  have a1 := cell_of_block (o := 1) M0.out rfl
  have a2 := cell_of_block (o := 2) M0.out rfl
  have r0 := cell_of_block (o := 0) M1.out rfl
  have r1 := cell_of_block (o := 1) M1.out rfl
  have r2 := cell_of_block (o := 2) M1.out rfl
  have c0 := cell_of_block (o := 0) M2.out rfl
  have c1 := cell_of_block (o := 1) M2.out rfl
  have c2 := cell_of_block (o := 2) M2.out rfl
  have g0 := free_of_block 0 M0.out
  have g1 := free_of_block 1 M0.out
  have g2 := free_of_block 2 M0.out
  have f0 := free_of_block 0 M2.out
  have f1 := free_of_block 1 M2.out
  have f2 := free_of_block 2 M2.out
  go_wp2_with fail
  refine (K.out _).mono ?_
  rintro e w1 ⟨rfl, hb⟩
  clear a0 a1 a2 r0 r1 r2 c0 c1 c2 g0 g1 g2 f0 f1 f2
  replace M0 := Lib.hid ((hb.block _ (Array.getElem?_eq_some_iff.1 M0.out).1).trans M0.out)
  replace M1 := Lib.hid ((hb.block _ (Array.getElem?_eq_some_iff.1 M1.out).1).trans M1.out)
  replace M2 := Lib.hid ((hb.block _ (Array.getElem?_eq_some_iff.1 M2.out).1).trans M2.out)
  replace HB := Lib.hid (below_next HB.out hb)
  clear hb K
  have a0 := cell_of_block (o := 0) M0.out rfl
  have a1 := cell_of_block (o := 1) M0.out rfl
  have a2 := cell_of_block (o := 2) M0.out rfl
  have r0 := cell_of_block (o := 0) M1.out rfl
  have r1 := cell_of_block (o := 1) M1.out rfl
  have r2 := cell_of_block (o := 2) M1.out rfl
  have c0 := cell_of_block (o := 0) M2.out rfl
  have c1 := cell_of_block (o := 1) M2.out rfl
  have c2 := cell_of_block (o := 2) M2.out rfl
  have g0 := free_of_block 0 M0.out
  have g1 := free_of_block 1 M0.out
  have g2 := free_of_block 2 M0.out
  have f0 := free_of_block 0 M2.out
  have f1 := free_of_block 1 M2.out
  have f2 := free_of_block 2 M2.out
  go_upto_region 16 with fail
  clear a0 a1 a2 r0 r1 r2 c0 c1 c2 g0 g1 g2 f0 f1 f2
  have hw' := ((wrote_refl M0.out).set 1 (.int .i64 (m + 1)))
  replace M0 := Lib.hid (show (w1.setCell ⟨w.heap.size, 1, none⟩ (.int .i64 (m + 1))).heap[w.heap.size]? = some (.cells #[.int .i64 (1), .int .i64 (m + 1), .int .i64 (b)] 67 (0, 0)) from hw'.there)
  replace M1 := Lib.hid ((hw'.rest _ (by omega)).trans M1.out)
  replace M2 := Lib.hid ((hw'.rest _ (by omega)).trans M2.out)
  replace HB := Lib.hid (hw'.below HB.out (Nat.le_refl _))
  clear hw'
  generalize (w1.setCell ⟨w.heap.size, 1, none⟩ (.int .i64 (m + 1))) = w2 at *
  have a0 := cell_of_block (o := 0) M0.out rfl
  have a1 := cell_of_block (o := 1) M0.out rfl
  have a2 := cell_of_block (o := 2) M0.out rfl
  have r0 := cell_of_block (o := 0) M1.out rfl
  have r1 := cell_of_block (o := 1) M1.out rfl
  have r2 := cell_of_block (o := 2) M1.out rfl
  have c0 := cell_of_block (o := 0) M2.out rfl
  have c1 := cell_of_block (o := 1) M2.out rfl
  have c2 := cell_of_block (o := 2) M2.out rfl
  have g0 := free_of_block 0 M0.out
  have g1 := free_of_block 1 M0.out
  have g2 := free_of_block 2 M0.out
  have f0 := free_of_block 0 M2.out
  have f1 := free_of_block 1 M2.out
  have f2 := free_of_block 2 M2.out
  go_upto_region 17 with fail
  clear a0 a1 a2 r0 r1 r2 c0 c1 c2 g0 g1 g2 f0 f1 f2
  have hw' := ((wrote_refl M0.out).set 2 (.int .i64 (0)))
  replace M0 := Lib.hid (show (w2.setCell ⟨w.heap.size, 2, none⟩ (.int .i64 (0))).heap[w.heap.size]? = some (.cells #[.int .i64 (1), .int .i64 (m + 1), .int .i64 (0)] 67 (0, 0)) from hw'.there)
  replace M1 := Lib.hid ((hw'.rest _ (by omega)).trans M1.out)
  replace M2 := Lib.hid ((hw'.rest _ (by omega)).trans M2.out)
  replace HB := Lib.hid (hw'.below HB.out (Nat.le_refl _))
  clear hw'
  generalize (w2.setCell ⟨w.heap.size, 2, none⟩ (.int .i64 (0))) = w3 at *
  have a0 := cell_of_block (o := 0) M0.out rfl
  have a1 := cell_of_block (o := 1) M0.out rfl
  have a2 := cell_of_block (o := 2) M0.out rfl
  have r0 := cell_of_block (o := 0) M1.out rfl
  have r1 := cell_of_block (o := 1) M1.out rfl
  have r2 := cell_of_block (o := 2) M1.out rfl
  have c0 := cell_of_block (o := 0) M2.out rfl
  have c1 := cell_of_block (o := 1) M2.out rfl
  have c2 := cell_of_block (o := 2) M2.out rfl
  have g0 := free_of_block 0 M0.out
  have g1 := free_of_block 1 M0.out
  have g2 := free_of_block 2 M0.out
  have f0 := free_of_block 0 M2.out
  have f1 := free_of_block 1 M2.out
  have f2 := free_of_block 2 M2.out
  go_upto_region 18 with fail
  clear a0 a1 a2 r0 r1 r2 c0 c1 c2 g0 g1 g2 f0 f1 f2
  have hw' := ((wrote_refl M0.out).set 0 (.int .i64 (0)))
  replace M0 := Lib.hid (show (w3.setCell ⟨w.heap.size, 0, none⟩ (.int .i64 (0))).heap[w.heap.size]? = some (.cells #[.int .i64 (0), .int .i64 (m + 1), .int .i64 (0)] 67 (0, 0)) from hw'.there)
  replace M1 := Lib.hid ((hw'.rest _ (by omega)).trans M1.out)
  replace M2 := Lib.hid ((hw'.rest _ (by omega)).trans M2.out)
  replace HB := Lib.hid (hw'.below HB.out (Nat.le_refl _))
  clear hw'
  generalize (w3.setCell ⟨w.heap.size, 0, none⟩ (.int .i64 (0))) = w4 at *
  have a0 := cell_of_block (o := 0) M0.out rfl
  have a1 := cell_of_block (o := 1) M0.out rfl
  have a2 := cell_of_block (o := 2) M0.out rfl
  have r0 := cell_of_block (o := 0) M1.out rfl
  have r1 := cell_of_block (o := 1) M1.out rfl
  have r2 := cell_of_block (o := 2) M1.out rfl
  have c0 := cell_of_block (o := 0) M2.out rfl
  have c1 := cell_of_block (o := 1) M2.out rfl
  have c2 := cell_of_block (o := 2) M2.out rfl
  have g0 := free_of_block 0 M0.out
  have g1 := free_of_block 1 M0.out
  have g2 := free_of_block 2 M0.out
  have f0 := free_of_block 0 M2.out
  have f1 := free_of_block 1 M2.out
  have f2 := free_of_block 2 M2.out
  go_upto_region 20 with fail
  clear a0 a1 a2 r0 r1 r2 c0 c1 c2 g0 g1 g2 f0 f1 f2
  have hw' := ((wrote_refl M0.out).set 0 (.int .i64 (1)))
  replace M0 := Lib.hid (show (w4.setCell ⟨w.heap.size, 0, none⟩ (.int .i64 (1))).heap[w.heap.size]? = some (.cells #[.int .i64 (1), .int .i64 (m + 1), .int .i64 (0)] 67 (0, 0)) from hw'.there)
  replace M1 := Lib.hid ((hw'.rest _ (by omega)).trans M1.out)
  replace M2 := Lib.hid ((hw'.rest _ (by omega)).trans M2.out)
  replace HB := Lib.hid (hw'.below HB.out (Nat.le_refl _))
  clear hw'
  generalize (w4.setCell ⟨w.heap.size, 0, none⟩ (.int .i64 (1))) = w5 at *
  have a0 := cell_of_block (o := 0) M0.out rfl
  have a1 := cell_of_block (o := 1) M0.out rfl
  have a2 := cell_of_block (o := 2) M0.out rfl
  have r0 := cell_of_block (o := 0) M1.out rfl
  have r1 := cell_of_block (o := 1) M1.out rfl
  have r2 := cell_of_block (o := 2) M1.out rfl
  have c0 := cell_of_block (o := 0) M2.out rfl
  have c1 := cell_of_block (o := 1) M2.out rfl
  have c2 := cell_of_block (o := 2) M2.out rfl
  have g0 := free_of_block 0 M0.out
  have g1 := free_of_block 1 M0.out
  have g2 := free_of_block 2 M0.out
  have f0 := free_of_block 0 M2.out
  have f1 := free_of_block 1 M2.out
  have f2 := free_of_block 2 M2.out
  go_wp2_with fail
  exact bodyPost_ret (v := .agg #[.int .i64 (1), .int .i64 (m + 1), .int .i64 (0)]) (by simp [results, Tryd.results34, go_sem, *]) rfl ⟨rfl, (by repeat (first | exact Below.refl _ _ | assumption | refine below_drewN ?_ _ | refine Below.drew ?_ | refine below_alloc ?_ _ | refine Below.alloc ?_ (by first | omega | (simp; done) | (simp; omega)) _ | refine Below.setCell ?_ (Below.size (by assumption)) _ | refine Below.setCell ?_ (by first | omega | (simp; done) | (simp; omega)) _ | (refine Below.trans ?_ (Below.mono (by assumption) (by first | omega | (simp; done) | (simp; omega)))) | refine below_next ?_ (by assumption)))⟩
set_option maxRecDepth 100000 in
set_option maxHeartbeats 8000000 in
theorem rnx_1_4 (m b S D P : Int) (w : World) (h1 : rightR S D P = true) (h2 : rightN (4) (m) (b) S D P = true) :
    Calls Tryd.prog 34 #[.agg #[.int .i64 4, .int .i64 m, .int .i64 b], .agg #[.int .i64 S, .int .i64 D, .int .i64 P], .int .i64 1] w fun e w' => e = .returned (.agg #[.int .i64 (2), .int .i64 (0), .int .i64 (0)]) ∧ Below w.heap.size w w' := by
  have K := Lib.hid (fun W => rn8_any (4) (m) (b) S D P W)
  rw [h1, h2] at K
  clear h1 h2
  have N0 := World.alloc_heap_new w (.cells #[.int .i64 (4), .int .i64 (m), .int .i64 (b)] 67)
  have N1 := World.alloc_heap_new (w.alloc (.cells #[.int .i64 (4), .int .i64 (m), .int .i64 (b)] 67)) (.cells #[.int .i64 S, .int .i64 D, .int .i64 P] 32)
  have N2 := World.alloc_heap_new ((w.alloc (.cells #[.int .i64 (4), .int .i64 (m), .int .i64 (b)] 67)).alloc (.cells #[.int .i64 S, .int .i64 D, .int .i64 P] 32)) (.cells #[.int .i64 0, .int .i64 0, .int .i64 0] 67)
  have B0 := below_alloc (Below.refl _ w) (.cells #[.int .i64 (4), .int .i64 (m), .int .i64 (b)] 67)
  have B1 := below_alloc (Below.refl _ (w.alloc (.cells #[.int .i64 (4), .int .i64 (m), .int .i64 (b)] 67))) (.cells #[.int .i64 S, .int .i64 D, .int .i64 P] 32)
  have B2 := below_alloc (Below.refl _ ((w.alloc (.cells #[.int .i64 (4), .int .i64 (m), .int .i64 (b)] 67)).alloc (.cells #[.int .i64 S, .int .i64 D, .int .i64 P] 32))) (.cells #[.int .i64 0, .int .i64 0, .int .i64 0] 67)
  have M0 := Lib.hid ((B2.block _ (by simp; omega)).trans ((B1.block _ (by simp)).trans N0))
  have M1 := Lib.hid ((B2.block _ (by simp)).trans N1)
  have M2 := Lib.hid N2
  have HB := Lib.hid (below_next (below_next B0 B1) B2)
  rw [World.size_alloc] at M1
  rw [World.size_alloc, World.size_alloc] at M2
  clear N0 N1 N2 B0 B1 B2
  go_enter Tryd.func34, Tryd.ntmps34
  go_upto_region 1 with fail
  generalize ((w.alloc (.cells #[.int .i64 (4), .int .i64 (m), .int .i64 (b)] 67)).alloc (.cells #[.int .i64 S, .int .i64 D, .int .i64 P] 32)).alloc (.cells #[.int .i64 0, .int .i64 0, .int .i64 0] 67) = w0 at *
  have a0 := cell_of_block (o := 0) M0.out rfl
  have a1 := cell_of_block (o := 1) M0.out rfl
  have a2 := cell_of_block (o := 2) M0.out rfl
  have r0 := cell_of_block (o := 0) M1.out rfl
  have r1 := cell_of_block (o := 1) M1.out rfl
  have r2 := cell_of_block (o := 2) M1.out rfl
  have c0 := cell_of_block (o := 0) M2.out rfl
  have c1 := cell_of_block (o := 1) M2.out rfl
  have c2 := cell_of_block (o := 2) M2.out rfl
  have g0 := free_of_block 0 M0.out
  have g1 := free_of_block 1 M0.out
  have g2 := free_of_block 2 M0.out
  have f0 := free_of_block 0 M2.out
  have f1 := free_of_block 1 M2.out
  have f2 := free_of_block 2 M2.out
  go_wp2_with fail
  refine (K.out _).mono ?_
  rintro e w1 ⟨rfl, hb⟩
  clear a0 a1 a2 r0 r1 r2 c0 c1 c2 g0 g1 g2 f0 f1 f2
  replace M0 := Lib.hid ((hb.block _ (Array.getElem?_eq_some_iff.1 M0.out).1).trans M0.out)
  replace M1 := Lib.hid ((hb.block _ (Array.getElem?_eq_some_iff.1 M1.out).1).trans M1.out)
  replace M2 := Lib.hid ((hb.block _ (Array.getElem?_eq_some_iff.1 M2.out).1).trans M2.out)
  replace HB := Lib.hid (below_next HB.out hb)
  clear hb K
  have a0 := cell_of_block (o := 0) M0.out rfl
  have a1 := cell_of_block (o := 1) M0.out rfl
  have a2 := cell_of_block (o := 2) M0.out rfl
  have r0 := cell_of_block (o := 0) M1.out rfl
  have r1 := cell_of_block (o := 1) M1.out rfl
  have r2 := cell_of_block (o := 2) M1.out rfl
  have c0 := cell_of_block (o := 0) M2.out rfl
  have c1 := cell_of_block (o := 1) M2.out rfl
  have c2 := cell_of_block (o := 2) M2.out rfl
  have g0 := free_of_block 0 M0.out
  have g1 := free_of_block 1 M0.out
  have g2 := free_of_block 2 M0.out
  have f0 := free_of_block 0 M2.out
  have f1 := free_of_block 1 M2.out
  have f2 := free_of_block 2 M2.out
  go_upto_region 14 with fail
  clear a0 a1 a2 r0 r1 r2 c0 c1 c2 g0 g1 g2 f0 f1 f2
  have hw' := ((((wrote_refl M0.out).set 0 (.int .i64 (2))).set 1 (.int .i64 (0))).set 2 (.int .i64 (0)))
  replace M0 := Lib.hid (show (((w1.setCell ⟨w.heap.size, 0, none⟩ (.int .i64 (2))).setCell ⟨w.heap.size, 1, none⟩ (.int .i64 (0))).setCell ⟨w.heap.size, 2, none⟩ (.int .i64 (0))).heap[w.heap.size]? = some (.cells #[.int .i64 (2), .int .i64 (0), .int .i64 (0)] 67 (0, 0)) from hw'.there)
  replace M1 := Lib.hid ((hw'.rest _ (by omega)).trans M1.out)
  replace M2 := Lib.hid ((hw'.rest _ (by omega)).trans M2.out)
  replace HB := Lib.hid (hw'.below HB.out (Nat.le_refl _))
  clear hw'
  generalize (((w1.setCell ⟨w.heap.size, 0, none⟩ (.int .i64 (2))).setCell ⟨w.heap.size, 1, none⟩ (.int .i64 (0))).setCell ⟨w.heap.size, 2, none⟩ (.int .i64 (0))) = w2 at *
  have a0 := cell_of_block (o := 0) M0.out rfl
  have a1 := cell_of_block (o := 1) M0.out rfl
  have a2 := cell_of_block (o := 2) M0.out rfl
  have r0 := cell_of_block (o := 0) M1.out rfl
  have r1 := cell_of_block (o := 1) M1.out rfl
  have r2 := cell_of_block (o := 2) M1.out rfl
  have c0 := cell_of_block (o := 0) M2.out rfl
  have c1 := cell_of_block (o := 1) M2.out rfl
  have c2 := cell_of_block (o := 2) M2.out rfl
  have g0 := free_of_block 0 M0.out
  have g1 := free_of_block 1 M0.out
  have g2 := free_of_block 2 M0.out
  have f0 := free_of_block 0 M2.out
  have f1 := free_of_block 1 M2.out
  have f2 := free_of_block 2 M2.out
  go_wp2_with fail
  exact bodyPost_ret (v := .agg #[.int .i64 (2), .int .i64 (0), .int .i64 (0)]) (by simp [results, Tryd.results34, go_sem, *]) rfl ⟨rfl, (by repeat (first | exact Below.refl _ _ | assumption | refine below_drewN ?_ _ | refine Below.drew ?_ | refine below_alloc ?_ _ | refine Below.alloc ?_ (by first | omega | (simp; done) | (simp; omega)) _ | refine Below.setCell ?_ (Below.size (by assumption)) _ | refine Below.setCell ?_ (by first | omega | (simp; done) | (simp; omega)) _ | (refine Below.trans ?_ (Below.mono (by assumption) (by first | omega | (simp; done) | (simp; omega)))) | refine below_next ?_ (by assumption)))⟩
set_option maxRecDepth 100000 in
set_option maxHeartbeats 8000000 in
theorem rnx_1_2 (m b S D P : Int) (w : World) (h1 : rightR S D P = true) (h2 : rightN (2) (m) (b) S D P = true) :
    Calls Tryd.prog 34 #[.agg #[.int .i64 2, .int .i64 m, .int .i64 b], .agg #[.int .i64 S, .int .i64 D, .int .i64 P], .int .i64 1] w fun e w' => e = .returned (.agg #[.int .i64 (2), .int .i64 (m), .int .i64 (b)]) ∧ Below w.heap.size w w' := by
  have K := Lib.hid (fun W => rn8_any (2) (m) (b) S D P W)
  rw [h1, h2] at K
  clear h1 h2
  have N0 := World.alloc_heap_new w (.cells #[.int .i64 (2), .int .i64 (m), .int .i64 (b)] 67)
  have N1 := World.alloc_heap_new (w.alloc (.cells #[.int .i64 (2), .int .i64 (m), .int .i64 (b)] 67)) (.cells #[.int .i64 S, .int .i64 D, .int .i64 P] 32)
  have N2 := World.alloc_heap_new ((w.alloc (.cells #[.int .i64 (2), .int .i64 (m), .int .i64 (b)] 67)).alloc (.cells #[.int .i64 S, .int .i64 D, .int .i64 P] 32)) (.cells #[.int .i64 0, .int .i64 0, .int .i64 0] 67)
  have B0 := below_alloc (Below.refl _ w) (.cells #[.int .i64 (2), .int .i64 (m), .int .i64 (b)] 67)
  have B1 := below_alloc (Below.refl _ (w.alloc (.cells #[.int .i64 (2), .int .i64 (m), .int .i64 (b)] 67))) (.cells #[.int .i64 S, .int .i64 D, .int .i64 P] 32)
  have B2 := below_alloc (Below.refl _ ((w.alloc (.cells #[.int .i64 (2), .int .i64 (m), .int .i64 (b)] 67)).alloc (.cells #[.int .i64 S, .int .i64 D, .int .i64 P] 32))) (.cells #[.int .i64 0, .int .i64 0, .int .i64 0] 67)
  have M0 := Lib.hid ((B2.block _ (by simp; omega)).trans ((B1.block _ (by simp)).trans N0))
  have M1 := Lib.hid ((B2.block _ (by simp)).trans N1)
  have M2 := Lib.hid N2
  have HB := Lib.hid (below_next (below_next B0 B1) B2)
  rw [World.size_alloc] at M1
  rw [World.size_alloc, World.size_alloc] at M2
  clear N0 N1 N2 B0 B1 B2
  go_enter Tryd.func34, Tryd.ntmps34
  go_upto_region 1 with fail
  generalize ((w.alloc (.cells #[.int .i64 (2), .int .i64 (m), .int .i64 (b)] 67)).alloc (.cells #[.int .i64 S, .int .i64 D, .int .i64 P] 32)).alloc (.cells #[.int .i64 0, .int .i64 0, .int .i64 0] 67) = w0 at *
  have a0 := cell_of_block (o := 0) M0.out rfl
  have a1 := cell_of_block (o := 1) M0.out rfl
  have a2 := cell_of_block (o := 2) M0.out rfl
  have r0 := cell_of_block (o := 0) M1.out rfl
  have r1 := cell_of_block (o := 1) M1.out rfl
  have r2 := cell_of_block (o := 2) M1.out rfl
  have c0 := cell_of_block (o := 0) M2.out rfl
  have c1 := cell_of_block (o := 1) M2.out rfl
  have c2 := cell_of_block (o := 2) M2.out rfl
  have g0 := free_of_block 0 M0.out
  have g1 := free_of_block 1 M0.out
  have g2 := free_of_block 2 M0.out
  have f0 := free_of_block 0 M2.out
  have f1 := free_of_block 1 M2.out
  have f2 := free_of_block 2 M2.out
  go_wp2_with fail
  refine (K.out _).mono ?_
  rintro e w1 ⟨rfl, hb⟩
  clear a0 a1 a2 r0 r1 r2 c0 c1 c2 g0 g1 g2 f0 f1 f2
  replace M0 := Lib.hid ((hb.block _ (Array.getElem?_eq_some_iff.1 M0.out).1).trans M0.out)
  replace M1 := Lib.hid ((hb.block _ (Array.getElem?_eq_some_iff.1 M1.out).1).trans M1.out)
  replace M2 := Lib.hid ((hb.block _ (Array.getElem?_eq_some_iff.1 M2.out).1).trans M2.out)
  replace HB := Lib.hid (below_next HB.out hb)
  clear hb K
  have a0 := cell_of_block (o := 0) M0.out rfl
  have a1 := cell_of_block (o := 1) M0.out rfl
  have a2 := cell_of_block (o := 2) M0.out rfl
  have r0 := cell_of_block (o := 0) M1.out rfl
  have r1 := cell_of_block (o := 1) M1.out rfl
  have r2 := cell_of_block (o := 2) M1.out rfl
  have c0 := cell_of_block (o := 0) M2.out rfl
  have c1 := cell_of_block (o := 1) M2.out rfl
  have c2 := cell_of_block (o := 2) M2.out rfl
  have g0 := free_of_block 0 M0.out
  have g1 := free_of_block 1 M0.out
  have g2 := free_of_block 2 M0.out
  have f0 := free_of_block 0 M2.out
  have f1 := free_of_block 1 M2.out
  have f2 := free_of_block 2 M2.out
  go_wp2_with fail
  exact bodyPost_ret (v := .agg #[.int .i64 (2), .int .i64 (m), .int .i64 (b)]) (by simp [results, Tryd.results34, go_sem, *]) rfl ⟨rfl, (by repeat (first | exact Below.refl _ _ | assumption | refine below_drewN ?_ _ | refine Below.drew ?_ | refine below_alloc ?_ _ | refine Below.alloc ?_ (by first | omega | (simp; done) | (simp; omega)) _ | refine Below.setCell ?_ (Below.size (by assumption)) _ | refine Below.setCell ?_ (by first | omega | (simp; done) | (simp; omega)) _ | (refine Below.trans ?_ (Below.mono (by assumption) (by first | omega | (simp; done) | (simp; omega)))) | refine below_next ?_ (by assumption)))⟩
set_option maxRecDepth 100000 in
set_option maxHeartbeats 8000000 in
theorem rnx_1_3 (m b S D P : Int) (w : World) (h1 : rightR S D P = true) (h2 : rightN (3) (m) (b) S D P = true) :
    Calls Tryd.prog 34 #[.agg #[.int .i64 3, .int .i64 m, .int .i64 b], .agg #[.int .i64 S, .int .i64 D, .int .i64 P], .int .i64 1] w fun e w' => e = .returned (.agg #[.int .i64 (3), .int .i64 (m), .int .i64 (b)]) ∧ Below w.heap.size w w' := by
  have K := Lib.hid (fun W => rn8_any (3) (m) (b) S D P W)
  rw [h1, h2] at K
  clear h1 h2
  have N0 := World.alloc_heap_new w (.cells #[.int .i64 (3), .int .i64 (m), .int .i64 (b)] 67)
  have N1 := World.alloc_heap_new (w.alloc (.cells #[.int .i64 (3), .int .i64 (m), .int .i64 (b)] 67)) (.cells #[.int .i64 S, .int .i64 D, .int .i64 P] 32)
  have N2 := World.alloc_heap_new ((w.alloc (.cells #[.int .i64 (3), .int .i64 (m), .int .i64 (b)] 67)).alloc (.cells #[.int .i64 S, .int .i64 D, .int .i64 P] 32)) (.cells #[.int .i64 0, .int .i64 0, .int .i64 0] 67)
  have B0 := below_alloc (Below.refl _ w) (.cells #[.int .i64 (3), .int .i64 (m), .int .i64 (b)] 67)
  have B1 := below_alloc (Below.refl _ (w.alloc (.cells #[.int .i64 (3), .int .i64 (m), .int .i64 (b)] 67))) (.cells #[.int .i64 S, .int .i64 D, .int .i64 P] 32)
  have B2 := below_alloc (Below.refl _ ((w.alloc (.cells #[.int .i64 (3), .int .i64 (m), .int .i64 (b)] 67)).alloc (.cells #[.int .i64 S, .int .i64 D, .int .i64 P] 32))) (.cells #[.int .i64 0, .int .i64 0, .int .i64 0] 67)
  have M0 := Lib.hid ((B2.block _ (by simp; omega)).trans ((B1.block _ (by simp)).trans N0))
  have M1 := Lib.hid ((B2.block _ (by simp)).trans N1)
  have M2 := Lib.hid N2
  have HB := Lib.hid (below_next (below_next B0 B1) B2)
  rw [World.size_alloc] at M1
  rw [World.size_alloc, World.size_alloc] at M2
  clear N0 N1 N2 B0 B1 B2
  go_enter Tryd.func34, Tryd.ntmps34
  go_upto_region 1 with fail
  generalize ((w.alloc (.cells #[.int .i64 (3), .int .i64 (m), .int .i64 (b)] 67)).alloc (.cells #[.int .i64 S, .int .i64 D, .int .i64 P] 32)).alloc (.cells #[.int .i64 0, .int .i64 0, .int .i64 0] 67) = w0 at *
  have a0 := cell_of_block (o := 0) M0.out rfl
  have a1 := cell_of_block (o := 1) M0.out rfl
  have a2 := cell_of_block (o := 2) M0.out rfl
  have r0 := cell_of_block (o := 0) M1.out rfl
  have r1 := cell_of_block (o := 1) M1.out rfl
  have r2 := cell_of_block (o := 2) M1.out rfl
  have c0 := cell_of_block (o := 0) M2.out rfl
  have c1 := cell_of_block (o := 1) M2.out rfl
  have c2 := cell_of_block (o := 2) M2.out rfl
  have g0 := free_of_block 0 M0.out
  have g1 := free_of_block 1 M0.out
  have g2 := free_of_block 2 M0.out
  have f0 := free_of_block 0 M2.out
  have f1 := free_of_block 1 M2.out
  have f2 := free_of_block 2 M2.out
  go_wp2_with fail
  refine (K.out _).mono ?_
  rintro e w1 ⟨rfl, hb⟩
  clear a0 a1 a2 r0 r1 r2 c0 c1 c2 g0 g1 g2 f0 f1 f2
  replace M0 := Lib.hid ((hb.block _ (Array.getElem?_eq_some_iff.1 M0.out).1).trans M0.out)
  replace M1 := Lib.hid ((hb.block _ (Array.getElem?_eq_some_iff.1 M1.out).1).trans M1.out)
  replace M2 := Lib.hid ((hb.block _ (Array.getElem?_eq_some_iff.1 M2.out).1).trans M2.out)
  replace HB := Lib.hid (below_next HB.out hb)
  clear hb K
  have a0 := cell_of_block (o := 0) M0.out rfl
  have a1 := cell_of_block (o := 1) M0.out rfl
  have a2 := cell_of_block (o := 2) M0.out rfl
  have r0 := cell_of_block (o := 0) M1.out rfl
  have r1 := cell_of_block (o := 1) M1.out rfl
  have r2 := cell_of_block (o := 2) M1.out rfl
  have c0 := cell_of_block (o := 0) M2.out rfl
  have c1 := cell_of_block (o := 1) M2.out rfl
  have c2 := cell_of_block (o := 2) M2.out rfl
  have g0 := free_of_block 0 M0.out
  have g1 := free_of_block 1 M0.out
  have g2 := free_of_block 2 M0.out
  have f0 := free_of_block 0 M2.out
  have f1 := free_of_block 1 M2.out
  have f2 := free_of_block 2 M2.out
  go_wp2_with fail
  exact bodyPost_ret (v := .agg #[.int .i64 (3), .int .i64 (m), .int .i64 (b)]) (by simp [results, Tryd.results34, go_sem, *]) rfl ⟨rfl, (by repeat (first | exact Below.refl _ _ | assumption | refine below_drewN ?_ _ | refine Below.drew ?_ | refine below_alloc ?_ _ | refine Below.alloc ?_ (by first | omega | (simp; done) | (simp; omega)) _ | refine Below.setCell ?_ (Below.size (by assumption)) _ | refine Below.setCell ?_ (by first | omega | (simp; done) | (simp; omega)) _ | (refine Below.trans ?_ (Below.mono (by assumption) (by first | omega | (simp; done) | (simp; omega)))) | refine below_next ?_ (by assumption)))⟩
set_option maxRecDepth 100000 in
set_option maxHeartbeats 8000000 in
theorem rnx_2_yes (m b S D P : Int) (w : World) (h1 : rightR S D P = true) (h2 : rightN (2) (m) (b) S D P = true) :
    Calls Tryd.prog 34 #[.agg #[.int .i64 2, .int .i64 m, .int .i64 b], .agg #[.int .i64 S, .int .i64 D, .int .i64 P], .int .i64 2] w fun e w' => e = .returned (.agg #[.int .i64 (4), .int .i64 (0), .int .i64 (0)]) ∧ Below w.heap.size w w' := by
  have K := Lib.hid (fun W => rn8_any (2) (m) (b) S D P W)
  rw [h1, h2] at K
  clear h1 h2
  have N0 := World.alloc_heap_new w (.cells #[.int .i64 (2), .int .i64 (m), .int .i64 (b)] 67)
  have N1 := World.alloc_heap_new (w.alloc (.cells #[.int .i64 (2), .int .i64 (m), .int .i64 (b)] 67)) (.cells #[.int .i64 S, .int .i64 D, .int .i64 P] 32)
  have N2 := World.alloc_heap_new ((w.alloc (.cells #[.int .i64 (2), .int .i64 (m), .int .i64 (b)] 67)).alloc (.cells #[.int .i64 S, .int .i64 D, .int .i64 P] 32)) (.cells #[.int .i64 0, .int .i64 0, .int .i64 0] 67)
  have B0 := below_alloc (Below.refl _ w) (.cells #[.int .i64 (2), .int .i64 (m), .int .i64 (b)] 67)
  have B1 := below_alloc (Below.refl _ (w.alloc (.cells #[.int .i64 (2), .int .i64 (m), .int .i64 (b)] 67))) (.cells #[.int .i64 S, .int .i64 D, .int .i64 P] 32)
  have B2 := below_alloc (Below.refl _ ((w.alloc (.cells #[.int .i64 (2), .int .i64 (m), .int .i64 (b)] 67)).alloc (.cells #[.int .i64 S, .int .i64 D, .int .i64 P] 32))) (.cells #[.int .i64 0, .int .i64 0, .int .i64 0] 67)
  have M0 := Lib.hid ((B2.block _ (by simp; omega)).trans ((B1.block _ (by simp)).trans N0))
  have M1 := Lib.hid ((B2.block _ (by simp)).trans N1)
  have M2 := Lib.hid N2
  have HB := Lib.hid (below_next (below_next B0 B1) B2)
  rw [World.size_alloc] at M1
  rw [World.size_alloc, World.size_alloc] at M2
  clear N0 N1 N2 B0 B1 B2
  go_enter Tryd.func34, Tryd.ntmps34
  go_upto_region 1 with fail
  generalize ((w.alloc (.cells #[.int .i64 (2), .int .i64 (m), .int .i64 (b)] 67)).alloc (.cells #[.int .i64 S, .int .i64 D, .int .i64 P] 32)).alloc (.cells #[.int .i64 0, .int .i64 0, .int .i64 0] 67) = w0 at *
  have a0 := cell_of_block (o := 0) M0.out rfl
  have a1 := cell_of_block (o := 1) M0.out rfl
  have a2 := cell_of_block (o := 2) M0.out rfl
  have r0 := cell_of_block (o := 0) M1.out rfl
  have r1 := cell_of_block (o := 1) M1.out rfl
  have r2 := cell_of_block (o := 2) M1.out rfl
  have c0 := cell_of_block (o := 0) M2.out rfl
  have c1 := cell_of_block (o := 1) M2.out rfl
  have c2 := cell_of_block (o := 2) M2.out rfl
  have g0 := free_of_block 0 M0.out
  have g1 := free_of_block 1 M0.out
  have g2 := free_of_block 2 M0.out
  have f0 := free_of_block 0 M2.out
  have f1 := free_of_block 1 M2.out
  have f2 := free_of_block 2 M2.out
  go_wp2_with fail
  refine (K.out _).mono ?_
  rintro e w1 ⟨rfl, hb⟩
  clear a0 a1 a2 r0 r1 r2 c0 c1 c2 g0 g1 g2 f0 f1 f2
  replace M0 := Lib.hid ((hb.block _ (Array.getElem?_eq_some_iff.1 M0.out).1).trans M0.out)
  replace M1 := Lib.hid ((hb.block _ (Array.getElem?_eq_some_iff.1 M1.out).1).trans M1.out)
  replace M2 := Lib.hid ((hb.block _ (Array.getElem?_eq_some_iff.1 M2.out).1).trans M2.out)
  replace HB := Lib.hid (below_next HB.out hb)
  clear hb K
  have a0 := cell_of_block (o := 0) M0.out rfl
  have a1 := cell_of_block (o := 1) M0.out rfl
  have a2 := cell_of_block (o := 2) M0.out rfl
  have r0 := cell_of_block (o := 0) M1.out rfl
  have r1 := cell_of_block (o := 1) M1.out rfl
  have r2 := cell_of_block (o := 2) M1.out rfl
  have c0 := cell_of_block (o := 0) M2.out rfl
  have c1 := cell_of_block (o := 1) M2.out rfl
  have c2 := cell_of_block (o := 2) M2.out rfl
  have g0 := free_of_block 0 M0.out
  have g1 := free_of_block 1 M0.out
  have g2 := free_of_block 2 M0.out
  have f0 := free_of_block 0 M2.out
  have f1 := free_of_block 1 M2.out
  have f2 := free_of_block 2 M2.out
  go_upto_region 31 with fail
  clear a0 a1 a2 r0 r1 r2 c0 c1 c2 g0 g1 g2 f0 f1 f2
  have hw' := ((((wrote_refl M0.out).set 0 (.int .i64 (4))).set 1 (.int .i64 (0))).set 2 (.int .i64 (0)))
  replace M0 := Lib.hid (show (((w1.setCell ⟨w.heap.size, 0, none⟩ (.int .i64 (4))).setCell ⟨w.heap.size, 1, none⟩ (.int .i64 (0))).setCell ⟨w.heap.size, 2, none⟩ (.int .i64 (0))).heap[w.heap.size]? = some (.cells #[.int .i64 (4), .int .i64 (0), .int .i64 (0)] 67 (0, 0)) from hw'.there)
  replace M1 := Lib.hid ((hw'.rest _ (by omega)).trans M1.out)
  replace M2 := Lib.hid ((hw'.rest _ (by omega)).trans M2.out)
  replace HB := Lib.hid (hw'.below HB.out (Nat.le_refl _))
  clear hw'
  generalize (((w1.setCell ⟨w.heap.size, 0, none⟩ (.int .i64 (4))).setCell ⟨w.heap.size, 1, none⟩ (.int .i64 (0))).setCell ⟨w.heap.size, 2, none⟩ (.int .i64 (0))) = w2 at *
  have a0 := cell_of_block (o := 0) M0.out rfl
  have a1 := cell_of_block (o := 1) M0.out rfl
  have a2 := cell_of_block (o := 2) M0.out rfl
  have r0 := cell_of_block (o := 0) M1.out rfl
  have r1 := cell_of_block (o := 1) M1.out rfl
  have r2 := cell_of_block (o := 2) M1.out rfl
  have c0 := cell_of_block (o := 0) M2.out rfl
  have c1 := cell_of_block (o := 1) M2.out rfl
  have c2 := cell_of_block (o := 2) M2.out rfl
  have g0 := free_of_block 0 M0.out
  have g1 := free_of_block 1 M0.out
  have g2 := free_of_block 2 M0.out
  have f0 := free_of_block 0 M2.out
  have f1 := free_of_block 1 M2.out
  have f2 := free_of_block 2 M2.out
  go_wp2_with fail
  exact bodyPost_ret (v := .agg #[.int .i64 (4), .int .i64 (0), .int .i64 (0)]) (by simp [results, Tryd.results34, go_sem, *]) rfl ⟨rfl, (by repeat (first | exact Below.refl _ _ | assumption | refine below_drewN ?_ _ | refine Below.drew ?_ | refine below_alloc ?_ _ | refine Below.alloc ?_ (by first | omega | (simp; done) | (simp; omega)) _ | refine Below.setCell ?_ (Below.size (by assumption)) _ | refine Below.setCell ?_ (by first | omega | (simp; done) | (simp; omega)) _ | (refine Below.trans ?_ (Below.mono (by assumption) (by first | omega | (simp; done) | (simp; omega)))) | refine below_next ?_ (by assumption)))⟩
set_option maxRecDepth 100000 in
set_option maxHeartbeats 8000000 in
theorem rnx_2_no (t m b S D P : Int) (w : World) (h1 : rightR S D P = true) (h2 : rightN (t) (m) (b) S D P = true) (hx : t ≠ 2) :
    Calls Tryd.prog 34 #[.agg #[.int .i64 t, .int .i64 m, .int .i64 b], .agg #[.int .i64 S, .int .i64 D, .int .i64 P], .int .i64 2] w fun e w' => e = .returned (.agg #[.int .i64 (t), .int .i64 (m), .int .i64 (b)]) ∧ Below w.heap.size w w' := by
  have ht : (t == 2) = false := by rw [beq_eq_false_iff_ne]; exact hx
  clear hx
  have K := Lib.hid (fun W => rn8_any (t) (m) (b) S D P W)
  rw [h1, h2] at K
  clear h1 h2
  have N0 := World.alloc_heap_new w (.cells #[.int .i64 (t), .int .i64 (m), .int .i64 (b)] 67)
  have N1 := World.alloc_heap_new (w.alloc (.cells #[.int .i64 (t), .int .i64 (m), .int .i64 (b)] 67)) (.cells #[.int .i64 S, .int .i64 D, .int .i64 P] 32)
  have N2 := World.alloc_heap_new ((w.alloc (.cells #[.int .i64 (t), .int .i64 (m), .int .i64 (b)] 67)).alloc (.cells #[.int .i64 S, .int .i64 D, .int .i64 P] 32)) (.cells #[.int .i64 0, .int .i64 0, .int .i64 0] 67)
  have B0 := below_alloc (Below.refl _ w) (.cells #[.int .i64 (t), .int .i64 (m), .int .i64 (b)] 67)
  have B1 := below_alloc (Below.refl _ (w.alloc (.cells #[.int .i64 (t), .int .i64 (m), .int .i64 (b)] 67))) (.cells #[.int .i64 S, .int .i64 D, .int .i64 P] 32)
  have B2 := below_alloc (Below.refl _ ((w.alloc (.cells #[.int .i64 (t), .int .i64 (m), .int .i64 (b)] 67)).alloc (.cells #[.int .i64 S, .int .i64 D, .int .i64 P] 32))) (.cells #[.int .i64 0, .int .i64 0, .int .i64 0] 67)
  have M0 := Lib.hid ((B2.block _ (by simp; omega)).trans ((B1.block _ (by simp)).trans N0))
  have M1 := Lib.hid ((B2.block _ (by simp)).trans N1)
  have M2 := Lib.hid N2
  have HB := Lib.hid (below_next (below_next B0 B1) B2)
  rw [World.size_alloc] at M1
  rw [World.size_alloc, World.size_alloc] at M2
  clear N0 N1 N2 B0 B1 B2
  go_enter Tryd.func34, Tryd.ntmps34
  go_upto_region 1 with fail
  generalize ((w.alloc (.cells #[.int .i64 (t), .int .i64 (m), .int .i64 (b)] 67)).alloc (.cells #[.int .i64 S, .int .i64 D, .int .i64 P] 32)).alloc (.cells #[.int .i64 0, .int .i64 0, .int .i64 0] 67) = w0 at *
  have a0 := cell_of_block (o := 0) M0.out rfl
  have a1 := cell_of_block (o := 1) M0.out rfl
  have a2 := cell_of_block (o := 2) M0.out rfl
  have r0 := cell_of_block (o := 0) M1.out rfl
  have r1 := cell_of_block (o := 1) M1.out rfl
  have r2 := cell_of_block (o := 2) M1.out rfl
  have c0 := cell_of_block (o := 0) M2.out rfl
  have c1 := cell_of_block (o := 1) M2.out rfl
  have c2 := cell_of_block (o := 2) M2.out rfl
  have g0 := free_of_block 0 M0.out
  have g1 := free_of_block 1 M0.out
  have g2 := free_of_block 2 M0.out
  have f0 := free_of_block 0 M2.out
  have f1 := free_of_block 1 M2.out
  have f2 := free_of_block 2 M2.out
  go_wp2_with fail
  refine (K.out _).mono ?_
  rintro e w1 ⟨rfl, hb⟩
  clear a0 a1 a2 r0 r1 r2 c0 c1 c2 g0 g1 g2 f0 f1 f2
  replace M0 := Lib.hid ((hb.block _ (Array.getElem?_eq_some_iff.1 M0.out).1).trans M0.out)
  replace M1 := Lib.hid ((hb.block _ (Array.getElem?_eq_some_iff.1 M1.out).1).trans M1.out)
  replace M2 := Lib.hid ((hb.block _ (Array.getElem?_eq_some_iff.1 M2.out).1).trans M2.out)
  replace HB := Lib.hid (below_next HB.out hb)
  clear hb K
  have a0 := cell_of_block (o := 0) M0.out rfl
  have a1 := cell_of_block (o := 1) M0.out rfl
  have a2 := cell_of_block (o := 2) M0.out rfl
  have r0 := cell_of_block (o := 0) M1.out rfl
  have r1 := cell_of_block (o := 1) M1.out rfl
  have r2 := cell_of_block (o := 2) M1.out rfl
  have c0 := cell_of_block (o := 0) M2.out rfl
  have c1 := cell_of_block (o := 1) M2.out rfl
  have c2 := cell_of_block (o := 2) M2.out rfl
  have g0 := free_of_block 0 M0.out
  have g1 := free_of_block 1 M0.out
  have g2 := free_of_block 2 M0.out
  have f0 := free_of_block 0 M2.out
  have f1 := free_of_block 1 M2.out
  have f2 := free_of_block 2 M2.out
  go_wp2_with fail
  exact bodyPost_ret (v := .agg #[.int .i64 (t), .int .i64 (m), .int .i64 (b)]) (by simp [results, Tryd.results34, go_sem, *]) rfl ⟨rfl, (by repeat (first | exact Below.refl _ _ | assumption | refine below_drewN ?_ _ | refine Below.drew ?_ | refine below_alloc ?_ _ | refine Below.alloc ?_ (by first | omega | (simp; done) | (simp; omega)) _ | refine Below.setCell ?_ (Below.size (by assumption)) _ | refine Below.setCell ?_ (by first | omega | (simp; done) | (simp; omega)) _ | (refine Below.trans ?_ (Below.mono (by assumption) (by first | omega | (simp; done) | (simp; omega)))) | refine below_next ?_ (by assumption)))⟩
set_option maxRecDepth 100000 in
set_option maxHeartbeats 8000000 in
theorem rnx_3_yes (m b S D P : Int) (w : World) (h1 : rightR S D P = true) (h2 : rightN (0) (m) (b) S D P = true) :
    Calls Tryd.prog 34 #[.agg #[.int .i64 0, .int .i64 m, .int .i64 b], .agg #[.int .i64 S, .int .i64 D, .int .i64 P], .int .i64 3] w fun e w' => e = .returned (.agg #[.int .i64 (3), .int .i64 (0), .int .i64 (0)]) ∧ Below w.heap.size w w' := by
  have K := Lib.hid (fun W => rn8_any (0) (m) (b) S D P W)
  rw [h1, h2] at K
  clear h1 h2
  have N0 := World.alloc_heap_new w (.cells #[.int .i64 (0), .int .i64 (m), .int .i64 (b)] 67)
  have N1 := World.alloc_heap_new (w.alloc (.cells #[.int .i64 (0), .int .i64 (m), .int .i64 (b)] 67)) (.cells #[.int .i64 S, .int .i64 D, .int .i64 P] 32)
  have N2 := World.alloc_heap_new ((w.alloc (.cells #[.int .i64 (0), .int .i64 (m), .int .i64 (b)] 67)).alloc (.cells #[.int .i64 S, .int .i64 D, .int .i64 P] 32)) (.cells #[.int .i64 0, .int .i64 0, .int .i64 0] 67)
  have B0 := below_alloc (Below.refl _ w) (.cells #[.int .i64 (0), .int .i64 (m), .int .i64 (b)] 67)
  have B1 := below_alloc (Below.refl _ (w.alloc (.cells #[.int .i64 (0), .int .i64 (m), .int .i64 (b)] 67))) (.cells #[.int .i64 S, .int .i64 D, .int .i64 P] 32)
  have B2 := below_alloc (Below.refl _ ((w.alloc (.cells #[.int .i64 (0), .int .i64 (m), .int .i64 (b)] 67)).alloc (.cells #[.int .i64 S, .int .i64 D, .int .i64 P] 32))) (.cells #[.int .i64 0, .int .i64 0, .int .i64 0] 67)
  have M0 := Lib.hid ((B2.block _ (by simp; omega)).trans ((B1.block _ (by simp)).trans N0))
  have M1 := Lib.hid ((B2.block _ (by simp)).trans N1)
  have M2 := Lib.hid N2
  have HB := Lib.hid (below_next (below_next B0 B1) B2)
  rw [World.size_alloc] at M1
  rw [World.size_alloc, World.size_alloc] at M2
  clear N0 N1 N2 B0 B1 B2
  go_enter Tryd.func34, Tryd.ntmps34
  go_upto_region 1 with fail
  generalize ((w.alloc (.cells #[.int .i64 (0), .int .i64 (m), .int .i64 (b)] 67)).alloc (.cells #[.int .i64 S, .int .i64 D, .int .i64 P] 32)).alloc (.cells #[.int .i64 0, .int .i64 0, .int .i64 0] 67) = w0 at *
  have a0 := cell_of_block (o := 0) M0.out rfl
  have a1 := cell_of_block (o := 1) M0.out rfl
  have a2 := cell_of_block (o := 2) M0.out rfl
  have r0 := cell_of_block (o := 0) M1.out rfl
  have r1 := cell_of_block (o := 1) M1.out rfl
  have r2 := cell_of_block (o := 2) M1.out rfl
  have c0 := cell_of_block (o := 0) M2.out rfl
  have c1 := cell_of_block (o := 1) M2.out rfl
  have c2 := cell_of_block (o := 2) M2.out rfl
  have g0 := free_of_block 0 M0.out
  have g1 := free_of_block 1 M0.out
  have g2 := free_of_block 2 M0.out
  have f0 := free_of_block 0 M2.out
  have f1 := free_of_block 1 M2.out
  have f2 := free_of_block 2 M2.out
  go_wp2_with fail
  refine (K.out _).mono ?_
  rintro e w1 ⟨rfl, hb⟩
  clear a0 a1 a2 r0 r1 r2 c0 c1 c2 g0 g1 g2 f0 f1 f2
  replace M0 := Lib.hid ((hb.block _ (Array.getElem?_eq_some_iff.1 M0.out).1).trans M0.out)
  replace M1 := Lib.hid ((hb.block _ (Array.getElem?_eq_some_iff.1 M1.out).1).trans M1.out)
  replace M2 := Lib.hid ((hb.block _ (Array.getElem?_eq_some_iff.1 M2.out).1).trans M2.out)
  replace HB := Lib.hid (below_next HB.out hb)
  clear hb K
  have a0 := cell_of_block (o := 0) M0.out rfl
  have a1 := cell_of_block (o := 1) M0.out rfl
  have a2 := cell_of_block (o := 2) M0.out rfl
  have r0 := cell_of_block (o := 0) M1.out rfl
  have r1 := cell_of_block (o := 1) M1.out rfl
  have r2 := cell_of_block (o := 2) M1.out rfl
  have c0 := cell_of_block (o := 0) M2.out rfl
  have c1 := cell_of_block (o := 1) M2.out rfl
  have c2 := cell_of_block (o := 2) M2.out rfl
  have g0 := free_of_block 0 M0.out
  have g1 := free_of_block 1 M0.out
  have g2 := free_of_block 2 M0.out
  have f0 := free_of_block 0 M2.out
  have f1 := free_of_block 1 M2.out
  have f2 := free_of_block 2 M2.out
  go_upto_region 31 with fail
  clear a0 a1 a2 r0 r1 r2 c0 c1 c2 g0 g1 g2 f0 f1 f2
  have hw' := ((((wrote_refl M0.out).set 0 (.int .i64 (3))).set 1 (.int .i64 (0))).set 2 (.int .i64 (0)))
  replace M0 := Lib.hid (show (((w1.setCell ⟨w.heap.size, 0, none⟩ (.int .i64 (3))).setCell ⟨w.heap.size, 1, none⟩ (.int .i64 (0))).setCell ⟨w.heap.size, 2, none⟩ (.int .i64 (0))).heap[w.heap.size]? = some (.cells #[.int .i64 (3), .int .i64 (0), .int .i64 (0)] 67 (0, 0)) from hw'.there)
  replace M1 := Lib.hid ((hw'.rest _ (by omega)).trans M1.out)
  replace M2 := Lib.hid ((hw'.rest _ (by omega)).trans M2.out)
  replace HB := Lib.hid (hw'.below HB.out (Nat.le_refl _))
  clear hw'
  generalize (((w1.setCell ⟨w.heap.size, 0, none⟩ (.int .i64 (3))).setCell ⟨w.heap.size, 1, none⟩ (.int .i64 (0))).setCell ⟨w.heap.size, 2, none⟩ (.int .i64 (0))) = w2 at *
  have a0 := cell_of_block (o := 0) M0.out rfl
  have a1 := cell_of_block (o := 1) M0.out rfl
  have a2 := cell_of_block (o := 2) M0.out rfl
  have r0 := cell_of_block (o := 0) M1.out rfl
  have r1 := cell_of_block (o := 1) M1.out rfl
  have r2 := cell_of_block (o := 2) M1.out rfl
  have c0 := cell_of_block (o := 0) M2.out rfl
  have c1 := cell_of_block (o := 1) M2.out rfl
  have c2 := cell_of_block (o := 2) M2.out rfl
  have g0 := free_of_block 0 M0.out
  have g1 := free_of_block 1 M0.out
  have g2 := free_of_block 2 M0.out
  have f0 := free_of_block 0 M2.out
  have f1 := free_of_block 1 M2.out
  have f2 := free_of_block 2 M2.out
  go_wp2_with fail
  exact bodyPost_ret (v := .agg #[.int .i64 (3), .int .i64 (0), .int .i64 (0)]) (by simp [results, Tryd.results34, go_sem, *]) rfl ⟨rfl, (by repeat (first | exact Below.refl _ _ | assumption | refine below_drewN ?_ _ | refine Below.drew ?_ | refine below_alloc ?_ _ | refine Below.alloc ?_ (by first | omega | (simp; done) | (simp; omega)) _ | refine Below.setCell ?_ (Below.size (by assumption)) _ | refine Below.setCell ?_ (by first | omega | (simp; done) | (simp; omega)) _ | (refine Below.trans ?_ (Below.mono (by assumption) (by first | omega | (simp; done) | (simp; omega)))) | refine below_next ?_ (by assumption)))⟩
set_option maxRecDepth 100000 in
set_option maxHeartbeats 8000000 in
theorem rnx_3_no (t m b S D P : Int) (w : World) (h1 : rightR S D P = true) (h2 : rightN (t) (m) (b) S D P = true) (hx : t ≠ 0) :
    Calls Tryd.prog 34 #[.agg #[.int .i64 t, .int .i64 m, .int .i64 b], .agg #[.int .i64 S, .int .i64 D, .int .i64 P], .int .i64 3] w fun e w' => e = .returned (.agg #[.int .i64 (t), .int .i64 (m), .int .i64 (b)]) ∧ Below w.heap.size w w' := by
  have ht : (t == 0) = false := by rw [beq_eq_false_iff_ne]; exact hx
  clear hx
  have K := Lib.hid (fun W => rn8_any (t) (m) (b) S D P W)
  rw [h1, h2] at K
  clear h1 h2
  have N0 := World.alloc_heap_new w (.cells #[.int .i64 (t), .int .i64 (m), .int .i64 (b)] 67)
  have N1 := World.alloc_heap_new (w.alloc (.cells #[.int .i64 (t), .int .i64 (m), .int .i64 (b)] 67)) (.cells #[.int .i64 S, .int .i64 D, .int .i64 P] 32)
  have N2 := World.alloc_heap_new ((w.alloc (.cells #[.int .i64 (t), .int .i64 (m), .int .i64 (b)] 67)).alloc (.cells #[.int .i64 S, .int .i64 D, .int .i64 P] 32)) (.cells #[.int .i64 0, .int .i64 0, .int .i64 0] 67)
  have B0 := below_alloc (Below.refl _ w) (.cells #[.int .i64 (t), .int .i64 (m), .int .i64 (b)] 67)
  have B1 := below_alloc (Below.refl _ (w.alloc (.cells #[.int .i64 (t), .int .i64 (m), .int .i64 (b)] 67))) (.cells #[.int .i64 S, .int .i64 D, .int .i64 P] 32)
  have B2 := below_alloc (Below.refl _ ((w.alloc (.cells #[.int .i64 (t), .int .i64 (m), .int .i64 (b)] 67)).alloc (.cells #[.int .i64 S, .int .i64 D, .int .i64 P] 32))) (.cells #[.int .i64 0, .int .i64 0, .int .i64 0] 67)
  have M0 := Lib.hid ((B2.block _ (by simp; omega)).trans ((B1.block _ (by simp)).trans N0))
  have M1 := Lib.hid ((B2.block _ (by simp)).trans N1)
  have M2 := Lib.hid N2
  have HB := Lib.hid (below_next (below_next B0 B1) B2)
  rw [World.size_alloc] at M1
  rw [World.size_alloc, World.size_alloc] at M2
  clear N0 N1 N2 B0 B1 B2
  go_enter Tryd.func34, Tryd.ntmps34
  go_upto_region 1 with fail
  generalize ((w.alloc (.cells #[.int .i64 (t), .int .i64 (m), .int .i64 (b)] 67)).alloc (.cells #[.int .i64 S, .int .i64 D, .int .i64 P] 32)).alloc (.cells #[.int .i64 0, .int .i64 0, .int .i64 0] 67) = w0 at *
  have a0 := cell_of_block (o := 0) M0.out rfl
  have a1 := cell_of_block (o := 1) M0.out rfl
  have a2 := cell_of_block (o := 2) M0.out rfl
  have r0 := cell_of_block (o := 0) M1.out rfl
  have r1 := cell_of_block (o := 1) M1.out rfl
  have r2 := cell_of_block (o := 2) M1.out rfl
  have c0 := cell_of_block (o := 0) M2.out rfl
  have c1 := cell_of_block (o := 1) M2.out rfl
  have c2 := cell_of_block (o := 2) M2.out rfl
  have g0 := free_of_block 0 M0.out
  have g1 := free_of_block 1 M0.out
  have g2 := free_of_block 2 M0.out
  have f0 := free_of_block 0 M2.out
  have f1 := free_of_block 1 M2.out
  have f2 := free_of_block 2 M2.out
  go_wp2_with fail
  refine (K.out _).mono ?_
  rintro e w1 ⟨rfl, hb⟩
  clear a0 a1 a2 r0 r1 r2 c0 c1 c2 g0 g1 g2 f0 f1 f2
  replace M0 := Lib.hid ((hb.block _ (Array.getElem?_eq_some_iff.1 M0.out).1).trans M0.out)
  replace M1 := Lib.hid ((hb.block _ (Array.getElem?_eq_some_iff.1 M1.out).1).trans M1.out)
  replace M2 := Lib.hid ((hb.block _ (Array.getElem?_eq_some_iff.1 M2.out).1).trans M2.out)
  replace HB := Lib.hid (below_next HB.out hb)
  clear hb K
  have a0 := cell_of_block (o := 0) M0.out rfl
  have a1 := cell_of_block (o := 1) M0.out rfl
  have a2 := cell_of_block (o := 2) M0.out rfl
  have r0 := cell_of_block (o := 0) M1.out rfl
  have r1 := cell_of_block (o := 1) M1.out rfl
  have r2 := cell_of_block (o := 2) M1.out rfl
  have c0 := cell_of_block (o := 0) M2.out rfl
  have c1 := cell_of_block (o := 1) M2.out rfl
  have c2 := cell_of_block (o := 2) M2.out rfl
  have g0 := free_of_block 0 M0.out
  have g1 := free_of_block 1 M0.out
  have g2 := free_of_block 2 M0.out
  have f0 := free_of_block 0 M2.out
  have f1 := free_of_block 1 M2.out
  have f2 := free_of_block 2 M2.out
  go_wp2_with fail
  exact bodyPost_ret (v := .agg #[.int .i64 (t), .int .i64 (m), .int .i64 (b)]) (by simp [results, Tryd.results34, go_sem, *]) rfl ⟨rfl, (by repeat (first | exact Below.refl _ _ | assumption | refine below_drewN ?_ _ | refine Below.drew ?_ | refine below_alloc ?_ _ | refine Below.alloc ?_ (by first | omega | (simp; done) | (simp; omega)) _ | refine Below.setCell ?_ (Below.size (by assumption)) _ | refine Below.setCell ?_ (by first | omega | (simp; done) | (simp; omega)) _ | (refine Below.trans ?_ (Below.mono (by assumption) (by first | omega | (simp; done) | (simp; omega)))) | refine below_next ?_ (by assumption)))⟩
set_option maxRecDepth 100000 in
set_option maxHeartbeats 8000000 in
theorem rnx_4_yes (m b S D P : Int) (w : World) (h1 : rightR S D P = true) (h2 : rightN (3) (m) (b) S D P = true) :
    Calls Tryd.prog 34 #[.agg #[.int .i64 3, .int .i64 m, .int .i64 b], .agg #[.int .i64 S, .int .i64 D, .int .i64 P], .int .i64 4] w fun e w' => e = .returned (.agg #[.int .i64 (4), .int .i64 (0), .int .i64 (0)]) ∧ Below w.heap.size w w' := by
  have K := Lib.hid (fun W => rn8_any (3) (m) (b) S D P W)
  rw [h1, h2] at K
  clear h1 h2
  have N0 := World.alloc_heap_new w (.cells #[.int .i64 (3), .int .i64 (m), .int .i64 (b)] 67)
  have N1 := World.alloc_heap_new (w.alloc (.cells #[.int .i64 (3), .int .i64 (m), .int .i64 (b)] 67)) (.cells #[.int .i64 S, .int .i64 D, .int .i64 P] 32)
  have N2 := World.alloc_heap_new ((w.alloc (.cells #[.int .i64 (3), .int .i64 (m), .int .i64 (b)] 67)).alloc (.cells #[.int .i64 S, .int .i64 D, .int .i64 P] 32)) (.cells #[.int .i64 0, .int .i64 0, .int .i64 0] 67)
  have B0 := below_alloc (Below.refl _ w) (.cells #[.int .i64 (3), .int .i64 (m), .int .i64 (b)] 67)
  have B1 := below_alloc (Below.refl _ (w.alloc (.cells #[.int .i64 (3), .int .i64 (m), .int .i64 (b)] 67))) (.cells #[.int .i64 S, .int .i64 D, .int .i64 P] 32)
  have B2 := below_alloc (Below.refl _ ((w.alloc (.cells #[.int .i64 (3), .int .i64 (m), .int .i64 (b)] 67)).alloc (.cells #[.int .i64 S, .int .i64 D, .int .i64 P] 32))) (.cells #[.int .i64 0, .int .i64 0, .int .i64 0] 67)
  have M0 := Lib.hid ((B2.block _ (by simp; omega)).trans ((B1.block _ (by simp)).trans N0))
  have M1 := Lib.hid ((B2.block _ (by simp)).trans N1)
  have M2 := Lib.hid N2
  have HB := Lib.hid (below_next (below_next B0 B1) B2)
  rw [World.size_alloc] at M1
  rw [World.size_alloc, World.size_alloc] at M2
  clear N0 N1 N2 B0 B1 B2
  go_enter Tryd.func34, Tryd.ntmps34
  go_upto_region 1 with fail
  generalize ((w.alloc (.cells #[.int .i64 (3), .int .i64 (m), .int .i64 (b)] 67)).alloc (.cells #[.int .i64 S, .int .i64 D, .int .i64 P] 32)).alloc (.cells #[.int .i64 0, .int .i64 0, .int .i64 0] 67) = w0 at *
  have a0 := cell_of_block (o := 0) M0.out rfl
  have a1 := cell_of_block (o := 1) M0.out rfl
  have a2 := cell_of_block (o := 2) M0.out rfl
  have r0 := cell_of_block (o := 0) M1.out rfl
  have r1 := cell_of_block (o := 1) M1.out rfl
  have r2 := cell_of_block (o := 2) M1.out rfl
  have c0 := cell_of_block (o := 0) M2.out rfl
  have c1 := cell_of_block (o := 1) M2.out rfl
  have c2 := cell_of_block (o := 2) M2.out rfl
  have g0 := free_of_block 0 M0.out
  have g1 := free_of_block 1 M0.out
  have g2 := free_of_block 2 M0.out
  have f0 := free_of_block 0 M2.out
  have f1 := free_of_block 1 M2.out
  have f2 := free_of_block 2 M2.out
  go_wp2_with fail
  refine (K.out _).mono ?_
  rintro e w1 ⟨rfl, hb⟩
  clear a0 a1 a2 r0 r1 r2 c0 c1 c2 g0 g1 g2 f0 f1 f2
  replace M0 := Lib.hid ((hb.block _ (Array.getElem?_eq_some_iff.1 M0.out).1).trans M0.out)
  replace M1 := Lib.hid ((hb.block _ (Array.getElem?_eq_some_iff.1 M1.out).1).trans M1.out)
  replace M2 := Lib.hid ((hb.block _ (Array.getElem?_eq_some_iff.1 M2.out).1).trans M2.out)
  replace HB := Lib.hid (below_next HB.out hb)
  clear hb K
  have a0 := cell_of_block (o := 0) M0.out rfl
  have a1 := cell_of_block (o := 1) M0.out rfl
  have a2 := cell_of_block (o := 2) M0.out rfl
  have r0 := cell_of_block (o := 0) M1.out rfl
  have r1 := cell_of_block (o := 1) M1.out rfl
  have r2 := cell_of_block (o := 2) M1.out rfl
  have c0 := cell_of_block (o := 0) M2.out rfl
  have c1 := cell_of_block (o := 1) M2.out rfl
  have c2 := cell_of_block (o := 2) M2.out rfl
  have g0 := free_of_block 0 M0.out
  have g1 := free_of_block 1 M0.out
  have g2 := free_of_block 2 M0.out
  have f0 := free_of_block 0 M2.out
  have f1 := free_of_block 1 M2.out
  have f2 := free_of_block 2 M2.out
  go_upto_region 31 with fail
  clear a0 a1 a2 r0 r1 r2 c0 c1 c2 g0 g1 g2 f0 f1 f2
  have hw' := ((((wrote_refl M0.out).set 0 (.int .i64 (4))).set 1 (.int .i64 (0))).set 2 (.int .i64 (0)))
  replace M0 := Lib.hid (show (((w1.setCell ⟨w.heap.size, 0, none⟩ (.int .i64 (4))).setCell ⟨w.heap.size, 1, none⟩ (.int .i64 (0))).setCell ⟨w.heap.size, 2, none⟩ (.int .i64 (0))).heap[w.heap.size]? = some (.cells #[.int .i64 (4), .int .i64 (0), .int .i64 (0)] 67 (0, 0)) from hw'.there)
  replace M1 := Lib.hid ((hw'.rest _ (by omega)).trans M1.out)
  replace M2 := Lib.hid ((hw'.rest _ (by omega)).trans M2.out)
  replace HB := Lib.hid (hw'.below HB.out (Nat.le_refl _))
  clear hw'
  generalize (((w1.setCell ⟨w.heap.size, 0, none⟩ (.int .i64 (4))).setCell ⟨w.heap.size, 1, none⟩ (.int .i64 (0))).setCell ⟨w.heap.size, 2, none⟩ (.int .i64 (0))) = w2 at *
  have a0 := cell_of_block (o := 0) M0.out rfl
  have a1 := cell_of_block (o := 1) M0.out rfl
  have a2 := cell_of_block (o := 2) M0.out rfl
  have r0 := cell_of_block (o := 0) M1.out rfl
  have r1 := cell_of_block (o := 1) M1.out rfl
  have r2 := cell_of_block (o := 2) M1.out rfl
  have c0 := cell_of_block (o := 0) M2.out rfl
  have c1 := cell_of_block (o := 1) M2.out rfl
  have c2 := cell_of_block (o := 2) M2.out rfl
  have g0 := free_of_block 0 M0.out
  have g1 := free_of_block 1 M0.out
  have g2 := free_of_block 2 M0.out
  have f0 := free_of_block 0 M2.out
  have f1 := free_of_block 1 M2.out
  have f2 := free_of_block 2 M2.out
  go_wp2_with fail
  exact bodyPost_ret (v := .agg #[.int .i64 (4), .int .i64 (0), .int .i64 (0)]) (by simp [results, Tryd.results34, go_sem, *]) rfl ⟨rfl, (by repeat (first | exact Below.refl _ _ | assumption | refine below_drewN ?_ _ | refine Below.drew ?_ | refine below_alloc ?_ _ | refine Below.alloc ?_ (by first | omega | (simp; done) | (simp; omega)) _ | refine Below.setCell ?_ (Below.size (by assumption)) _ | refine Below.setCell ?_ (by first | omega | (simp; done) | (simp; omega)) _ | (refine Below.trans ?_ (Below.mono (by assumption) (by first | omega | (simp; done) | (simp; omega)))) | refine below_next ?_ (by assumption)))⟩
set_option maxRecDepth 100000 in
set_option maxHeartbeats 8000000 in
theorem rnx_4_no (t m b S D P : Int) (w : World) (h1 : rightR S D P = true) (h2 : rightN (t) (m) (b) S D P = true) (hx : t ≠ 3) :
    Calls Tryd.prog 34 #[.agg #[.int .i64 t, .int .i64 m, .int .i64 b], .agg #[.int .i64 S, .int .i64 D, .int .i64 P], .int .i64 4] w fun e w' => e = .returned (.agg #[.int .i64 (t), .int .i64 (m), .int .i64 (b)]) ∧ Below w.heap.size w w' := by
  have ht : (t == 3) = false := by rw [beq_eq_false_iff_ne]; exact hx
  clear hx
  have K := Lib.hid (fun W => rn8_any (t) (m) (b) S D P W)
  rw [h1, h2] at K
  clear h1 h2
  have N0 := World.alloc_heap_new w (.cells #[.int .i64 (t), .int .i64 (m), .int .i64 (b)] 67)
  have N1 := World.alloc_heap_new (w.alloc (.cells #[.int .i64 (t), .int .i64 (m), .int .i64 (b)] 67)) (.cells #[.int .i64 S, .int .i64 D, .int .i64 P] 32)
  have N2 := World.alloc_heap_new ((w.alloc (.cells #[.int .i64 (t), .int .i64 (m), .int .i64 (b)] 67)).alloc (.cells #[.int .i64 S, .int .i64 D, .int .i64 P] 32)) (.cells #[.int .i64 0, .int .i64 0, .int .i64 0] 67)
  have B0 := below_alloc (Below.refl _ w) (.cells #[.int .i64 (t), .int .i64 (m), .int .i64 (b)] 67)
  have B1 := below_alloc (Below.refl _ (w.alloc (.cells #[.int .i64 (t), .int .i64 (m), .int .i64 (b)] 67))) (.cells #[.int .i64 S, .int .i64 D, .int .i64 P] 32)
  have B2 := below_alloc (Below.refl _ ((w.alloc (.cells #[.int .i64 (t), .int .i64 (m), .int .i64 (b)] 67)).alloc (.cells #[.int .i64 S, .int .i64 D, .int .i64 P] 32))) (.cells #[.int .i64 0, .int .i64 0, .int .i64 0] 67)
  have M0 := Lib.hid ((B2.block _ (by simp; omega)).trans ((B1.block _ (by simp)).trans N0))
  have M1 := Lib.hid ((B2.block _ (by simp)).trans N1)
  have M2 := Lib.hid N2
  have HB := Lib.hid (below_next (below_next B0 B1) B2)
  rw [World.size_alloc] at M1
  rw [World.size_alloc, World.size_alloc] at M2
  clear N0 N1 N2 B0 B1 B2
  go_enter Tryd.func34, Tryd.ntmps34
  go_upto_region 1 with fail
  generalize ((w.alloc (.cells #[.int .i64 (t), .int .i64 (m), .int .i64 (b)] 67)).alloc (.cells #[.int .i64 S, .int .i64 D, .int .i64 P] 32)).alloc (.cells #[.int .i64 0, .int .i64 0, .int .i64 0] 67) = w0 at *
  have a0 := cell_of_block (o := 0) M0.out rfl
  have a1 := cell_of_block (o := 1) M0.out rfl
  have a2 := cell_of_block (o := 2) M0.out rfl
  have r0 := cell_of_block (o := 0) M1.out rfl
  have r1 := cell_of_block (o := 1) M1.out rfl
  have r2 := cell_of_block (o := 2) M1.out rfl
  have c0 := cell_of_block (o := 0) M2.out rfl
  have c1 := cell_of_block (o := 1) M2.out rfl
  have c2 := cell_of_block (o := 2) M2.out rfl
  have g0 := free_of_block 0 M0.out
  have g1 := free_of_block 1 M0.out
  have g2 := free_of_block 2 M0.out
  have f0 := free_of_block 0 M2.out
  have f1 := free_of_block 1 M2.out
  have f2 := free_of_block 2 M2.out
  go_wp2_with fail
  refine (K.out _).mono ?_
  rintro e w1 ⟨rfl, hb⟩
  clear a0 a1 a2 r0 r1 r2 c0 c1 c2 g0 g1 g2 f0 f1 f2
  replace M0 := Lib.hid ((hb.block _ (Array.getElem?_eq_some_iff.1 M0.out).1).trans M0.out)
  replace M1 := Lib.hid ((hb.block _ (Array.getElem?_eq_some_iff.1 M1.out).1).trans M1.out)
  replace M2 := Lib.hid ((hb.block _ (Array.getElem?_eq_some_iff.1 M2.out).1).trans M2.out)
  replace HB := Lib.hid (below_next HB.out hb)
  clear hb K
  have a0 := cell_of_block (o := 0) M0.out rfl
  have a1 := cell_of_block (o := 1) M0.out rfl
  have a2 := cell_of_block (o := 2) M0.out rfl
  have r0 := cell_of_block (o := 0) M1.out rfl
  have r1 := cell_of_block (o := 1) M1.out rfl
  have r2 := cell_of_block (o := 2) M1.out rfl
  have c0 := cell_of_block (o := 0) M2.out rfl
  have c1 := cell_of_block (o := 1) M2.out rfl
  have c2 := cell_of_block (o := 2) M2.out rfl
  have g0 := free_of_block 0 M0.out
  have g1 := free_of_block 1 M0.out
  have g2 := free_of_block 2 M0.out
  have f0 := free_of_block 0 M2.out
  have f1 := free_of_block 1 M2.out
  have f2 := free_of_block 2 M2.out
  go_wp2_with fail
  exact bodyPost_ret (v := .agg #[.int .i64 (t), .int .i64 (m), .int .i64 (b)]) (by simp [results, Tryd.results34, go_sem, *]) rfl ⟨rfl, (by repeat (first | exact Below.refl _ _ | assumption | refine below_drewN ?_ _ | refine Below.drew ?_ | refine below_alloc ?_ _ | refine Below.alloc ?_ (by first | omega | (simp; done) | (simp; omega)) _ | refine Below.setCell ?_ (Below.size (by assumption)) _ | refine Below.setCell ?_ (by first | omega | (simp; done) | (simp; omega)) _ | (refine Below.trans ?_ (Below.mono (by assumption) (by first | omega | (simp; done) | (simp; omega)))) | refine below_next ?_ (by assumption)))⟩
set_option maxRecDepth 100000 in
set_option maxHeartbeats 8000000 in
theorem rnx_other (t m b S D P k : Int) (w : World) (h1 : rightR S D P = true) (h2 : rightN (t) (m) (b) S D P = true) (hx : k < 0 ∨ 4 < k) :
    Calls Tryd.prog 34 #[.agg #[.int .i64 t, .int .i64 m, .int .i64 b], .agg #[.int .i64 S, .int .i64 D, .int .i64 P], .int .i64 k] w fun e w' => e = .returned (.agg #[.int .i64 (t), .int .i64 (m), .int .i64 (b)]) ∧ Below w.heap.size w w' := by
  have k0 : (k == 0) = false := by rw [beq_eq_false_iff_ne]; omega
  have k1 : (k == 1) = false := by rw [beq_eq_false_iff_ne]; omega
  have k2 : (k == 2) = false := by rw [beq_eq_false_iff_ne]; omega
  have k3 : (k == 3) = false := by rw [beq_eq_false_iff_ne]; omega
  have k4 : (k == 4) = false := by rw [beq_eq_false_iff_ne]; omega
  clear hx
  have K := Lib.hid (fun W => rn8_any (t) (m) (b) S D P W)
  rw [h1, h2] at K
  clear h1 h2
  have N0 := World.alloc_heap_new w (.cells #[.int .i64 (t), .int .i64 (m), .int .i64 (b)] 67)
  have N1 := World.alloc_heap_new (w.alloc (.cells #[.int .i64 (t), .int .i64 (m), .int .i64 (b)] 67)) (.cells #[.int .i64 S, .int .i64 D, .int .i64 P] 32)
  have N2 := World.alloc_heap_new ((w.alloc (.cells #[.int .i64 (t), .int .i64 (m), .int .i64 (b)] 67)).alloc (.cells #[.int .i64 S, .int .i64 D, .int .i64 P] 32)) (.cells #[.int .i64 0, .int .i64 0, .int .i64 0] 67)
  have B0 := below_alloc (Below.refl _ w) (.cells #[.int .i64 (t), .int .i64 (m), .int .i64 (b)] 67)
  have B1 := below_alloc (Below.refl _ (w.alloc (.cells #[.int .i64 (t), .int .i64 (m), .int .i64 (b)] 67))) (.cells #[.int .i64 S, .int .i64 D, .int .i64 P] 32)
  have B2 := below_alloc (Below.refl _ ((w.alloc (.cells #[.int .i64 (t), .int .i64 (m), .int .i64 (b)] 67)).alloc (.cells #[.int .i64 S, .int .i64 D, .int .i64 P] 32))) (.cells #[.int .i64 0, .int .i64 0, .int .i64 0] 67)
  have M0 := Lib.hid ((B2.block _ (by simp; omega)).trans ((B1.block _ (by simp)).trans N0))
  have M1 := Lib.hid ((B2.block _ (by simp)).trans N1)
  have M2 := Lib.hid N2
  have HB := Lib.hid (below_next (below_next B0 B1) B2)
  rw [World.size_alloc] at M1
  rw [World.size_alloc, World.size_alloc] at M2
  clear N0 N1 N2 B0 B1 B2
  go_enter Tryd.func34, Tryd.ntmps34
  go_upto_region 1 with fail
  generalize ((w.alloc (.cells #[.int .i64 (t), .int .i64 (m), .int .i64 (b)] 67)).alloc (.cells #[.int .i64 S, .int .i64 D, .int .i64 P] 32)).alloc (.cells #[.int .i64 0, .int .i64 0, .int .i64 0] 67) = w0 at *
  have a0 := cell_of_block (o := 0) M0.out rfl
  have a1 := cell_of_block (o := 1) M0.out rfl
  have a2 := cell_of_block (o := 2) M0.out rfl
  have r0 := cell_of_block (o := 0) M1.out rfl
  have r1 := cell_of_block (o := 1) M1.out rfl
  have r2 := cell_of_block (o := 2) M1.out rfl
  have c0 := cell_of_block (o := 0) M2.out rfl
  have c1 := cell_of_block (o := 1) M2.out rfl
  have c2 := cell_of_block (o := 2) M2.out rfl
  have g0 := free_of_block 0 M0.out
  have g1 := free_of_block 1 M0.out
  have g2 := free_of_block 2 M0.out
  have f0 := free_of_block 0 M2.out
  have f1 := free_of_block 1 M2.out
  have f2 := free_of_block 2 M2.out
  go_wp2_with fail
  refine (K.out _).mono ?_
  rintro e w1 ⟨rfl, hb⟩
  clear a0 a1 a2 r0 r1 r2 c0 c1 c2 g0 g1 g2 f0 f1 f2
  replace M0 := Lib.hid ((hb.block _ (Array.getElem?_eq_some_iff.1 M0.out).1).trans M0.out)
  replace M1 := Lib.hid ((hb.block _ (Array.getElem?_eq_some_iff.1 M1.out).1).trans M1.out)
  replace M2 := Lib.hid ((hb.block _ (Array.getElem?_eq_some_iff.1 M2.out).1).trans M2.out)
  replace HB := Lib.hid (below_next HB.out hb)
  clear hb K
  have a0 := cell_of_block (o := 0) M0.out rfl
  have a1 := cell_of_block (o := 1) M0.out rfl
  have a2 := cell_of_block (o := 2) M0.out rfl
  have r0 := cell_of_block (o := 0) M1.out rfl
  have r1 := cell_of_block (o := 1) M1.out rfl
  have r2 := cell_of_block (o := 2) M1.out rfl
  have c0 := cell_of_block (o := 0) M2.out rfl
  have c1 := cell_of_block (o := 1) M2.out rfl
  have c2 := cell_of_block (o := 2) M2.out rfl
  have g0 := free_of_block 0 M0.out
  have g1 := free_of_block 1 M0.out
  have g2 := free_of_block 2 M0.out
  have f0 := free_of_block 0 M2.out
  have f1 := free_of_block 1 M2.out
  have f2 := free_of_block 2 M2.out
  go_wp2_with fail
  exact bodyPost_ret (v := .agg #[.int .i64 (t), .int .i64 (m), .int .i64 (b)]) (by simp [results, Tryd.results34, go_sem, *]) rfl ⟨rfl, (by repeat (first | exact Below.refl _ _ | assumption | refine below_drewN ?_ _ | refine Below.drew ?_ | refine below_alloc ?_ _ | refine Below.alloc ?_ (by first | omega | (simp; done) | (simp; omega)) _ | refine Below.setCell ?_ (Below.size (by assumption)) _ | refine Below.setCell ?_ (by first | omega | (simp; done) | (simp; omega)) _ | (refine Below.trans ?_ (Below.mono (by assumption) (by first | omega | (simp; done) | (simp; omega)))) | refine below_next ?_ (by assumption)))⟩
set_option maxRecDepth 100000 in
set_option maxHeartbeats 8000000 in
theorem rnx_not (t m b S D P k : Int) (w : World) (h : (rightR S D P && rightN t m b S D P) = false) :
    Calls Tryd.prog 34 #[.agg #[.int .i64 t, .int .i64 m, .int .i64 b], .agg #[.int .i64 S, .int .i64 D, .int .i64 P], .int .i64 k] w fun e w' => e = .returned (.agg #[.int .i64 t, .int .i64 m, .int .i64 b]) ∧ Below w.heap.size w w' := by
  have K := Lib.hid (fun W => rn8_any t m b S D P W)
  rw [h] at K
  clear h
  have N0 := World.alloc_heap_new w (.cells #[.int .i64 (t), .int .i64 (m), .int .i64 (b)] 67)
  have N1 := World.alloc_heap_new (w.alloc (.cells #[.int .i64 (t), .int .i64 (m), .int .i64 (b)] 67)) (.cells #[.int .i64 S, .int .i64 D, .int .i64 P] 32)
  have N2 := World.alloc_heap_new ((w.alloc (.cells #[.int .i64 (t), .int .i64 (m), .int .i64 (b)] 67)).alloc (.cells #[.int .i64 S, .int .i64 D, .int .i64 P] 32)) (.cells #[.int .i64 0, .int .i64 0, .int .i64 0] 67)
  have B0 := below_alloc (Below.refl _ w) (.cells #[.int .i64 (t), .int .i64 (m), .int .i64 (b)] 67)
  have B1 := below_alloc (Below.refl _ (w.alloc (.cells #[.int .i64 (t), .int .i64 (m), .int .i64 (b)] 67))) (.cells #[.int .i64 S, .int .i64 D, .int .i64 P] 32)
  have B2 := below_alloc (Below.refl _ ((w.alloc (.cells #[.int .i64 (t), .int .i64 (m), .int .i64 (b)] 67)).alloc (.cells #[.int .i64 S, .int .i64 D, .int .i64 P] 32))) (.cells #[.int .i64 0, .int .i64 0, .int .i64 0] 67)
  have M0 := Lib.hid ((B2.block _ (by simp; omega)).trans ((B1.block _ (by simp)).trans N0))
  have M1 := Lib.hid ((B2.block _ (by simp)).trans N1)
  have M2 := Lib.hid N2
  have HB := Lib.hid (below_next (below_next B0 B1) B2)
  rw [World.size_alloc] at M1
  rw [World.size_alloc, World.size_alloc] at M2
  clear N0 N1 N2 B0 B1 B2
  go_enter Tryd.func34, Tryd.ntmps34
  go_upto_region 1 with fail
  generalize ((w.alloc (.cells #[.int .i64 (t), .int .i64 (m), .int .i64 (b)] 67)).alloc (.cells #[.int .i64 S, .int .i64 D, .int .i64 P] 32)).alloc (.cells #[.int .i64 0, .int .i64 0, .int .i64 0] 67) = w0 at *
  have a0 := cell_of_block (o := 0) M0.out rfl
  have a1 := cell_of_block (o := 1) M0.out rfl
  have a2 := cell_of_block (o := 2) M0.out rfl
  have r0 := cell_of_block (o := 0) M1.out rfl
  have r1 := cell_of_block (o := 1) M1.out rfl
  have r2 := cell_of_block (o := 2) M1.out rfl
  have c0 := cell_of_block (o := 0) M2.out rfl
  have c1 := cell_of_block (o := 1) M2.out rfl
  have c2 := cell_of_block (o := 2) M2.out rfl
  have g0 := free_of_block 0 M0.out
  have g1 := free_of_block 1 M0.out
  have g2 := free_of_block 2 M0.out
  have f0 := free_of_block 0 M2.out
  have f1 := free_of_block 1 M2.out
  have f2 := free_of_block 2 M2.out
  go_wp2_with fail
  refine (K.out _).mono ?_
  rintro e w1 ⟨rfl, hb⟩
  clear a0 a1 a2 r0 r1 r2 c0 c1 c2 g0 g1 g2 f0 f1 f2
  replace M0 := Lib.hid ((hb.block _ (Array.getElem?_eq_some_iff.1 M0.out).1).trans M0.out)
  replace M1 := Lib.hid ((hb.block _ (Array.getElem?_eq_some_iff.1 M1.out).1).trans M1.out)
  replace M2 := Lib.hid ((hb.block _ (Array.getElem?_eq_some_iff.1 M2.out).1).trans M2.out)
  replace HB := Lib.hid (below_next HB.out hb)
  clear hb K
  have a0 := cell_of_block (o := 0) M0.out rfl
  have a1 := cell_of_block (o := 1) M0.out rfl
  have a2 := cell_of_block (o := 2) M0.out rfl
  have r0 := cell_of_block (o := 0) M1.out rfl
  have r1 := cell_of_block (o := 1) M1.out rfl
  have r2 := cell_of_block (o := 2) M1.out rfl
  have c0 := cell_of_block (o := 0) M2.out rfl
  have c1 := cell_of_block (o := 1) M2.out rfl
  have c2 := cell_of_block (o := 2) M2.out rfl
  have g0 := free_of_block 0 M0.out
  have g1 := free_of_block 1 M0.out
  have g2 := free_of_block 2 M0.out
  have f0 := free_of_block 0 M2.out
  have f1 := free_of_block 1 M2.out
  have f2 := free_of_block 2 M2.out
  go_wp2_with fail
  exact bodyPost_ret (v := .agg #[.int .i64 (t), .int .i64 (m), .int .i64 (b)]) (by simp [results, Tryd.results34, go_sem, *]) rfl ⟨rfl, (by repeat (first | exact Below.refl _ _ | assumption | refine below_drewN ?_ _ | refine Below.drew ?_ | refine below_alloc ?_ _ | refine Below.alloc ?_ (by first | omega | (simp; done) | (simp; omega)) _ | refine Below.setCell ?_ (Below.size (by assumption)) _ | refine Below.setCell ?_ (by first | omega | (simp; done) | (simp; omega)) _ | (refine Below.trans ?_ (Below.mono (by assumption) (by first | omega | (simp; done) | (simp; omega)))) | refine below_next ?_ (by assumption)))⟩
theorem rnx_any (t m b S D P k : Int) (w : World) :
    Calls Tryd.prog 34 #[.agg #[.int .i64 t, .int .i64 m, .int .i64 b], .agg #[.int .i64 S, .int .i64 D, .int .i64 P], .int .i64 k] w fun e w' => e = .returned (aggN (nextI t m b S D P k)) ∧ Below w.heap.size w w' := by
  unfold nextI
  by_cases h : rightR S D P = true ∧ rightN t m b S D P = true
  case neg =>
    rw [if_neg h]
    refine rnx_not t m b S D P k w ?_
    cases h1 : rightR S D P <;> cases h2 : rightN t m b S D P <;> simp_all
  rw [if_pos h]
  obtain ⟨h1, h2⟩ := h
  have hn := h2
  unfold rightN at hn
  rw [decide_eq_true_eq] at hn
  have ht : t = 0 ∨ t = 1 ∨ t = 2 ∨ t = 3 ∨ t = 4 := by omega
  by_cases k0 : k = 0
  · subst k0
    rw [if_pos rfl]
    rcases ht with rfl | rfl | rfl | rfl | rfl
    · exact rnx_0_0 m b S D P w h1 h2
    · unfold beatI
      rw [if_neg (by decide), if_pos (by decide)]
      by_cases hx : b + 1 = P
      · rw [if_pos hx]; exact rnx_0_1_yes m b S D P w h1 h2 hx
      · rw [if_neg hx]; exact rnx_0_1_no m b S D P w h1 h2 hx
    · exact rnx_0_2 m b S D P w h1 h2
    · exact rnx_0_3 m b S D P w h1 h2
    · unfold beatI
      rw [if_neg (by decide), if_pos (by decide)]
      by_cases hx : b + 1 = P
      · rw [if_pos hx]; exact rnx_0_4_yes m b S D P w h1 h2 hx
      · rw [if_neg hx]; exact rnx_0_4_no m b S D P w h1 h2 hx
  rw [if_neg k0]
  by_cases k1 : k = 1
  · subst k1
    rw [if_pos rfl]
    rcases ht with rfl | rfl | rfl | rfl | rfl
    · obtain rfl : b = 0 := by omega
      unfold missI
      rw [if_pos rfl]
      by_cases hx : m + 1 = S
      · rw [if_pos hx]; exact rnx_1_0_yes m 0 S D P w h1 h2 hx
      · rw [if_neg hx]; exact rnx_1_0_no m 0 S D P w h1 h2 hx
    · unfold missI
      rw [if_neg (by decide), if_pos rfl]
      by_cases hx : m + 1 = D
      · rw [if_pos hx]; exact rnx_1_1_yes m b S D P w h1 h2 hx
      · rw [if_neg hx]; exact rnx_1_1_no m b S D P w h1 h2 hx
    · exact rnx_1_2 m b S D P w h1 h2
    · exact rnx_1_3 m b S D P w h1 h2
    · exact rnx_1_4 m b S D P w h1 h2
  rw [if_neg k1]
  by_cases k2 : k = 2
  · subst k2
    rw [if_pos rfl]
    unfold fromI
    by_cases hx : t = 2
    · subst hx; rw [if_pos rfl]; exact rnx_2_yes m b S D P w h1 h2
    · rw [if_neg hx]; exact rnx_2_no t m b S D P w h1 h2 hx
  rw [if_neg k2]
  by_cases k3 : k = 3
  · subst k3
    rw [if_pos rfl]
    unfold fromI
    by_cases hx : t = 0
    · subst hx; rw [if_pos rfl]; exact rnx_3_yes m b S D P w h1 h2
    · rw [if_neg hx]; exact rnx_3_no t m b S D P w h1 h2 hx
  rw [if_neg k3]
  by_cases k4 : k = 4
  · subst k4
    rw [if_pos rfl]
    unfold fromI
    by_cases hx : t = 3
    · subst hx; rw [if_pos rfl]; exact rnx_4_yes m b S D P w h1 h2
    · rw [if_neg hx]; exact rnx_4_no t m b S D P w h1 h2 hx
  rw [if_neg k4]
  exact rnx_other t m b S D P k w h1 h2 (by omega)
end Go.Proofs.YtnofgffkfapodaaDoor
