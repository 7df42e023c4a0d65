/- The document's answers of layer 2: small numbers, texts, the end. No condition but the numbers' bounds. -/
import Derived.Test.YtnlfighfkmlmaaaDoorCodRefC
namespace Go.Proofs.YtnlfighfkmlmaaaDoor
set_option linter.unusedVariables false
open Go.ChangeShapes Go.WideShapes Go.ChangeAt Go.RowKit Go.Lib
attribute [local go_sem ↓] Go.wp_at_zero Go.wp_at_succ comesTo_value_eq comesTo_skip_eq comesTo_enter_eq

theorem intF_suffix (st : CS) : (intF st).1.xs <:+ st.xs := by
  unfold intF
  split
  · exact scan_suffix _ _ _
  · exact List.suffix_refl _
theorem mem_suffix {xs ys : List Int} (h : xs <:+ ys) (hy : ∀ x ∈ ys, 0 ≤ x ∧ x ≤ 255) : ∀ x ∈ xs, 0 ≤ x ∧ x ≤ 255 := fun x hx => hy x (h.subset hx)
theorem smallF_ref {st st1 : CS} {v most : Int} (h : intF st = (st1, v)) : smallF st most = if st1.bad ≠ 0 then (st1, 0) else if v < 0 ∨ most < v then (⟨[], 2⟩, 0) else (st1, v) := by
  have hb := intF_bad st
  unfold smallF
  rw [h] at hb ⊢
  simp only at hb ⊢
  by_cases h0 : st1.bad = 0
  · rw [if_neg (show ¬ st1.bad ≠ 0 from fun h => h h0)]
    unfold failF
    rw [if_pos h0]
  · rw [if_pos h0]
    rcases hb with hb | ⟨rfl, _⟩
    · exact absurd hb h0
    · unfold failF
      rw [if_neg h0]
      split <;> rfl
theorem smallF_suffix (st : CS) (most : Int) : (smallF st most).1.xs <:+ st.xs := by
  have h := intF_suffix st
  unfold smallF failF
  split
  · split
    · exact List.nil_suffix
    · exact h
  · exact h
set_option maxRecDepth 100000 in
set_option maxHeartbeats 4000000 in
theorem rsmall_any (st : CS) (hx : ∀ x ∈ st.xs, 0 ≤ x ∧ x ≤ 255) (hl : st.xs.length ≤ 1099511627776) (most : Int) (w : World) :
    Calls Tryd.prog 23 #[.agg #[.string (strOfNums st.xs), .int .i64 st.bad], .int .i64 most] w fun e w' => e = .returned (.tuple #[.agg #[.string (strOfNums (smallF st most).1.xs), .int .i64 (smallF st most).1.bad], .int .i64 (smallF st most).2]) ∧ Below w.heap.size w w' := by
  have ki := fun W => rint_any st hx hl W
  unfold RC at ki
  obtain ⟨st1, v, hp⟩ : ∃ st1 v, intF st = (st1, v) := ⟨_, _, rfl⟩
  have hin := intF_in (st := st) hx
  rw [smallF_ref hp]
  rw [hp] at ki hin
  simp only at ki hin
  have hwv : IntKind.i64.wrap v = v := IntWalk.i64_in _ hin
  have KI := Lib.hid ki
  have KW := Lib.hid (fun (e : Int) (S : ByteArray) (b : Int) (W : World) => rwrong_any S b e W)
  generalize strOfNums st.xs = S at *
  generalize st.bad = bd at *
  generalize hS1 : strOfNums st1.xs = S1 at *
  have HS1 := Lib.hid hS1
  have hA := below_alloc (below_alloc (Below.refl _ w) (.cells #[.string S, .int .i64 bd] 36)) (.cells #[.string ⟨#[]⟩, .int .i64 0] 36)
  have hN2 := World.alloc_heap_new (w.alloc (.cells #[.string S, .int .i64 bd] 36)) (.cells #[.string ⟨#[]⟩, .int .i64 0] 36)
  rw [show (w.alloc (.cells #[.string S, .int .i64 bd] 36)).heap.size = w.heap.size + 1 by simp] at hN2
  have hlt1 : w.heap.size + 1 < ((w.alloc (.cells #[.string S, .int .i64 bd] 36)).alloc (.cells #[.string ⟨#[]⟩, .int .i64 0] 36)).heap.size := by simp
  have HA := Lib.hid hA
  have HN2 := Lib.hid hN2
  have HLT := Lib.hid hlt1
  clear ki hp hx hl hin hS1 hA hN2 hlt1
  by_cases h0 : st1.bad = 0
  · rw [if_neg (show ¬ st1.bad ≠ 0 from fun h => h h0)]
    have hq : (st1.bad != 0) = false := by simp [h0]
    clear h0
    rcases (by omega : v < 0 ∨ ¬ v < 0 ∧ most < v ∨ ¬ v < 0 ∧ ¬ most < v) with h1 | ⟨h1, h2⟩ | ⟨h1, h2⟩
    · rw [if_pos (Or.inl h1)]
      have hd1 : decide (v < 0) = true := decide_eq_true h1
      go_enter Tryd.func23, Tryd.ntmps23
      go_wp2_with fail
      generalize (w.alloc (.cells #[.string S, .int .i64 bd] 36)).alloc (.cells #[.string ⟨#[]⟩, .int .i64 0] 36) = W1 at *
      refine (KI.out W1).mono ?_
      rintro e w2 ⟨rfl, hb⟩
      have g2 := (hb.block _ HLT.out).trans HN2.out
      have hlt2 : w.heap.size + 1 < w2.heap.size := Nat.lt_of_lt_of_le HLT.out hb.size
      have s0 := cell_of_block (o := 0) g2 rfl
      have s1 := cell_of_block (o := 1) g2 rfl
      have t0 := free_of_block 0 g2
      have t1 := free_of_block 1 g2
      have G2 := Lib.hid g2
      have HB := Lib.hid (below_next HA.out hb)
      clear hb g2
      go_wp2_with fail
      refine (KW.out 2 S1 st1.bad _).mono ?_
      rintro e w5 ⟨rfl, hb5⟩
      have g3 := (Below.heap_alloc w2 (.cells #[.string S1, .int .i64 st1.bad] 36) _ hlt2).trans G2.out
      have hlt5 : w.heap.size + 1 < (w2.alloc (.cells #[.string S1, .int .i64 st1.bad] 36)).heap.size := by simp; omega
      have g5 := (hb5.block _ hlt5).trans g3
      have hb6 := (HB.out.alloc HB.out.size (.cells #[.string S1, .int .i64 st1.bad] 36)).trans (hb5.mono (Nat.le_trans HB.out.size (by simp)))
      have HB6 := Lib.hid hb6
      have p0 := cell_of_block (o := 0) g5 rfl
      have p1 := cell_of_block (o := 1) g5 rfl
      have z0 := free_of_block 0 g5
      have z1 := free_of_block 1 g5
      have G5 := Lib.hid g5
      clear hb5 g3 hlt5 g5 hb6 HB
      go_wp2
      refine bodyPost_ret (v := .tuple #[.agg #[.string ⟨#[]⟩, .int .i64 2], .int .i64 0]) (res_cell_tmp Tryd.results23 rfl rfl (rc_load (((wrote_refl G5.out).set 0 (.string ⟨#[]⟩)).set 1 (.int .i64 2)).there)) rfl ?_
      exact ⟨rfl, (by repeat (first | exact Below.refl _ _ | assumption | refine below_drewN ?_ _ | refine Below.drew ?_ | refine below_alloc ?_ _ | refine Below.alloc ?_ (by first | omega | (simp; done) | (simp; omega)) _ | refine Below.setCell ?_ (Below.size (by assumption)) _ | refine Below.setCell ?_ (by first | omega | (simp; done) | (simp; omega)) _ | (refine Below.trans ?_ (Below.mono (by assumption) (by first | omega | (simp; done) | (simp; omega)))) | refine below_next ?_ (by assumption)))⟩
    · rw [if_pos (Or.inr h2)]
      have hd1 : decide (v < 0) = false := decide_eq_false h1
      have hd2 : decide (v > most) = true := decide_eq_true h2
      go_enter Tryd.func23, Tryd.ntmps23
      go_wp2_with fail
      generalize (w.alloc (.cells #[.string S, .int .i64 bd] 36)).alloc (.cells #[.string ⟨#[]⟩, .int .i64 0] 36) = W1 at *
      refine (KI.out W1).mono ?_
      rintro e w2 ⟨rfl, hb⟩
      have g2 := (hb.block _ HLT.out).trans HN2.out
      have hlt2 : w.heap.size + 1 < w2.heap.size := Nat.lt_of_lt_of_le HLT.out hb.size
      have s0 := cell_of_block (o := 0) g2 rfl
      have s1 := cell_of_block (o := 1) g2 rfl
      have t0 := free_of_block 0 g2
      have t1 := free_of_block 1 g2
      have G2 := Lib.hid g2
      have HB := Lib.hid (below_next HA.out hb)
      clear hb g2
      go_wp2_with fail
      refine (KW.out 2 S1 st1.bad _).mono ?_
      rintro e w5 ⟨rfl, hb5⟩
      have g3 := (Below.heap_alloc w2 (.cells #[.string S1, .int .i64 st1.bad] 36) _ hlt2).trans G2.out
      have hlt5 : w.heap.size + 1 < (w2.alloc (.cells #[.string S1, .int .i64 st1.bad] 36)).heap.size := by simp; omega
      have g5 := (hb5.block _ hlt5).trans g3
      have hb6 := (HB.out.alloc HB.out.size (.cells #[.string S1, .int .i64 st1.bad] 36)).trans (hb5.mono (Nat.le_trans HB.out.size (by simp)))
      have HB6 := Lib.hid hb6
      have p0 := cell_of_block (o := 0) g5 rfl
      have p1 := cell_of_block (o := 1) g5 rfl
      have z0 := free_of_block 0 g5
      have z1 := free_of_block 1 g5
      have G5 := Lib.hid g5
      clear hb5 g3 hlt5 g5 hb6 HB
      go_wp2
      refine bodyPost_ret (v := .tuple #[.agg #[.string ⟨#[]⟩, .int .i64 2], .int .i64 0]) (res_cell_tmp Tryd.results23 rfl rfl (rc_load (((wrote_refl G5.out).set 0 (.string ⟨#[]⟩)).set 1 (.int .i64 2)).there)) rfl ?_
      exact ⟨rfl, (by repeat (first | exact Below.refl _ _ | assumption | refine below_drewN ?_ _ | refine Below.drew ?_ | refine below_alloc ?_ _ | refine Below.alloc ?_ (by first | omega | (simp; done) | (simp; omega)) _ | refine Below.setCell ?_ (Below.size (by assumption)) _ | refine Below.setCell ?_ (by first | omega | (simp; done) | (simp; omega)) _ | (refine Below.trans ?_ (Below.mono (by assumption) (by first | omega | (simp; done) | (simp; omega)))) | refine below_next ?_ (by assumption)))⟩
    · rw [if_neg (by omega)]
      have hd1 : decide (v < 0) = false := decide_eq_false h1
      have hd2 : decide (v > most) = false := decide_eq_false h2
      go_enter Tryd.func23, Tryd.ntmps23
      go_wp2_with fail
      generalize (w.alloc (.cells #[.string S, .int .i64 bd] 36)).alloc (.cells #[.string ⟨#[]⟩, .int .i64 0] 36) = W1 at *
      refine (KI.out W1).mono ?_
      rintro e w2 ⟨rfl, hb⟩
      have g2 := (hb.block _ HLT.out).trans HN2.out
      have hlt2 : w.heap.size + 1 < w2.heap.size := Nat.lt_of_lt_of_le HLT.out hb.size
      have s0 := cell_of_block (o := 0) g2 rfl
      have s1 := cell_of_block (o := 1) g2 rfl
      have t0 := free_of_block 0 g2
      have t1 := free_of_block 1 g2
      have G2 := Lib.hid g2
      have HB := Lib.hid (below_next HA.out hb)
      clear hb g2
      have g3 := (Below.heap_alloc w2 (.cells #[.string S1, .int .i64 st1.bad] 36) _ hlt2).trans G2.out
      go_wp2
      refine bodyPost_ret (v := .tuple #[.agg #[.string S1, .int .i64 st1.bad], .int .i64 v]) (res_cell_tmp Tryd.results23 rfl rfl (rc_load ((Below.heap_alloc _ _ _ (by simp [World.setCell]; omega)).trans (((wrote_refl G2.out).set 0 (.string S1)).set 1 (.int .i64 st1.bad)).there))) rfl ?_
      rw [HS1.out]
      exact ⟨rfl, (by repeat (first | exact Below.refl _ _ | assumption | refine below_drewN ?_ _ | refine Below.drew ?_ | refine below_alloc ?_ _ | refine Below.alloc ?_ (by first | omega | (simp; done) | (simp; omega)) _ | refine Below.setCell ?_ (Below.size (by assumption)) _ | refine Below.setCell ?_ (by first | omega | (simp; done) | (simp; omega)) _ | (refine Below.trans ?_ (Below.mono (by assumption) (by first | omega | (simp; done) | (simp; omega)))) | refine below_next ?_ (by assumption)))⟩
  · rw [if_pos h0]
    have hq : (st1.bad != 0) = true := by simp [h0]
    clear h0
    go_enter Tryd.func23, Tryd.ntmps23
    go_wp2_with fail
    generalize (w.alloc (.cells #[.string S, .int .i64 bd] 36)).alloc (.cells #[.string ⟨#[]⟩, .int .i64 0] 36) = W1 at *
    refine (KI.out W1).mono ?_
    rintro e w2 ⟨rfl, hb⟩
    have g2 := (hb.block _ HLT.out).trans HN2.out
    have hlt2 : w.heap.size + 1 < w2.heap.size := Nat.lt_of_lt_of_le HLT.out hb.size
    have s0 := cell_of_block (o := 0) g2 rfl
    have s1 := cell_of_block (o := 1) g2 rfl
    have t0 := free_of_block 0 g2
    have t1 := free_of_block 1 g2
    have G2 := Lib.hid g2
    have HB := Lib.hid (below_next HA.out hb)
    clear hb g2
    have g3 := (Below.heap_alloc w2 (.cells #[.string S1, .int .i64 st1.bad] 36) _ hlt2).trans G2.out
    go_wp2
    refine bodyPost_ret (v := .tuple #[.agg #[.string S1, .int .i64 st1.bad], .int .i64 0]) (res_cell_tmp Tryd.results23 rfl rfl (rc_load ((Below.heap_alloc _ _ _ (by simp [World.setCell]; omega)).trans (((wrote_refl G2.out).set 0 (.string S1)).set 1 (.int .i64 st1.bad)).there))) rfl ?_
    rw [HS1.out]
    exact ⟨rfl, (by repeat (first | exact Below.refl _ _ | assumption | refine below_drewN ?_ _ | refine Below.drew ?_ | refine below_alloc ?_ _ | refine Below.alloc ?_ (by first | omega | (simp; done) | (simp; omega)) _ | refine Below.setCell ?_ (Below.size (by assumption)) _ | refine Below.setCell ?_ (by first | omega | (simp; done) | (simp; omega)) _ | (refine Below.trans ?_ (Below.mono (by assumption) (by first | omega | (simp; done) | (simp; omega)))) | refine below_next ?_ (by assumption)))⟩
end Go.Proofs.YtnlfighfkmlmaaaDoor
