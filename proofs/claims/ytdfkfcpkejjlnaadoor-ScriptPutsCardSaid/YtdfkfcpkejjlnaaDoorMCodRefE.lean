/- The document's answers of layer 2: texts, the end. No condition but the numbers' bounds. -/
import Derived.Test.YtdfkfcpkejjlnaaDoorMad
import Derived.Test.YtdfkfcpkejjlnaaDoorMag
namespace Go.Proofs.YtdfkfcpkejjlnaaDoor
set_option linter.unusedVariables false
open Go.ChangeShapes Go.WideShapes Go.ChangeAt Go.RowKit Go.Lib
attribute [local go_sem ↓] Go.wp_at_zero Go.wp_at_succ comesTo_value_eq comesTo_skip_eq comesTo_enter_eq

theorem textF_ref {st st1 : CS} {n : Nat} (h : smallF st 65536 = (st1, (n : Int))) : textF st = if st1.bad ≠ 0 then (st1, []) else if st1.xs.length < n then (⟨[], 10⟩, []) else (⟨st1.xs.drop n, 0⟩, st1.xs.take n) := by
  have hb := smallF_bad (st := st) (most := 65536)
  unfold textF
  rw [h] at hb ⊢
  simp only at hb ⊢
  by_cases h0 : st1.bad = 0
  · rw [if_neg (show ¬ st1.bad ≠ 0 from fun h => h h0)]
    unfold failF
    rw [if_pos h0, h0]
    by_cases h1 : st1.xs.length < n
    · rw [if_pos h1, if_pos (by omega)]
    · rw [if_neg h1, if_neg (by omega)]
      simp
  · rw [if_pos h0]
    have hn : n = 0 := by have := hb h0; omega
    subst hn
    rw [if_neg (by omega)]
    simp
theorem rend_any (st : CS) (w : World) :
    Calls Tryd.prog 56 #[.agg #[.string (strOfNums st.xs), .int .i64 st.bad]] w fun e w' => e = .returned (.int .i64 (endF st)) ∧ Below w.heap.size w w' := by
  have hA := below_alloc (Below.refl _ w) (.cells #[.string (strOfNums st.xs), .int .i64 st.bad] 71)
  have hl : (strOfNums st.xs).toList = st.xs.map fun n => UInt8.ofNat n.toNat := by rw [ByteArray.toList_eq]; rfl
  unfold endF
  obtain ⟨xs, bd⟩ := st
  simp only at *
  by_cases h0 : bd = 0
  · subst h0
    cases xs with
    | nil =>
      rw [if_neg (by simp)]
      go_enter Tryd.func56, Tryd.ntmps56
      go_wp2
      go_ret
      exact ⟨rfl, hA⟩
    | cons x xs =>
      rw [if_pos (by simp)]
      have hq : ((strOfNums (x :: xs)).toList == []) = false := by rw [hl]; rfl
      generalize strOfNums (x :: xs) = S at *
      clear hl
      go_enter Tryd.func56, Tryd.ntmps56
      go_wp2
      go_ret
      exact ⟨rfl, hA⟩
  · rw [if_neg (by omega)]
    have hq : (bd == 0) = false := by rw [beq_eq_false_iff_ne]; exact h0
    clear hl
    go_enter Tryd.func56, Tryd.ntmps56
    go_wp2
    go_ret
    exact ⟨rfl, hA⟩
set_option maxRecDepth 100000 in
set_option maxHeartbeats 4000000 in
theorem rtext_any (st : CS) (hx : ∀ x ∈ st.xs, 0 ≤ x ∧ x ≤ 255) (hl : st.xs.length ≤ 1099511627776) (w : World) :
    Calls Tryd.prog 37 #[.agg #[.string (strOfNums st.xs), .int .i64 st.bad]] w fun e w' => e = .returned (.tuple #[.agg #[.string (strOfNums (textF st).1.xs), .int .i64 (textF st).1.bad], .string (strOfNums (textF st).2)]) ∧ Below w.heap.size w w' := by
  have hmx : Tryd.prog.follows .mixedOrders = true := by kernel_rfl
  have ki := fun W => rsmall_any st hx hl 65536 W
  have hin := smallF_in (st := st) (most := 65536) (by decide)
  obtain ⟨st1, v, hp⟩ : ∃ st1 v, smallF st 65536 = (st1, v) := ⟨_, _, rfl⟩
  rw [hp] at ki hin
  simp only at ki hin
  obtain ⟨n, rfl⟩ : ∃ n : Nat, v = (n : Int) := ⟨v.toNat, by omega⟩
  rw [textF_ref hp]
  have KI := Lib.hid ki
  have KW := Lib.hid (fun (e : Int) (S : ByteArray) (b : Int) (W : World) => rwrong_any S b e W)
  generalize strOfNums st.xs = S at *
  generalize st.bad = bd at *
  have hsz := size_str st1.xs
  have hxt := str_extract st1.xs
  generalize hS1 : strOfNums st1.xs = S1 at *
  have HS1 := Lib.hid hS1
  have hA := below_alloc (below_alloc (Below.refl _ w) (.cells #[.string S, .int .i64 bd] 71)) (.cells #[.string ⟨#[]⟩, .int .i64 0] 71)
  have hN2 := World.alloc_heap_new (w.alloc (.cells #[.string S, .int .i64 bd] 71)) (.cells #[.string ⟨#[]⟩, .int .i64 0] 71)
  rw [show (w.alloc (.cells #[.string S, .int .i64 bd] 71)).heap.size = w.heap.size + 1 by simp] at hN2
  have hlt1 : w.heap.size + 1 < ((w.alloc (.cells #[.string S, .int .i64 bd] 71)).alloc (.cells #[.string ⟨#[]⟩, .int .i64 0] 71)).heap.size := by simp
  have HA := Lib.hid hA
  have HN2 := Lib.hid hN2
  have HLT := Lib.hid hlt1
  have HX := Lib.hid hxt
  obtain ⟨m, hm⟩ : ∃ m, st1.xs.length = m := ⟨_, rfl⟩
  rw [hm] at hsz ⊢
  have HM := Lib.hid hm
  clear ki hp hx hl hS1 hA hN2 hlt1 hxt hm
  by_cases h0 : st1.bad = 0
  · rw [if_neg (show ¬ st1.bad ≠ 0 from fun h => h h0)]
    have hq : (st1.bad != 0) = false := by simp [h0]
    clear h0
    by_cases h1 : m < n
    · rw [if_pos h1]
      have hd1 : decide ((n : Int) > (m : Int)) = true := decide_eq_true (by omega)
      go_enter Tryd.func37, Tryd.ntmps37
      go_wp2_with fail
      generalize (w.alloc (.cells #[.string S, .int .i64 bd] 71)).alloc (.cells #[.string ⟨#[]⟩, .int .i64 0] 71) = W1 at *
      refine (KI.out W1).mono ?_
      rintro e w2 ⟨rfl, hb⟩
      have g2 := (hb.block _ HLT.out).trans HN2.out
      have hlt2 : w.heap.size + 1 < w2.heap.size := Nat.lt_of_lt_of_le HLT.out hb.size
      have s0 := cell_of_block (o := 0) g2 rfl
      have s1 := cell_of_block (o := 1) g2 rfl
      have t0 := free_of_block 0 g2
      have t1 := free_of_block 1 g2
      have G2 := Lib.hid g2
      have HB := Lib.hid (below_next HA.out hb)
      clear hb g2
      go_wp2_with fail
      refine (KW.out 10 S1 st1.bad _).mono ?_
      rintro e w5 ⟨rfl, hb5⟩
      have g3 := (Below.heap_alloc w2 (.cells #[.string S1, .int .i64 st1.bad] 71) _ hlt2).trans G2.out
      have hlt5 : w.heap.size + 1 < (w2.alloc (.cells #[.string S1, .int .i64 st1.bad] 71)).heap.size := by simp; omega
      have g5 := (hb5.block _ hlt5).trans g3
      have hb6 := (HB.out.alloc HB.out.size (.cells #[.string S1, .int .i64 st1.bad] 71)).trans (hb5.mono (Nat.le_trans HB.out.size (by simp)))
      have HB6 := Lib.hid hb6
      have p0 := cell_of_block (o := 0) g5 rfl
      have p1 := cell_of_block (o := 1) g5 rfl
      have z0 := free_of_block 0 g5
      have z1 := free_of_block 1 g5
      have G5 := Lib.hid g5
      clear hb5 g3 hlt5 g5 hb6 HB
      go_wp2
      refine bodyPost_ret (v := .tuple #[.agg #[.string ⟨#[]⟩, .int .i64 10], .string ⟨#[]⟩]) (res_cell_tmp Tryd.results37 rfl rfl (rc_load (((wrote_refl G5.out).set 0 (.string ⟨#[]⟩)).set 1 (.int .i64 10)).there)) rfl ?_
      exact ⟨rfl, (by repeat (first | exact Below.refl _ _ | assumption | refine below_drewN ?_ _ | refine Below.drew ?_ | refine below_alloc ?_ _ | refine Below.alloc ?_ (by first | omega | (simp; done) | (simp; omega)) _ | refine Below.setCell ?_ (Below.size (by assumption)) _ | refine Below.setCell ?_ (by first | omega | (simp; done) | (simp; omega)) _ | (refine Below.trans ?_ (Below.mono (by assumption) (by first | omega | (simp; done) | (simp; omega)))) | refine below_next ?_ (by assumption)))⟩
    · rw [if_neg h1]
      have hd1 : decide ((n : Int) > (m : Int)) = false := decide_eq_false (by omega)
      have hp1 : (n : Int) ≤ (m : Int) := by omega
      have hp0 : (0 : Int) ≤ (n : Int) := by omega
      have hx1 : S1.extract n m = strOfNums (st1.xs.drop n) := by rw [HX.out, List.take_of_length_le (by have := HM.out; simp; omega)]
      have hx2 : S1.extract 0 n = strOfNums (st1.xs.take n) := by rw [HX.out]; simp
      go_enter Tryd.func37, Tryd.ntmps37
      go_wp2_with fail
      generalize (w.alloc (.cells #[.string S, .int .i64 bd] 71)).alloc (.cells #[.string ⟨#[]⟩, .int .i64 0] 71) = W1 at *
      refine (KI.out W1).mono ?_
      rintro e w2 ⟨rfl, hb⟩
      have g2 := (hb.block _ HLT.out).trans HN2.out
      have hlt2 : w.heap.size + 1 < w2.heap.size := Nat.lt_of_lt_of_le HLT.out hb.size
      have s0 := cell_of_block (o := 0) g2 rfl
      have s1 := cell_of_block (o := 1) g2 rfl
      have t0 := free_of_block 0 g2
      have t1 := free_of_block 1 g2
      have G2 := Lib.hid g2
      have HB := Lib.hid (below_next HA.out hb)
      clear hb g2
      go_wp2_with fail
      have g3 := (Below.heap_alloc w2 (.cells #[.string S1, .int .i64 st1.bad] 71) _ hlt2).trans G2.out
      have g4 := World.alloc_heap_new w2 (.cells #[.string S1, .int .i64 st1.bad] 71)
      have hb6 := HB.out.alloc HB.out.size (.cells #[.string S1, .int .i64 st1.bad] 71)
      generalize w2.alloc (.cells #[.string S1, .int .i64 st1.bad] 71) = w3 at *
      have HB6 := Lib.hid hb6
      have y0 : w3.drew.cell? ⟨w2.heap.size, 0, none⟩ = some (.string S1) := cell_of_block (o := 0) g4 rfl
      have g3' : w3.drew.heap[w.heap.size + 1]? = some (.cells #[.string ⟨#[]⟩, .int .i64 0] 71 (0, 0)) := g3
      have p0 := cell_of_block (o := 0) g3' rfl
      have p1 := cell_of_block (o := 1) g3' rfl
      have z0 := free_of_block 0 g3'
      have z1 := free_of_block 1 g3'
      have G5 := Lib.hid g3'
      have k0 := cell_of_block (o := 0) g3 rfl
      have k1 := cell_of_block (o := 1) g3 rfl
      have k2 := free_of_block 0 g3
      have k3 := free_of_block 1 g3
      clear g3 g4 hb6 g3' HB
      have hw9 := ((wrote_refl G5.out).set 0 (.string (strOfNums (st1.xs.drop n)))).set 1 (.int .i64 0)
      have hb9 := ((HB6.out.drew.setCell (p := ⟨w.heap.size + 1, 0, none⟩) (Nat.le_succ _) (.string (strOfNums (st1.xs.drop n)))).setCell (p := ⟨w.heap.size + 1, 1, none⟩) (Nat.le_succ _) (.int .i64 0))
      have y9 : ((w3.drew.setCell ⟨w.heap.size + 1, 0, none⟩ (.string (strOfNums (st1.xs.drop n)))).setCell ⟨w.heap.size + 1, 1, none⟩ (.int .i64 0)).cell? ⟨w2.heap.size, 0, none⟩ = some (.string S1) := by
        rw [World.cell?_setCell_other _ _ _ _ (by intro e; have := congrArg Addr.block e; simp at this; omega), World.cell?_setCell_other _ _ _ _ (by intro e; have := congrArg Addr.block e; simp at this; omega)]
        exact y0
      obtain ⟨W9, hW9⟩ : ∃ W9, (w3.drew.setCell ⟨w.heap.size + 1, 0, none⟩ (.string (strOfNums (st1.xs.drop n)))).setCell ⟨w.heap.size + 1, 1, none⟩ (.int .i64 0) = W9 := ⟨_, rfl⟩
      rw [hW9] at hw9 hb9 y9
      have HW9 := Lib.hid hW9
      have H9 := Lib.hid hw9.there
      have HB9 := Lib.hid hb9
      clear hW9 hw9 hb9
      refine (wpIn_wide (n := 0)).1 ?_
      refine wpIn_region_twoA WideF.wide 9 (fun b w' => w' = bif b then W9 else w3.drew) hmx (by kernel_rfl) (by kernel_rfl) (by decide) rfl ?_
      iterate 9 (refine textT2_run ?_ (by decide) ?_ (fun p W hS => ?_) ?_; rotate_left; (focus go_simp); (focus (cases p <;> (simp only [cond_true, cond_false] at hS; subst hS; go_simp; all_goals (first | exact ⟨rfl, rfl⟩ | rfl | (refine ⟨?_, rfl⟩; rfl))))); (try go_simp))
      refine textT2_call undef rfl ?_ (fun W hS => ?_) ?_
      · go_simp
      · simp only [cond_false] at hS
        subst hS
        go_simp
        exact HW9.out
      (try go_simp)
      (refine textT2_run ?_ (by decide) ?_ (fun p W hS => ?_) ?_; rotate_left; (focus go_simp); (focus (cases p <;> (simp only [cond_true, cond_false] at hS; subst hS; go_simp; all_goals (first | exact ⟨rfl, rfl⟩ | rfl | (refine ⟨?_, rfl⟩; rfl))))); (try go_simp))
      refine textT2_nil ?_
      go_wp2
      refine bodyPost_ret (v := .tuple #[.agg #[.string (strOfNums (st1.xs.drop n)), .int .i64 0], .string (strOfNums (st1.xs.take n))]) (res_cell_tmp Tryd.results37 rfl rfl (rc_load H9.out)) rfl ?_
      exact ⟨rfl, HB9.out⟩
  · rw [if_pos h0]
    have hq : (st1.bad != 0) = true := by simp [h0]
    clear h0
    go_enter Tryd.func37, Tryd.ntmps37
    go_wp2_with fail
    generalize (w.alloc (.cells #[.string S, .int .i64 bd] 71)).alloc (.cells #[.string ⟨#[]⟩, .int .i64 0] 71) = W1 at *
    refine (KI.out W1).mono ?_
    rintro e w2 ⟨rfl, hb⟩
    have g2 := (hb.block _ HLT.out).trans HN2.out
    have hlt2 : w.heap.size + 1 < w2.heap.size := Nat.lt_of_lt_of_le HLT.out hb.size
    have s0 := cell_of_block (o := 0) g2 rfl
    have s1 := cell_of_block (o := 1) g2 rfl
    have t0 := free_of_block 0 g2
    have t1 := free_of_block 1 g2
    have G2 := Lib.hid g2
    have HB := Lib.hid (below_next HA.out hb)
    clear hb g2
    go_wp2
    refine bodyPost_ret (v := .tuple #[.agg #[.string S1, .int .i64 st1.bad], .string ⟨#[]⟩]) (res_cell_tmp Tryd.results37 rfl rfl (rc_load ((Below.heap_alloc _ _ _ (by simp [World.setCell]; omega)).trans (((wrote_refl G2.out).set 0 (.string S1)).set 1 (.int .i64 st1.bad)).there))) rfl ?_
    rw [HS1.out]
    exact ⟨rfl, (by repeat (first | exact Below.refl _ _ | assumption | refine below_drewN ?_ _ | refine Below.drew ?_ | refine below_alloc ?_ _ | refine Below.alloc ?_ (by first | omega | (simp; done) | (simp; omega)) _ | refine Below.setCell ?_ (Below.size (by assumption)) _ | refine Below.setCell ?_ (by first | omega | (simp; done) | (simp; omega)) _ | (refine Below.trans ?_ (Below.mono (by assumption) (by first | omega | (simp; done) | (simp; omega)))) | refine below_next ?_ (by assumption)))⟩
end Go.Proofs.YtdfkfcpkejjlnaaDoor
