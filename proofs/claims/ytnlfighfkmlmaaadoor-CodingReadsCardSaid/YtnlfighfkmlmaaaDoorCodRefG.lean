/- The document's answers of layer 2: lists of numbers. No condition but the numbers' bounds. -/
import Derived.Test.YtnlfighfkmlmaaaDoorCodRefE
namespace Go.Proofs.YtnlfighfkmlmaaaDoor
set_option linter.unusedVariables false
open Go.ChangeShapes Go.WideShapes Go.ChangeAt Go.RowKit Go.Lib
attribute [local go_sem ↓] Go.wp_at_zero Go.wp_at_succ comesTo_value_eq comesTo_skip_eq comesTo_enter_eq

theorem wpList_world {ops : Array Oper} {Q : Exit → Act → World → Prop} {l : List Oper} {a : Act} {w W : World} (h : w = W) (hw : wpList Tryd.prog ops Q l a W) : wpList Tryd.prog ops Q l a w := by subst h; exact hw
/-- in the midst of the reading of numbers -/
structure RIAt (w : World) (q B : Nat) (st1 st' : CS) (acc : List Int) (v' : Value) (wr : World) : Prop where
  len : st'.bad = 0 → acc.length + st'.xs.length ≤ st1.xs.length
  byt : ∀ x ∈ st'.xs, 0 ≤ x ∧ x ≤ 255
  fit : st'.xs.length ≤ 1099511627775
  d : wr.heap[q]? = some (.cells #[.string (strOfNums st'.xs), .int .i64 st'.bad] 36 (0, 0))
  res : wr.heap[w.heap.size + 1]? = some (.cells #[.string ⟨#[]⟩, .int .i64 0] 36 (0, 0))
  own : OwnL wr B v' acc
  bel : Below w.heap.size w wr
  ge : B ≤ wr.heap.size
set_option maxRecDepth 100000 in
set_option maxHeartbeats 8000000 in
theorem rints_any (st : CS) (hx : ∀ x ∈ st.xs, 0 ≤ x ∧ x ≤ 255) (hl : st.xs.length ≤ 1099511627775) {most : Int} (hmo : most ≤ 9223372036854775807) (w : World) :
    Calls Tryd.prog 27 #[.agg #[.string (strOfNums st.xs), .int .i64 st.bad], .int .i64 most] w fun e w' => ∃ u, e = .returned (.tuple #[.agg #[.string (strOfNums (intsF st most).1.xs), .int .i64 (intsF st most).1.bad], u]) ∧ OwnL w' w.heap.size u (intsF st most).2 ∧ Below w.heap.size w w' := by
  have hmx : Tryd.prog.follows .mixedOrders = true := by kernel_rfl
  have ki := fun W => rsmall_any st hx (by omega) most W
  have hbd := smallF_bad (st := st) (most := most)
  have hin0 : 0 ≤ (smallF st most).2 := by unfold smallF; split <;> omega
  have hin1 : (smallF st most).2 ≤ 9223372036854775807 := by
    unfold smallF
    split
    · omega
    · exact (intF_in (st := st) hx).2
  have hsf := smallF_suffix st most
  unfold intsF
  generalize smallF st most = p at *
  obtain ⟨st1, v⟩ := p
  simp only at *
  obtain ⟨n, rfl⟩ : ∃ n : Nat, v = (n : Int) := ⟨v.toNat, by omega⟩
  rw [show ((n : Int)).toNat = n from rfl]
  have hx1 := mem_suffix hsf hx
  have hl1 : st1.xs.length ≤ 1099511627775 := Nat.le_trans hsf.length_le hl
  have KI := Lib.hid ki
  generalize hR : (if (readN n st1).1.bad = 0 then readN n st1 else ((readN n st1).1, [])) = R
  have HR := Lib.hid hR
  generalize strOfNums st.xs = S at *
  generalize st.bad = bd at *
  have hA := below_alloc (below_alloc (Below.refl _ w) (.cells #[.string S, .int .i64 bd] 36)) (.cells #[.string ⟨#[]⟩, .int .i64 0] 36)
  have hN2 := World.alloc_heap_new (w.alloc (.cells #[.string S, .int .i64 bd] 36)) (.cells #[.string ⟨#[]⟩, .int .i64 0] 36)
  rw [show (w.alloc (.cells #[.string S, .int .i64 bd] 36)).heap.size = w.heap.size + 1 by simp] at hN2
  have hlt1 : w.heap.size + 1 < ((w.alloc (.cells #[.string S, .int .i64 bd] 36)).alloc (.cells #[.string ⟨#[]⟩, .int .i64 0] 36)).heap.size := by simp
  have HA := Lib.hid hA
  have HN2 := Lib.hid hN2
  have HLT := Lib.hid hlt1
  have HX1 := Lib.hid hx1
  have HL1 := Lib.hid hl1
  clear ki hx hl hA hN2 hlt1 hbd hin0 hmo hsf hx1 hl1 hR
  go_enter Tryd.func27, Tryd.ntmps27
  go_wp2_with fail
  generalize (w.alloc (.cells #[.string S, .int .i64 bd] 36)).alloc (.cells #[.string ⟨#[]⟩, .int .i64 0] 36) = W1 at *
  refine (KI.out W1).mono ?_
  rintro e w2 ⟨rfl, hb⟩
  have g2 := (hb.block _ HLT.out).trans HN2.out
  have hlt2 : w.heap.size + 1 < w2.heap.size := Nat.lt_of_lt_of_le HLT.out hb.size
  have HB := Lib.hid (below_next HA.out hb)
  have HG2 := Lib.hid g2
  have HLT2 := Lib.hid hlt2
  clear hb g2 hlt2 KI
  go_wp2_with fail
  generalize hS1 : strOfNums st1.xs = S1 at *
  have HW := Lib.hid (show RIAt w w2.heap.size (w2.heap.size + 1) st1 st1 [] (.slice none 0 0) (w2.alloc (.cells #[.string S1, .int .i64 st1.bad] 36)) from
    ⟨fun _ => by simp, HX1.out, HL1.out, by rw [hS1]; exact World.alloc_heap_new w2 _, (Below.heap_alloc _ _ _ HLT2.out).trans HG2.out, OwnL.nil, HB.out.alloc HB.out.size _, by simp⟩)
  have HQ := Lib.hid (show w.heap.size + 1 < w2.heap.size ∧ w2.heap.size < w2.heap.size + 1 from ⟨HLT2.out, Nat.lt_succ_self _⟩)
  generalize w2.alloc (.cells #[.string S1, .int .i64 st1.bad] 36) = W3 at *
  generalize w2.heap.size + 1 = B at *
  generalize w2.heap.size = q at *
  clear HLT2 HG2 HB hS1
  go_loopw [8, 9] (fun l i wr => ∃ (k : Nat) (st' : CS) (acc : List Int) (v' : Value), k ≤ n ∧ i = .int .i64 k ∧ l = v' ∧ readN n st1 = ((readN (n - k) st').1, acc ++ (readN (n - k) st').2) ∧ RIAt w q B st1 st' acc v' wr) (fun _ i _ => n - (intOf i).toNat)
  case atStart => exact ⟨0, st1, [], _, Nat.zero_le _, rfl, rfl, rfl, HW.out⟩
  case round =>
    clear HW
    obtain ⟨k, st', acc, v', hk, rfl, rfl, hrd, hat⟩ := hrel
    have HAT := Lib.hid hat
    have HRD := Lib.hid hrd
    have c0 := cell_of_block (o := 0) hat.d rfl
    have c1 := cell_of_block (o := 1) hat.d rfl
    clear hrd
    by_cases hlt : k < n
    · have hd1 : decide ((k : Int) < (n : Int)) = true := decide_eq_true (by omega)
      by_cases hb0 : st'.bad = 0
      · have kr := rint_any st' hat.byt (by have := hat.fit; omega) wr
        unfold RC at kr
        have hqs : q < wr.heap.size := (Array.getElem?_eq_some_iff.1 hat.d).1
        obtain ⟨st2, x, hp⟩ : ∃ st2 x, intF st' = (st2, x) := ⟨_, _, rfl⟩
        rw [hp] at kr
        simp only at kr
        rw [hb0] at c1 kr
        have HP := Lib.hid hp
        have KR := Lib.hid kr
        have HB0 := Lib.hid hb0
        generalize hS2 : strOfNums st'.xs = S2 at *
        have HS2 := Lib.hid hS2
        clear hp kr hb0 hat hS2
        go_wp2_with fail
        refine KR.out.mono ?_
        rintro e w3 ⟨rfl, hb3⟩
        have g6 := (hb3.block _ hqs).trans HAT.out.d
        rw [show strOfNums st'.xs = S2 from HS2.out, HB0.out] at g6
        have f0 := free_of_block 0 g6
        have f1 := free_of_block 1 g6
        have y0 := cell_of_block (o := 0) g6 rfl
        have y1 := cell_of_block (o := 1) g6 rfl
        have hqs3 : q < w3.heap.size := Nat.lt_of_lt_of_le hqs hb3.size
        have hw := ((wrote_refl g6).set 0 (.string (strOfNums st2.xs))).set 1 (.int .i64 st2.bad)
        have hfr : Fr (fun j => j = q) w3 ((w3.setCell ⟨q, 0, none⟩ (.string (strOfNums st2.xs))).setCell ⟨q, 1, none⟩ (.int .i64 st2.bad)) := ⟨hw.os, hw.tape, hw.output, Nat.le_of_eq hw.size.symm, fun j _ hj => hw.rest j hj⟩
        have hO := (HAT.out.own.below hb3).fr hfr (fun j hj he => by have := HQ.out; omega)
        have hsz := hw.size
        have hbw : Below w.heap.size w ((w3.setCell ⟨q, 0, none⟩ (.string (strOfNums st2.xs))).setCell ⟨q, 1, none⟩ (.int .i64 st2.bad)) :=
          ((below_next HAT.out.bel hb3).setCell (p := ⟨q, 0, none⟩) (by show w.heap.size ≤ q; have := HQ.out; omega) _).setCell (p := ⟨q, 1, none⟩) (by show w.heap.size ≤ q; have := HQ.out; omega) _
        have hdq := hw.there
        have hrs := (hw.rest (w.heap.size + 1) (by have := HQ.out; omega)).trans ((hb3.block _ (by have := HQ.out; omega)).trans HAT.out.res)
        obtain ⟨Wq, hWq⟩ : ∃ Wq, (w3.setCell ⟨q, 0, none⟩ (.string (strOfNums st2.xs))).setCell ⟨q, 1, none⟩ (.int .i64 st2.bad) = Wq := ⟨_, rfl⟩
        rw [hWq] at hO hsz hbw hdq hrs
        have hA1 := below_alloc (below_alloc (Below.refl _ Wq) (.cells #[.string (strOfNums st2.xs), .int .i64 st2.bad] 36)) (.cells #[.int .i64 x] 2)
        have hN := World.alloc_heap_new (Wq.alloc (.cells #[.string (strOfNums st2.xs), .int .i64 st2.bad] 36)) (.cells #[.int .i64 x] 2)
        rw [show (Wq.alloc (.cells #[.string (strOfNums st2.xs), .int .i64 st2.bad] 36)).heap.size = w3.heap.size + 1 by simp [hsz]] at hN
        have h9 : acc.length + 1 ≤ 1099511627776 := by have := HAT.out.len HB0.out; have := HL1.out; omega
        obtain ⟨W5, hW5⟩ : ∃ W5, (Wq.alloc (.cells #[.string (strOfNums st2.xs), .int .i64 st2.bad] 36)).alloc (.cells #[.int .i64 x] 2) = W5 := ⟨_, rfl⟩
        rw [hW5] at hA1 hN
        have hBs : B ≤ W5.heap.size := Nat.le_trans (Nat.le_trans HAT.out.ge (Nat.le_trans hb3.size (Nat.le_of_eq hsz.symm))) hA1.size
        have HO := Lib.hid (hO.below hA1)
        have HCX := Lib.hid (cell_of_block (o := 0) hN rfl)
        have HD5 := Lib.hid ((hA1.block q (by rw [hsz]; exact hqs3)).trans hdq)
        have HR5 := Lib.hid ((hA1.block (w.heap.size + 1) (by rw [hsz]; have := HQ.out; omega)).trans hrs)
        have HB5 := Lib.hid (below_next hbw hA1)
        have HWE := Lib.hid (And.intro hWq hW5)
        clear hb3 g6 hw hfr hO hsz hbw hdq hrs hA1 hN hWq hW5
        go_wp2_with (at_builtin; (refine wpList_world (W := W5) (by rw [← HWE.out.2, ← HWE.out.1]) ?_); go_loud (refine wpList_append_intL 23 Tryd.underlying23 (by rfl) _ _ (by rfl) B u8 acc (by rfl) HO.out (w3.heap.size + 1) 1 x (by rfl) HCX.out h9 hBs ?_; intro v6 w6 o6 b6; have O6 := Lib.hid o6; have B6 := Lib.hid b6; clear o6 b6))
        go_roundw
        case rel =>
          have hl2 : st2.bad = 0 → st2.xs.length < st'.xs.length := fun h => by
            have := intF_less HB0.out (by rw [HP.out]; exact h)
            rwa [HP.out] at this
          have hsx : st2.xs <:+ st'.xs := by have := intF_suffix st'; rwa [HP.out] at this
          refine ⟨k + 1, st2, acc ++ [x], _, by omega, by go_num, rfl, ?_, fun h => ?_, mem_suffix hsx HAT.out.byt, Nat.le_trans hsx.length_le HAT.out.fit, (B6.out.block _ HQ.out.2).trans HD5.out, (B6.out.block _ (by have := HQ.out; omega)).trans HR5.out, O6.out, HB5.out.trans (B6.out.mono (by have := HQ.out; omega)), Nat.le_trans hBs B6.out.size⟩
          · rw [HRD.out, show n - k = n - (k + 1) + 1 by omega, readN_succ, if_pos HB0.out, HP.out]
            simp
          · have h1 := hl2 h
            have h2 := HAT.out.len HB0.out
            simp only [List.length_append, List.length_cons, List.length_nil]
            omega
        case measure => simp [intOf]; omega
      · have hne : (st'.bad == 0) = false := by rw [beq_eq_false_iff_ne]; exact hb0
        have hne2 : (st'.bad != 0) = true := by simp [hb0]
        have HB0 := Lib.hid hb0
        clear hb0
        have g4 := HAT.out.res
        have s0 := cell_of_block (o := 0) g4 rfl
        have s1 := cell_of_block (o := 1) g4 rfl
        have t0 := free_of_block 0 g4
        have t1 := free_of_block 1 g4
        have G4 := Lib.hid g4
        generalize hS3 : strOfNums st'.xs = S3 at *
        have HS3 := Lib.hid hS3
        clear hat g4 hS3
        go_wp2
        have hw := ((wrote_refl G4.out).set 0 (.string S3)).set 1 (.int .i64 st'.bad)
        have hfr : Fr (fun j => j = w.heap.size + 1) wr ((wr.setCell ⟨w.heap.size + 1, 0, none⟩ (.string S3)).setCell ⟨w.heap.size + 1, 1, none⟩ (.int .i64 st'.bad)) := ⟨hw.os, hw.tape, hw.output, Nat.le_of_eq hw.size.symm, fun j _ hj => hw.rest j hj⟩
        refine bodyPost_ret (v := .tuple #[.agg #[.string S3, .int .i64 st'.bad], .slice none 0 0]) (res_cell_tmp Tryd.results27 rfl rfl (rc_load hw.there)) rfl ?_
        have hR := HR.out
        rw [HRD.out, readN_bad HB0.out] at hR
        dsimp only at hR
        rw [if_neg HB0.out] at hR
        subst hR
        dsimp only
        rw [HS3.out]
        exact ⟨_, rfl, OwnL.nil, hfr.below (B := w.heap.size) HAT.out.bel.size (fun j hj => by subst hj; exact Nat.le_succ _) |> fun h => HAT.out.bel.trans h⟩
    · have hd1 : decide ((k : Int) < (n : Int)) = false := decide_eq_false (by omega)
      obtain rfl : k = n := by omega
      rw [Nat.sub_self] at HRD
      clear hlt
      by_cases hb0 : st'.bad = 0
      · rw [hb0] at c1
        have HB0 := Lib.hid hb0
        clear hb0
        have g4 := HAT.out.res
        have s0 := cell_of_block (o := 0) g4 rfl
        have s1 := cell_of_block (o := 1) g4 rfl
        have t0 := free_of_block 0 g4
        have t1 := free_of_block 1 g4
        have G4 := Lib.hid g4
        generalize hS3 : strOfNums st'.xs = S3 at *
        have HS3 := Lib.hid hS3
        clear hat g4 hS3
        go_wp2
        have hw := ((wrote_refl G4.out).set 0 (.string S3)).set 1 (.int .i64 0)
        have hfr : Fr (fun j => j = w.heap.size + 1) wr ((wr.setCell ⟨w.heap.size + 1, 0, none⟩ (.string S3)).setCell ⟨w.heap.size + 1, 1, none⟩ (.int .i64 0)) := ⟨hw.os, hw.tape, hw.output, Nat.le_of_eq hw.size.symm, fun j _ hj => hw.rest j hj⟩
        refine bodyPost_ret (v := .tuple #[.agg #[.string S3, .int .i64 0], u8]) (res_cell_tmp Tryd.results27 rfl rfl (rc_load hw.there)) rfl ?_
        have hR := HR.out
        rw [HRD.out, show readN 0 st' = (st', []) from rfl] at hR
        dsimp only at hR
        rw [if_pos HB0.out, List.append_nil] at hR
        subst hR
        dsimp only
        rw [HS3.out]
        exact ⟨_, by rw [HB0.out], ((HAT.out.own.fr hfr (fun j hj he => by have := HQ.out; omega)).mono (by have := HQ.out; omega)), hfr.below (B := w.heap.size) HAT.out.bel.size (fun j hj => by subst hj; exact Nat.le_succ _) |> fun h => HAT.out.bel.trans h⟩
      · have hne : (st'.bad == 0) = false := by rw [beq_eq_false_iff_ne]; exact hb0
        have hne2 : (st'.bad != 0) = true := by simp [hb0]
        have HB0 := Lib.hid hb0
        clear hb0
        have g4 := HAT.out.res
        have s0 := cell_of_block (o := 0) g4 rfl
        have s1 := cell_of_block (o := 1) g4 rfl
        have t0 := free_of_block 0 g4
        have t1 := free_of_block 1 g4
        have G4 := Lib.hid g4
        generalize hS3 : strOfNums st'.xs = S3 at *
        have HS3 := Lib.hid hS3
        clear hat g4 hS3
        go_wp2
        have hw := ((wrote_refl G4.out).set 0 (.string S3)).set 1 (.int .i64 st'.bad)
        have hfr : Fr (fun j => j = w.heap.size + 1) wr ((wr.setCell ⟨w.heap.size + 1, 0, none⟩ (.string S3)).setCell ⟨w.heap.size + 1, 1, none⟩ (.int .i64 st'.bad)) := ⟨hw.os, hw.tape, hw.output, Nat.le_of_eq hw.size.symm, fun j _ hj => hw.rest j hj⟩
        refine bodyPost_ret (v := .tuple #[.agg #[.string S3, .int .i64 st'.bad], .slice none 0 0]) (res_cell_tmp Tryd.results27 rfl rfl (rc_load hw.there)) rfl ?_
        have hR := HR.out
        rw [HRD.out, show readN 0 st' = (st', []) from rfl] at hR
        dsimp only at hR
        rw [if_neg HB0.out] at hR
        subst hR
        dsimp only
        rw [HS3.out]
        exact ⟨_, rfl, OwnL.nil, hfr.below (B := w.heap.size) HAT.out.bel.size (fun j hj => by subst hj; exact Nat.le_succ _) |> fun h => HAT.out.bel.trans h⟩
end Go.Proofs.YtnlfighfkmlmaaaDoor
