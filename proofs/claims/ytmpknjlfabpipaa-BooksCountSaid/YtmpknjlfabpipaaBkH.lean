/- A user's factor (layer 14). No condition on nobody's; on books that were made: their numbers are within their bounds. -/
import Derived.Test.YtmpknjlfabpipaaBkG
import Derived.OneCell
namespace Go.Proofs.Ytmpknjlfabpipaa
set_option linter.unusedVariables false
open Go.ChangeShapes Go.WideShapes Go.ChangeAt Go.RowKit Bk
attribute [local go_sem ↓] Go.wp_at_zero Go.wp_at_succ comesTo_value_eq comesTo_skip_eq comesTo_enter_eq Rl.comesToR_value_eq Rl.comesToR_skip_eq Rl.comesToR_enter_eq

/-- a line's share -/
def shrL (l : LV) : Int × Int := (l.getD 7 0, l.getD 8 0)
section
variable {ops : Array Oper} {rest : List Oper} {o : Oper} {a : Act} {w : World} {Q : Exit → Act → World → Prop}
/-- APPEND of one share; just the row may have turned -/
theorem wpList_append_shareG (hgd : o.guard = none) (s x : Operand)
    (ho : o.op = .call { callee := .builtin .append, args := #[s, x], argTypes := #[63, 63] })
    (B : Nat) (v : Value) (l : List (Int × Int)) (hs : a.eval s = v) (hown : OwnH w B v l) (g c : Nat) (p : Int × Int) (hx : a.eval x = .slice (some ⟨g, 0, none⟩) 1 c)
    (c0 : w.cell? ⟨g, 0, none⟩ = some (.int .i64 p.1)) (c1 : w.cell? ⟨g, 1, none⟩ = some (.int .i64 p.2)) (h63 : l.length + 1 ≤ 1099511627776) (hB : B ≤ w.heap.size)
    (h' : ∀ (ad : Option Addr) (n c : Nat) (w' : World), OwnH w' B (.slice ad n c) (l ++ [p]) → w.grownBy w' v.ownBlock → wpList Try.prog ops Q rest (a.put o.dst (.slice ad n c)) w') : wpList Try.prog ops Q (o :: rest) a w := by
  have h : ∀ v' w', OwnH w' B v' (l ++ [p]) → w.grownBy w' v.ownBlock → wpList Try.prog ops Q rest (a.put o.dst v') w' := fun v' w' h1 h2 => by
    rcases h1.2 with ⟨e, _⟩ | ⟨g, cap, cur, e, _⟩
    · subst e; exact h' none 0 0 w' h1 h2
    · subst e; exact h' _ _ cap w' h1 h2
  obtain ⟨i0, hi, hz0, hz1, hz2⟩ := info_parts info_share
  refine wpList_append_own _ hgd s x 63 ho B 31 i0 (.agg #[.int .i64 0, .int .i64 0]) 2 16 Try.underlying63 hi hz0 hz1 hz2 rfl (by decide) v l.length (flatH l) hs hown
      ⟨g, 0, none⟩ 1 c (flatH [p]) hx rfl (fun j u hj => ?_) (fun u hu => ?_) (by unfold maxLen; omega) (by omega) hB (fun v' w' h1 h2 _ => ?_)
  · match j, hj with
    | 0, hj => simp [flatH] at hj; subst hj; simpa [Addr.add] using c0
    | 1, hj => simp [flatH] at hj; subst hj; simpa [Addr.add] using c1
    | j + 2, hj => simp [flatH] at hj
  · simp [flatH] at hu
    rcases hu with rfl | rfl <;> rfl
  · exact h v' w' (by unfold OwnH; rw [List.length_append, flatH_append]; exact h1) h2
end
theorem OwnH.blk {w : World} {B : Nat} {v : Value} {l : List (Int × Int)} (h : OwnH w B v l) {g : Nat} (hg : v.ownBlock = some g) : B ≤ g ∧ ∃ cs, w.heap[g]? = some (.cells cs 31 (0, 0)) := by
  rcases h.2 with ⟨rfl, _⟩ | ⟨g', cap, cur, rfl, hB, hh, _⟩
  · cases hg
  · simp only [Value.ownBlock, Option.some.injEq] at hg
    subst hg
    exact ⟨hB, _, hh⟩
/-- just the box q and shares in blocks past it may have turned -/
structure FrQ (q : Nat) (w w' : World) : Prop where
  os : w'.os = w.os
  tape : w'.tape = w.tape
  output : w'.output = w.output
  size : w.heap.size ≤ w'.heap.size
  blk : ∀ j, j < w.heap.size → j ≠ q → w'.heap[j]? = w.heap[j]? ∨ (q < j ∧ ∃ cs, w.heap[j]? = some (.cells cs 31 (0, 0)))
theorem FrQ.below {q : Nat} {w w' : World} (h : FrQ q w w') (hq : q ≤ w.heap.size) : Below q w w' := ⟨h.os, h.tape, h.output, h.size, fun j hj => by
  rcases h.blk j (by omega) (by omega) with h1 | ⟨h1, _⟩
  · exact h1
  · omega⟩
theorem FrQ.st {q : Nat} {w w' : World} (h : FrQ q w w') {cq : Array Value} (hq : w.heap[q]? = some (.cells cq 63 (0, 0))) : StB w w' := ⟨h.size, fun j cs mk hj => by
  rcases h.blk j (Array.getElem?_eq_some_iff.1 hj).1 (by rintro rfl; rw [hj] at hq; injection hq with hq; injection hq with _ hq _; exact absurd hq (by decide)) with h1 | ⟨_, cs', h1⟩
  · exact h1
  · rw [hj] at h1; injection h1 with h1; injection h1 with _ h1 _; exact absurd h1 (by decide)⟩
theorem nine {l : LV} (h : l.length = 9) : ∃ a0 a1 a2 a3 a4 a5 a6 a7 a8, l = [a0, a1, a2, a3, a4, a5, a6, a7, a8] := by
  match l, h with
  | [a0, a1, a2, a3, a4, a5, a6, a7, a8], _ => exact ⟨a0, a1, a2, a3, a4, a5, a6, a7, a8, rfl⟩
set_option maxRecDepth 100000 in
set_option maxHeartbeats 4000000 in
theorem fac1_any (l : LV) (hl : l.length = 9) (q : Nat) (ad : Option Addr) (n0 c0 : Nat) (zs : List (Int × Int)) (hz : zs.length + 1 ≤ 1099511627776) (w : World) (hq : w.heap[q]? = some (.cells #[.slice ad n0 c0] 63 (0, 0))) (ho : OwnH w (q + 1) (.slice ad n0 c0) zs) :
    Calls Try.prog 27 #[.agg (vL l).toArray, .pointer (some ⟨q, 0, none⟩)] w fun e w' => e = .returned (.tuple #[]) ∧ FrQ q w w' ∧ ∃ (ad' : Option Addr) (n' c' : Nat), w'.heap[q]? = some (.cells #[.slice ad' n' c'] 63 (0, 0)) ∧ OwnH w' (q + 1) (.slice ad' n' c') (zs ++ [shrL l]) := by
  obtain ⟨a0, a1, a2, a3, a4, a5, a6, a7, a8, rfl⟩ := nine hl
  have hq2 : q < w.heap.size := (Array.getElem?_eq_some_iff.1 hq).1
  have hc : w.cell? ⟨q, 0, none⟩ = some (.slice ad n0 c0) := cell_of_block (o := 0) hq rfl
  have hf : w.frozen? ⟨q, 0, none⟩ = false := free_of_block 0 hq
  have HO := Lib.hid ho
  have HQ := Lib.hid hq
  clear ho hq hl
  show Calls Try.prog 27 #[.agg #[.int .i64 a0, .int .i64 a1, .int .i64 a2, .int .i64 a3, .int .i64 a4, .int .i64 a5, .int .i64 a6, .int .i64 a7, .int .i64 a8], .pointer (some ⟨q, 0, none⟩)] w _
  go_enter Try.func27, Try.ntmps27
  have HW := Lib.hid (show Below w.heap.size w ((w.alloc (.cells #[.int .i64 a0, .int .i64 a1, .int .i64 a2, .int .i64 a3, .int .i64 a4, .int .i64 a5, .int .i64 a6, .int .i64 a7, .int .i64 a8] 33)).alloc (.cells #[.int .i64 a7, .int .i64 a8] 31)) from ((Below.refl w.heap.size w).alloc (Nat.le_refl _) _).alloc (by simp) _)
  go_wp2_with (at_builtin; refine wpList_append_shareG rfl _ _ rfl (q + 1) (.slice ad n0 c0) zs rfl (HO.out.below (((Below.refl w.heap.size w).alloc (Nat.le_refl _) _).alloc (by simp) _)) (w.heap.size + 1) 1 (a7, a8) rfl (by go_simp) (by go_simp) hz (by simp; omega) ?_; intro ad1 n1 c1 w1 o1 b1; have e1 := (b1.block q (by simp; omega) (by intro h9; have := (HO.out.blk h9.symm).1; omega)).trans ((HW.out.block q hq2).trans HQ.out); have E1 := Lib.hid e1; have x1 : w1.cell? ⟨q, 0, none⟩ = some (.slice ad n0 c0) := cell_of_block (o := 0) e1 rfl; have y1 : w1.frozen? ⟨q, 0, none⟩ = false := free_of_block 0 e1; have O1 := Lib.hid o1; have B1 := Lib.hid b1; clear o1 b1 e1)
  go_end0
  refine ⟨rfl, ?_, ad1, n1, c1, one_setCell E1.out, O1.out.under (by omega) _⟩
  have hb := B1.out
  have hw := HW.out
  refine ⟨hb.os.trans hw.os, hb.tape.trans hw.tape, hb.output.trans hw.output, Nat.le_trans hw.size (by rw [World.size_setCell]; exact hb.size), fun j hj hne => ?_⟩
  rw [Below.heap_setCell _ _ _ _ hne]
  by_cases h9 : some j = (Value.slice ad n0 c0).ownBlock
  · obtain ⟨h1, cs, h2⟩ := HO.out.blk h9.symm
    exact .inr ⟨by omega, cs, h2⟩
  · exact .inl ((hb.block j (Nat.lt_of_lt_of_le hj hw.size) h9).trans (hw.block j hj))
set_option maxRecDepth 100000 in
set_option maxHeartbeats 4000000 in
theorem factor_bk {w : World} {b m : Nat} {h : Int} {L : List LV} (H : BkAt w b m h L) {u n : Int} (h0 : -9223372036854775808 ≤ u) (h1 : u ≤ 9223372036854775807) :
    Calls Try.prog 12 #[.pointer (some ⟨b, 0, none⟩), .int .i64 u, .int .i64 n] w fun e w' => e = .returned (.int .i64 (factI (atI (shrL (lineB L u)).1 (shrL (lineB L u)).2 n h).1 (totI n h (L.map shrL)))) ∧ Below w.heap.size w w' := by
  have hmx : Try.prog.follows .mixedOrders = true := by kernel_rfl
  have hln := H.good.len
  have HE := Lib.hid (each_bk (w := w.alloc (.cells #[.slice none 0 0] 63)) (H.below (below_alloc (Below.refl _ w) _)) 27 #[.pointer (some ⟨w.heap.size, 0, none⟩)]
    (fun k W => BkAt W b m h L ∧ Below w.heap.size w W ∧ ∃ (ad : Option Addr) (n' c : Nat), W.heap[w.heap.size]? = some (.cells #[.slice ad n' c] 63 (0, 0)) ∧ OwnH W (w.heap.size + 1) (.slice ad n' c) ((L.take k).map shrL))
    (enters_of Try.func27 (by kernel_rfl) rfl)
    (fun W hW => by
      have ha := below_alloc (Below.refl _ w) (.cells #[.slice none 0 0] 63)
      have hb := below_next ha hW
      refine ⟨H.below hb, hb, none, 0, 0, (hW.block w.heap.size (by simp)).trans (World.alloc_heap_new w _), OwnH.nil⟩)
    (fun k W hi => hi.1)
    (fun k W hk hi => by
      obtain ⟨hB, hbel, ad, n', c, hq, ho⟩ := hi
      have hg := (hB.good.all _ (hB.good.at hk)).1
      refine (fac1_any _ hg w.heap.size ad n' c _ (by rw [List.length_map, List.length_take]; omega) W hq ho).mono ?_
      rintro e w' ⟨rfl, hfr, ad', n'', c', hq', ho'⟩
      have hb' : Below w.heap.size w w' := hbel.trans (hfr.below hbel.size)
      refine ⟨rfl, ⟨H.below hb', hb', ad', n'', c', hq', ?_⟩, hfr.st hq⟩
      rw [List.take_succ_eq_append_getElem hk, List.map_append, List.map_singleton, show L[k] = L.getD k zL by rw [List.getD_eq_getElem?_getD, List.getElem?_eq_getElem hk]; rfl]
      exact ho'))
  have hbd := totI_bd n h (L.map shrL) (L.map shrL).length
  rw [List.take_length] at hbd
  have hat := (atI_bd (shrL (lineB L u)).1 (shrL (lineB L u)).2 n h)
  obtain ⟨a0, a1, a2, a3, a4, a5, a6, a7, a8, e9⟩ := nine (H.good.line u)
  have KL := Lib.hid (fun X (hX : BkAt X b m h L) => (show Calls Try.prog 5 #[.pointer (some ⟨b, 0, none⟩), .int .i64 u] X fun e w' => e = .returned (.tuple #[.agg #[.int .i64 a0, .int .i64 a1, .int .i64 a2, .int .i64 a3, .int .i64 a4, .int .i64 a5, .int .i64 a6, .int .i64 a7, .int .i64 a8], .bool (getB L u).isSome]) ∧ Below X.heap.size X w' from by
    have := line_bk hX h0 h1
    rw [e9] at this
    exact this))
  have hs1 : shrL [a0, a1, a2, a3, a4, a5, a6, a7, a8] = (a7, a8) := rfl
  rw [e9, hs1] at hat ⊢
  dsimp only at hat ⊢
  generalize hT : totI n h (L.map shrL) = T at *
  have HT := Lib.hid hT
  have HLN := Lib.hid hln
  obtain ⟨q, hqq⟩ : ∃ q, q = w.heap.size := ⟨_, rfl⟩
  have HQQ := Lib.hid hqq
  clear hT e9 hs1 H h0 h1 hln hqq
  go_enter Try.func12, Try.ntmps12
  go_upto_region 2 with fail
  rw [← HQQ.out] at HE ⊢
  generalize w.alloc (.cells #[.slice none 0 0] 63) = W0 at *
  go_wp2_with fail
  refine HE.out.mono ?_
  rintro e w1 ⟨rfl, ⟨hB, hbel, ad, n', c, hq, ho⟩, hst⟩
  have HB1 := Lib.hid hB
  have HL1 := Lib.hid hbel
  rw [List.take_length] at ho
  have HO1 := Lib.hid ho
  have HQ1 := Lib.hid hq
  clear hB hbel ho hq hst HE
  go_wp2_with fail
  refine (KL.out _ HB1.out).mono ?_
  rintro e w2 ⟨rfl, hb2⟩
  have HL2 := Lib.hid (show Below q w w2 from HL1.out.trans (hb2.mono (by have := HL1.out.size; have := HQQ.out; omega)))
  have HB2 := Lib.hid (HB1.out.below hb2)
  have HQ2 := Lib.hid ((hb2.block q (Array.getElem?_eq_some_iff.1 HQ1.out).1).trans HQ1.out)
  have HO2 := Lib.hid (HO1.out.below hb2)
  clear hb2 HL1 HB1 HQ1 HO1 KL
  go_upto_region 4 with fail
  have hb3 := below_alloc (Below.refl _ w2) (.cells #[.int .i64 a0, .int .i64 a1, .int .i64 a2, .int .i64 a3, .int .i64 a4, .int .i64 a5, .int .i64 a6, .int .i64 a7, .int .i64 a8] 33)
  have HN3 := Lib.hid (World.alloc_heap_new w2 (.cells #[.int .i64 a0, .int .i64 a1, .int .i64 a2, .int .i64 a3, .int .i64 a4, .int .i64 a5, .int .i64 a6, .int .i64 a7, .int .i64 a8] 33))
  have HL3 := Lib.hid (show Below q w _ from HL2.out.trans (hb3.mono (by have := HL2.out.size; have := HQQ.out; omega)))
  have HB3 := Lib.hid (HB2.out.below hb3)
  have HQ3 := Lib.hid ((hb3.block q (Array.getElem?_eq_some_iff.1 HQ2.out).1).trans HQ2.out)
  have HO3 := Lib.hid (HO2.out.below hb3)
  clear hb3 HL2 HB2 HQ2 HO2
  generalize w2.alloc (.cells #[.int .i64 a0, .int .i64 a1, .int .i64 a2, .int .i64 a3, .int .i64 a4, .int .i64 a5, .int .i64 a6, .int .i64 a7, .int .i64 a8] 33) = W3 at *
  generalize w2.heap.size = p at *
  have HZ := Lib.hid (show n' = (L.map shrL).length from by obtain ⟨_, _, e, _⟩ := HO3.out.form; cases e; rfl)
  have HLM := Lib.hid (show (L.map shrL).length = L.length from List.length_map _)
  have KA := Lib.hid (fun X => at_any a7 a8 n h X)
  have KT := Lib.hid (fun X (hX : Below W3.heap.size W3 X) => total_any ad c (L.map shrL) n h X (fits_mem (by rw [HLM.out]; have := HLN.out; omega) (fun hp => by
    obtain ⟨ad', c', e, hg⟩ := (HO3.out.below hX).form
    cases e
    obtain ⟨g, rfl, _⟩ := hg hp
    exact ⟨g, 0, rfl, (HO3.out.below hX).row.1⟩)))
  rw [HT.out, ← HZ.out] at KT
  have KF := Lib.hid (fun X => factor_any (atI a7 a8 n h).1 T hat.1.2 (by have := hbd.2; omega) X)
  have KH := Lib.hid (fun X (hX : Below W3.heap.size W3 X) => half_bk (HB3.out.below hX))
  have Y7 := Lib.hid (fun X (hX : Below W3.heap.size W3 X) => (show X.cell? ⟨p, 7, none⟩ = some (.int .i64 a7) from cell_of_block (o := 7) ((hX.block p (Array.getElem?_eq_some_iff.1 HN3.out).1).trans HN3.out) rfl))
  have Y8 := Lib.hid (fun X (hX : Below W3.heap.size W3 X) => (show X.cell? ⟨p, 8, none⟩ = some (.int .i64 a8) from cell_of_block (o := 8) ((hX.block p (Array.getElem?_eq_some_iff.1 HN3.out).1).trans HN3.out) rfl))
  have YQ := Lib.hid (fun X (hX : Below W3.heap.size W3 X) => (show X.cell? ⟨q, 0, none⟩ = some (.slice ad n' c) from cell_of_block (o := 0) ((hX.block q (Array.getElem?_eq_some_iff.1 HQ3.out).1).trans HQ3.out) rfl))
  generalize hP : (atI a7 a8 n h).1 = P1 at *
  have HP := Lib.hid hP
  clear hP
  generalize (atI a7 a8 n h).2 = P2 at *
  clear hat hbd HT HN3 HB3 HQ3 HO3 HZ HLM HLN
  refine Rl.wp_region_rel (fun a b => Below a.heap.size a b) W3 (fun a b c h h' => below_next h h') (fun a => Below.refl _ _) hmx (by kernel_rfl) (Below.refl _ _).drew ?_
  (refine Rl.textR_run ?_ (fun ρ => ?_) (fun ρ W hS hd => ?_) ?_; rotate_left; (focus go_simp); (focus (obtain ⟨hc, hf⟩ := bcell hS; go_simp; first | exact ⟨rfl, Below.refl _ _⟩ | (refine ⟨?_, Below.refl _ _⟩; rfl))); (try go_simp))
  (refine Rl.textR_run ?_ (fun ρ => ?_) (fun ρ W hS hd => ?_) ?_; rotate_left; (focus go_simp); (focus (have hfact0 := Y7.out W hS; have hfact1 := Y8.out W hS; go_simp; first | exact ⟨rfl, Below.refl _ _⟩ | (refine ⟨?_, Below.refl _ _⟩; rfl))); (try go_simp))
  (refine Rl.textR_run ?_ (fun ρ => ?_) (fun ρ W hS hd => ?_) ?_; rotate_left; (focus go_simp); (focus (obtain ⟨hc, hf⟩ := bcell hS; go_simp; first | exact ⟨rfl, Below.refl _ _⟩ | (refine ⟨?_, Below.refl _ _⟩; rfl))); (try go_simp))
  (refine Rl.textR_run ?_ (fun ρ => ?_) (fun ρ W hS hd => ?_) ?_; rotate_left; (focus go_simp); (focus (obtain ⟨hc, hf⟩ := bcell hS; go_simp; first | exact ⟨rfl, Below.refl _ _⟩ | (refine ⟨?_, Below.refl _ _⟩; rfl))); (try go_simp))
  (refine Rl.textR_run ?_ (fun ρ => ?_) (fun ρ W hS hd => ?_) ?_; rotate_left; (focus go_simp); (focus (obtain ⟨hc, hf⟩ := bcell hS; go_simp; refine (KH.out W hS).mono ?_; rintro e w1 ⟨rfl, hb⟩; refine ⟨_, rfl, ?_, hb⟩; rfl)); (try go_simp))
  (refine Rl.textR_run ?_ (fun ρ => ?_) (fun ρ W hS hd => ?_) ?_; rotate_left; (focus go_simp); (focus (obtain ⟨hc, hf⟩ := bcell hS; go_simp; refine (KA.out W).mono ?_; rintro e w1 ⟨rfl, hb⟩; refine ⟨_, rfl, ?_, hb⟩; rfl)); (try go_simp))
  (refine Rl.textR_run ?_ (fun ρ => ?_) (fun ρ W hS hd => ?_) ?_; rotate_left; (focus go_simp); (focus (obtain ⟨hc, hf⟩ := bcell hS; go_simp; first | exact ⟨rfl, Below.refl _ _⟩ | (refine ⟨?_, Below.refl _ _⟩; rfl))); (try go_simp))
  (refine Rl.textR_run ?_ (fun ρ => ?_) (fun ρ W hS hd => ?_) ?_; rotate_left; (focus go_simp); (focus (have hfact := YQ.out W hS; go_simp; first | exact ⟨rfl, Below.refl _ _⟩ | (refine ⟨?_, Below.refl _ _⟩; rfl))); (try go_simp))
  (refine Rl.textR_run ?_ (fun ρ => ?_) (fun ρ W hS hd => ?_) ?_; rotate_left; (focus go_simp); (focus (obtain ⟨hc, hf⟩ := bcell hS; go_simp; first | exact ⟨rfl, Below.refl _ _⟩ | (refine ⟨?_, Below.refl _ _⟩; rfl))); (try go_simp))
  (refine Rl.textR_run ?_ (fun ρ => ?_) (fun ρ W hS hd => ?_) ?_; rotate_left; (focus go_simp); (focus (obtain ⟨hc, hf⟩ := bcell hS; go_simp; first | exact ⟨rfl, Below.refl _ _⟩ | (refine ⟨?_, Below.refl _ _⟩; rfl))); (try go_simp))
  (refine Rl.textR_run ?_ (fun ρ => ?_) (fun ρ W hS hd => ?_) ?_; rotate_left; (focus go_simp); (focus (obtain ⟨hc, hf⟩ := bcell hS; go_simp; refine (KH.out W hS).mono ?_; rintro e w1 ⟨rfl, hb⟩; refine ⟨_, rfl, ?_, hb⟩; rfl)); (try go_simp))
  (refine Rl.textR_run ?_ (fun ρ => ?_) (fun ρ W hS hd => ?_) ?_; rotate_left; (focus go_simp); (focus (obtain ⟨hc, hf⟩ := bcell hS; go_simp; refine (KT.out W hS).mono ?_; rintro e w1 ⟨rfl, hb⟩; refine ⟨_, rfl, ?_, hb⟩; rfl)); (try go_simp))
  (refine Rl.textR_run ?_ (fun ρ => ?_) (fun ρ W hS hd => ?_) ?_; rotate_left; (focus go_simp); (focus (obtain ⟨hc, hf⟩ := bcell hS; go_simp; refine (KF.out W).mono ?_; rintro e w1 ⟨rfl, hb⟩; refine ⟨_, rfl, ?_, hb⟩; rfl)); (try go_simp))
  (refine Rl.textR_run ?_ (fun ρ => ?_) (fun ρ W hS hd => ?_) ?_; rotate_left; (focus go_simp); (focus (obtain ⟨hc, hf⟩ := bcell hS; go_simp; first | exact ⟨rfl, Below.refl _ _⟩ | (refine ⟨?_, Below.refl _ _⟩; rfl))); (try go_simp))
  refine Rl.textR_nil ?_
  intro ρ wA hgA hkA
  dsimp only
  have HGA := Lib.hid hgA
  clear hgA hkA
  go_simp
  go_wp2_with fail
  go_ret
  exact ⟨by rw [HP.out]; rfl, by rw [← HQQ.out]; exact HL3.out.trans (HGA.out.mono (by have := HL3.out.size; have := HQQ.out; omega))⟩
set_option maxRecDepth 100000 in
set_option maxHeartbeats 4000000 in
theorem factor_no {w : World} {v : Value} (hv : NoBk w v) (u n : Int) : Calls Try.prog 12 #[v, .int .i64 u, .int .i64 n] w fun e w' => e = .returned (.int .i64 1000) ∧ Below w.heap.size w w' := by
  have hmx : Try.prog.follows .mixedOrders = true := by kernel_rfl
  have KE := Lib.hid (fun X (hX : Below w.heap.size w X) f => each_no (hv.below hX) f)
  have KL := Lib.hid (fun X (hX : Below w.heap.size w X) => (show Calls Try.prog 5 #[v, .int .i64 u] X fun e w' => e = .returned (.tuple #[.agg #[.int .i64 0, .int .i64 0, .int .i64 0, .int .i64 0, .int .i64 0, .int .i64 0, .int .i64 0, .int .i64 0, .int .i64 0], .bool false]) ∧ Below X.heap.size X w' from line_no (hv.below hX) u))
  have KH := Lib.hid (fun X (hX : Below w.heap.size w X) => half_no (hv.below hX))
  have hat := atI_bd 0 0 n 0
  obtain ⟨pv, rfl⟩ : ∃ p, v = .pointer p := by rcases hv with rfl | ⟨g, rfl, _⟩ <;> exact ⟨_, rfl⟩
  clear hv
  have HB0 := Lib.hid (below_alloc (Below.refl _ w) (.cells #[.slice none 0 0] 63))
  have HN0 := Lib.hid (World.alloc_heap_new w (.cells #[.slice none 0 0] 63))
  go_enter Try.func12, Try.ntmps12
  go_upto_region 2 with fail
  generalize w.alloc (.cells #[.slice none 0 0] 63) = W0 at *
  obtain ⟨q, hqq⟩ : ∃ q, q = w.heap.size := ⟨_, rfl⟩
  have HQQ := Lib.hid hqq
  rw [← hqq] at HN0 ⊢
  clear hqq
  go_wp2_with fail
  refine (KE.out _ HB0.out _).mono ?_
  rintro e w1 ⟨rfl, hww⟩
  obtain rfl := hww
  go_wp2_with fail
  refine (KL.out _ HB0.out).mono ?_
  rintro e w2 ⟨rfl, hb2⟩
  have HB2 := Lib.hid (below_next HB0.out hb2)
  have HN2 := Lib.hid ((hb2.block q (Array.getElem?_eq_some_iff.1 HN0.out).1).trans HN0.out)
  clear hb2
  go_upto_region 4 with fail
  have hb3 := below_alloc (Below.refl _ w2) (.cells #[.int .i64 0, .int .i64 0, .int .i64 0, .int .i64 0, .int .i64 0, .int .i64 0, .int .i64 0, .int .i64 0, .int .i64 0] 33)
  have HN3 := Lib.hid (World.alloc_heap_new w2 (.cells #[.int .i64 0, .int .i64 0, .int .i64 0, .int .i64 0, .int .i64 0, .int .i64 0, .int .i64 0, .int .i64 0, .int .i64 0] 33))
  have HB3 := Lib.hid (below_next HB2.out hb3)
  have HQ3 := Lib.hid ((hb3.block q (Array.getElem?_eq_some_iff.1 HN2.out).1).trans HN2.out)
  clear hb3 HN2 HB2
  generalize w2.alloc (.cells #[.int .i64 0, .int .i64 0, .int .i64 0, .int .i64 0, .int .i64 0, .int .i64 0, .int .i64 0, .int .i64 0, .int .i64 0] 33) = W3 at *
  generalize w2.heap.size = p at *
  have KA := Lib.hid (fun X => at_any 0 0 n 0 X)
  have KT := Lib.hid (fun X => total_any none 0 [] n 0 X (fits_mem (by simp) (fun hp => by simp at hp)))
  have HT := Lib.hid (show totI n 0 [] = 0 from rfl)
  rw [HT.out] at KT
  have KF := Lib.hid (fun X => factor_any (atI 0 0 n 0).1 0 hat.1.2 (by decide) X)
  rw [show factI (atI 0 0 n 0).1 0 = 1000 from by unfold factI; rw [if_pos (by decide)]] at KF
  have Y7 := Lib.hid (fun X (hX : Below W3.heap.size W3 X) => (show X.cell? ⟨p, 7, none⟩ = some (.int .i64 0) from cell_of_block (o := 7) ((hX.block p (Array.getElem?_eq_some_iff.1 HN3.out).1).trans HN3.out) rfl))
  have Y8 := Lib.hid (fun X (hX : Below W3.heap.size W3 X) => (show X.cell? ⟨p, 8, none⟩ = some (.int .i64 0) from cell_of_block (o := 8) ((hX.block p (Array.getElem?_eq_some_iff.1 HN3.out).1).trans HN3.out) rfl))
  have YQ := Lib.hid (fun X (hX : Below W3.heap.size W3 X) => (show X.cell? ⟨q, 0, none⟩ = some (.slice none 0 0) from cell_of_block (o := 0) ((hX.block q (Array.getElem?_eq_some_iff.1 HQ3.out).1).trans HQ3.out) rfl))
  generalize (atI 0 0 n 0).1 = P1 at *
  generalize (atI 0 0 n 0).2 = P2 at *
  clear hat HT HN3 HQ3 KE KL
  refine Rl.wp_region_rel (fun a b => Below a.heap.size a b) W3 (fun a b c h h' => below_next h h') (fun a => Below.refl _ _) hmx (by kernel_rfl) (Below.refl _ _).drew ?_
  (refine Rl.textR_run ?_ (fun ρ => ?_) (fun ρ W hS hd => ?_) ?_; rotate_left; (focus go_simp); (focus (obtain ⟨hc, hf⟩ := bcell hS; go_simp; first | exact ⟨rfl, Below.refl _ _⟩ | (refine ⟨?_, Below.refl _ _⟩; rfl))); (try go_simp))
  (refine Rl.textR_run ?_ (fun ρ => ?_) (fun ρ W hS hd => ?_) ?_; rotate_left; (focus go_simp); (focus (have hfact0 := Y7.out W hS; have hfact1 := Y8.out W hS; go_simp; first | exact ⟨rfl, Below.refl _ _⟩ | (refine ⟨?_, Below.refl _ _⟩; rfl))); (try go_simp))
  (refine Rl.textR_run ?_ (fun ρ => ?_) (fun ρ W hS hd => ?_) ?_; rotate_left; (focus go_simp); (focus (obtain ⟨hc, hf⟩ := bcell hS; go_simp; first | exact ⟨rfl, Below.refl _ _⟩ | (refine ⟨?_, Below.refl _ _⟩; rfl))); (try go_simp))
  (refine Rl.textR_run ?_ (fun ρ => ?_) (fun ρ W hS hd => ?_) ?_; rotate_left; (focus go_simp); (focus (obtain ⟨hc, hf⟩ := bcell hS; go_simp; first | exact ⟨rfl, Below.refl _ _⟩ | (refine ⟨?_, Below.refl _ _⟩; rfl))); (try go_simp))
  (refine Rl.textR_run ?_ (fun ρ => ?_) (fun ρ W hS hd => ?_) ?_; rotate_left; (focus go_simp); (focus (obtain ⟨hc, hf⟩ := bcell hS; go_simp; refine (KH.out W (below_next HB3.out hS)).mono ?_; rintro e w1 ⟨rfl, hb⟩; refine ⟨_, rfl, ?_, hb⟩; rfl)); (try go_simp))
  (refine Rl.textR_run ?_ (fun ρ => ?_) (fun ρ W hS hd => ?_) ?_; rotate_left; (focus go_simp); (focus (obtain ⟨hc, hf⟩ := bcell hS; go_simp; refine (KA.out W).mono ?_; rintro e w1 ⟨rfl, hb⟩; refine ⟨_, rfl, ?_, hb⟩; rfl)); (try go_simp))
  (refine Rl.textR_run ?_ (fun ρ => ?_) (fun ρ W hS hd => ?_) ?_; rotate_left; (focus go_simp); (focus (obtain ⟨hc, hf⟩ := bcell hS; go_simp; first | exact ⟨rfl, Below.refl _ _⟩ | (refine ⟨?_, Below.refl _ _⟩; rfl))); (try go_simp))
  (refine Rl.textR_run ?_ (fun ρ => ?_) (fun ρ W hS hd => ?_) ?_; rotate_left; (focus go_simp); (focus (have hfact := YQ.out W hS; go_simp; first | exact ⟨rfl, Below.refl _ _⟩ | (refine ⟨?_, Below.refl _ _⟩; rfl))); (try go_simp))
  (refine Rl.textR_run ?_ (fun ρ => ?_) (fun ρ W hS hd => ?_) ?_; rotate_left; (focus go_simp); (focus (obtain ⟨hc, hf⟩ := bcell hS; go_simp; first | exact ⟨rfl, Below.refl _ _⟩ | (refine ⟨?_, Below.refl _ _⟩; rfl))); (try go_simp))
  (refine Rl.textR_run ?_ (fun ρ => ?_) (fun ρ W hS hd => ?_) ?_; rotate_left; (focus go_simp); (focus (obtain ⟨hc, hf⟩ := bcell hS; go_simp; first | exact ⟨rfl, Below.refl _ _⟩ | (refine ⟨?_, Below.refl _ _⟩; rfl))); (try go_simp))
  (refine Rl.textR_run ?_ (fun ρ => ?_) (fun ρ W hS hd => ?_) ?_; rotate_left; (focus go_simp); (focus (obtain ⟨hc, hf⟩ := bcell hS; go_simp; refine (KH.out W (below_next HB3.out hS)).mono ?_; rintro e w1 ⟨rfl, hb⟩; refine ⟨_, rfl, ?_, hb⟩; rfl)); (try go_simp))
  (refine Rl.textR_run ?_ (fun ρ => ?_) (fun ρ W hS hd => ?_) ?_; rotate_left; (focus go_simp); (focus (obtain ⟨hc, hf⟩ := bcell hS; go_simp; refine (KT.out W).mono ?_; rintro e w1 ⟨rfl, hb⟩; refine ⟨_, rfl, ?_, hb⟩; rfl)); (try go_simp))
  (refine Rl.textR_run ?_ (fun ρ => ?_) (fun ρ W hS hd => ?_) ?_; rotate_left; (focus go_simp); (focus (obtain ⟨hc, hf⟩ := bcell hS; go_simp; refine (KF.out W).mono ?_; rintro e w1 ⟨rfl, hb⟩; refine ⟨_, rfl, ?_, hb⟩; rfl)); (try go_simp))
  (refine Rl.textR_run ?_ (fun ρ => ?_) (fun ρ W hS hd => ?_) ?_; rotate_left; (focus go_simp); (focus (obtain ⟨hc, hf⟩ := bcell hS; go_simp; first | exact ⟨rfl, Below.refl _ _⟩ | (refine ⟨?_, Below.refl _ _⟩; rfl))); (try go_simp))
  refine Rl.textR_nil ?_
  intro ρ wA hgA hkA
  dsimp only
  have HGA := Lib.hid (below_next HB3.out hgA)
  clear hgA hkA
  go_simp
  go_wp2_with fail
  go_ret
  exact ⟨rfl, HGA.out⟩
end Go.Proofs.Ytmpknjlfabpipaa
