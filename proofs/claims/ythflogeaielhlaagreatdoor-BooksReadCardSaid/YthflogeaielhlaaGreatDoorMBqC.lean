/- The walk of BooksRead, at any bytes (layer 14). The errors' table. -/
import Derived.Test.YthflogeaielhlaaGreatDoorMan
import Derived.Test.YthflogeaielhlaaGreatDoorMah
namespace Go.Proofs.YthflogeaielhlaaGreatDoor
set_option linter.unusedVariables false
open Go.ChangeShapes Go.WideShapes Go.ChangeAt Go.RowKit Bk
attribute [local go_sem ↓] Go.wp_at_zero Go.wp_at_succ comesTo_value_eq comesTo_skip_eq comesTo_enter_eq Rl.comesToR_value_eq Rl.comesToR_skip_eq Rl.comesToR_enter_eq

theorem bre_no {w : World} {bs : List Int} {e : Ending} {w' : World} (h : BReadEnd w bs e w') (ho : okB bs = none) : e = .returned (.tuple #[.pointer none, .int .i64 11]) ∧ Below w.heap.size w w' := by
  rcases h with h | ⟨_, _, _, _, h, _⟩
  · exact h.2
  · rw [ho] at h; cases h
theorem bre_yes {w : World} {bs : List Int} {e : Ending} {w' : World} (h : BReadEnd w bs e w') {hf : Int} {M : List LV} (ho : okB bs = some (hf, M)) : ∃ b m, e = .returned (.tuple #[.pointer (some ⟨b, 0, none⟩), .int .i64 0]) ∧ BkAt w' b m hf M ∧ Below w.heap.size w w' := by
  rcases h with h | ⟨h1, M1, b, m, h, e1, e2, _, _, e5⟩
  · rw [ho] at h; cases h.1
  · rw [ho] at h
    simp only [Option.some.injEq, Prod.mk.injEq] at h
    obtain ⟨rfl, rfl⟩ := h
    exact ⟨b, m, e1, e2, e5⟩
theorem bdoc_no {w : World} {bs : List Int} {e : Ending} {w' : World} (h : RDoc14 w bs e w') (ho : okD bs = none) : e = .returned (.tuple #[.agg #[.int .i64 0, .slice none 0 0], .int .i64 11]) ∧ Below w.heap.size w w' := by
  rcases h with h | ⟨_, _, _, h, _⟩
  · exact h.2
  · rw [ho] at h; cases h
theorem bdoc_yes {w : World} {bs : List Int} {e : Ending} {w' : World} (h : RDoc14 w bs e w') {hf : Int} {M : List LV} (ho : okD bs = some (hf, M)) : ∃ a c, e = .returned (.tuple #[.agg #[.int .i64 hf, .slice a M.length c], .int .i64 0]) ∧ w'.ownsRow w.heap.size 61 9 (.slice a M.length c) M.length (vL M.flatten) ∧ Below w.heap.size w w' := by
  rcases h with h | ⟨h1, M1, v, h, e1, e2, e5⟩
  · rw [ho] at h; cases h.1
  · rw [ho] at h
    simp only [Option.some.injEq, Prod.mk.injEq] at h
    obtain ⟨rfl, rfl⟩ := h
    rcases e2.2 with ⟨rfl, h0⟩ | ⟨g, cap, cur, rfl, _⟩
    · refine ⟨none, 0, ?_, ?_, e5⟩
      · rw [h0]; exact e1
      · rw [h0] at e2 ⊢; exact e2
    · exact ⟨_, cap, e1, e2, e5⟩
set_option maxRecDepth 100000 in
set_option maxHeartbeats 8000000 in
theorem booksread_few (ad : Option Addr) (n c : Nat) (bs : List Int) (hn : n ≤ 2000) (w : World) (ht : TxtAt w (.slice ad n c) bs) (hE : ErrAt w) :
    Calls Tryz.prog 3 #[.slice ad n c] w fun e w' => e = .returned (.bool true) ∧ Below w.heap.size w w' := by
  have hmx : Tryz.prog.follows .mixedOrders = true := by kernel_rfl
  have hd0 : decide ((n : Int) > 2000) = false := decide_eq_false (by omega)
  have hd1 : decide (2000 < (n : Int)) = false := decide_eq_false (by omega)
  have hd2 : decide (2000 < n) = false := decide_eq_false (by omega)
  have hnb : n = bs.length := ht.form.1
  have hbb : ∀ x ∈ bs, 0 ≤ x ∧ x ≤ 255 := by
    intro x hx
    obtain ⟨i, hi, rfl⟩ := List.getElem_of_mem hx
    have h1 := ht.bytes.1 i hi
    have h2 := ht.bytes.2 i hi
    simp only [List.getD, List.getElem?_eq_getElem hi, Option.getD_some] at h1 h2
    omega
  have HCV := Lib.hid (fun W (hb : Below w.heap.size w W) => txt_conv ht W hb)
  have KJ := Lib.hid (bread_any ht (by omega) hE)
  have KR := Lib.hid (fun (X : World) => rread14_any bs hbb (by omega) X)
  have K1 := Lib.hid (fun (X : World) => bone X)
  have hok := okD_eq bs
  clear ht hE hn hnb hbb
  cases ho : okB bs with
  | none =>
    rw [ho] at hok
    have KJ2 := Lib.hid (KJ.out.mono (fun e w' h => bre_no h ho))
    have KR2 := Lib.hid (fun X => (KR.out X).mono (fun e w' h => bdoc_no h hok))
    clear KJ KR ho hok
    generalize hS : strOfNums bs = S at *
    clear hS
    go_enter Tryz.func3, Tryz.ntmps3
    go_wp2_with fail
    refine KJ2.out.mono ?_
    rintro e W1 ⟨rfl, hb1⟩
    have hcv := HCV.out W1 hb1
    have HB1 := Lib.hid hb1
    clear hb1
    go_wp2_with fail
    refine (KR2.out W1).mono ?_
    rintro e W2 ⟨rfl, hb2⟩
    have HB2 := Lib.hid (below_next (below_next HB1.out hb2) (below_alloc (Below.refl _ W2) (.cells #[.int .i64 0, .slice none 0 0] 29)))
    clear hb2 hcv
    go_upto_region 5 with fail
    generalize W2.alloc (.cells #[.int .i64 0, .slice none 0 0] 29) = W3 at *
    refine Rl.wp_region_rel (fun a b => Below a.heap.size a b) W3 (fun a b c h h' => below_next h h') (fun a => Below.refl _ _) hmx (by kernel_rfl) (Below.refl _ _).drew ?_
    iterate 11 (refine Rl.textR_run ?_ (fun ρ => ?_) (fun ρ W hS hd => ?_) ?_; rotate_left; (focus go_simp); (focus (obtain ⟨hc, hf⟩ := bcell hS; go_simp; first | exact ⟨rfl, Below.refl _ _⟩ | (refine ⟨?_, Below.refl _ _⟩; rfl))); (try go_simp))
    iterate 15 (refine Rl.textR_skip (fun ρ => ?_) ?_; (focus (first | rfl | (go_simp; done) | (go_simp; rfl))); (try go_simp))
    iterate 3 (refine Rl.textR_run ?_ (fun ρ => ?_) (fun ρ W hS hd => ?_) ?_; rotate_left; (focus go_simp); (focus (obtain ⟨hc, hf⟩ := bcell hS; go_simp; first | exact ⟨rfl, Below.refl _ _⟩ | (refine ⟨?_, Below.refl _ _⟩; rfl))); (try go_simp))
    (refine Rl.textR_run ?_ (fun ρ => ?_) (fun ρ W hS hd => ?_) ?_; rotate_left; (focus go_simp); (focus (obtain ⟨hc, hf⟩ := bcell hS; go_simp; refine (K1.out W).mono ?_; rintro e w1 ⟨rfl, hb⟩; refine ⟨_, rfl, ?_, hb⟩; rfl)); (try go_simp))
    (refine Rl.textR_run ?_ (fun ρ => ?_) (fun ρ W hS hd => ?_) ?_; rotate_left; (focus go_simp); (focus (obtain ⟨hc, hf⟩ := bcell hS; go_simp; first | exact ⟨rfl, Below.refl _ _⟩ | (refine ⟨?_, Below.refl _ _⟩; rfl))); (try go_simp))
    (refine Rl.textR_run ?_ (fun ρ => ?_) (fun ρ W hS hd => ?_) ?_; rotate_left; (focus go_simp); (focus (obtain ⟨hc, hf⟩ := bcell hS; go_simp; first | exact ⟨rfl, Below.refl _ _⟩ | (refine ⟨?_, Below.refl _ _⟩; rfl))); (try go_simp))
    refine Rl.textR_nil ?_
    intro ρ wA hgA hkA
    dsimp only
    have HB4 := Lib.hid (below_next HB2.out hgA)
    clear hgA hkA
    go_simp
    go_wp2_with fail
    go_ret
    exact ⟨rfl, HB4.out⟩
  | some p =>
    obtain ⟨hf, M⟩ := p
    rw [ho] at hok
    have HNM := Lib.hid (okD_num hok)
    have KJ2 := Lib.hid (KJ.out.mono (fun e w' h => bre_yes h ho))
    have KR2 := Lib.hid (fun X => (KR.out X).mono (fun e w' h => bdoc_yes h hok))
    clear KJ KR ho hok
    generalize hS : strOfNums bs = S at *
    clear hS
    go_enter Tryz.func3, Tryz.ntmps3
    go_wp2_with fail
    refine KJ2.out.mono ?_
    rintro e W1 ⟨b, m, rfl, hbk, hb1⟩
    have hcv := HCV.out W1 hb1
    have HB1 := Lib.hid hb1
    have HF := Lib.hid hbk
    clear hb1 hbk
    go_wp2_with fail
    refine (KR2.out W1).mono ?_
    rintro e W2 ⟨aV, cV, rfl, hrd, hb2⟩
    have ba := below_alloc (Below.refl _ W2) (.cells #[.int .i64 hf, .slice aV M.length cV] 29)
    have HB2 := Lib.hid (below_next (below_next HB1.out hb2) ba)
    have HF2 := Lib.hid ((HF.out.below hb2).below ba)
    have HRD := Lib.hid (Ap.own_below hrd ba)
    have HN := Lib.hid (World.alloc_heap_new W2 (.cells #[.int .i64 hf, .slice aV M.length cV] 29))
    clear hb2 hcv ba HF HB1 hrd
    go_upto_region 5 with fail
    generalize W2.alloc (.cells #[.int .i64 hf, .slice aV M.length cV] 29) = W3 at *
    generalize W2.heap.size = q at *
    have KL := Lib.hid (fun (X : World) (hX : Below W3.heap.size W3 X) => like14_any (HF2.out.below hX) HNM.out.1 HNM.out.2 (Ap.own_below HRD.out hX))
    have KH := Lib.hid (fun (X : World) (hX : Below W3.heap.size W3 X) => half_bk (HF2.out.below hX))
    generalize M.length = len at *
    have NF := Lib.hid (fun (X : World) (hX : Below W3.heap.size W3 X) => (hX.block _ (Array.getElem?_eq_some_iff.1 HN.out).1).trans HN.out)
    have q0 := Lib.hid (fun X hX => cell_of_block (o := 0) (NF.out X hX) rfl)
    have q1 := Lib.hid (fun X hX => cell_of_block (o := 1) (NF.out X hX) rfl)
    refine Rl.wp_region_rel (fun a b => Below a.heap.size a b) W3 (fun a b c h h' => below_next h h') (fun a => Below.refl _ _) hmx (by kernel_rfl) (Below.refl _ _).drew ?_
    iterate 7 (refine Rl.textR_run ?_ (fun ρ => ?_) (fun ρ W hS hd => ?_) ?_; rotate_left; (focus go_simp); (focus (obtain ⟨hc, hf⟩ := bcell hS; go_simp; first | exact ⟨rfl, Below.refl _ _⟩ | (refine ⟨?_, Below.refl _ _⟩; rfl))); (try go_simp))
    iterate 2 (refine Rl.textR_skip (fun ρ => ?_) ?_; (focus (first | rfl | (go_simp; done) | (go_simp; rfl))); (try go_simp))
    iterate 6 (refine Rl.textR_run ?_ (fun ρ => ?_) (fun ρ W hS hd => ?_) ?_; rotate_left; (focus go_simp); (focus (obtain ⟨hc, hf⟩ := bcell hS; go_simp; first | exact ⟨rfl, Below.refl _ _⟩ | (refine ⟨?_, Below.refl _ _⟩; rfl))); (try go_simp))
    (refine Rl.textR_run ?_ (fun ρ => ?_) (fun ρ W hS hd => ?_) ?_; rotate_left; (focus go_simp); (focus (have hfact0 := q0.out W hS; have hfact1 := q1.out W hS; go_simp; first | exact ⟨rfl, Below.refl _ _⟩ | (refine ⟨?_, Below.refl _ _⟩; rfl))); (try go_simp))
    (refine Rl.textR_run ?_ (fun ρ => ?_) (fun ρ W hS hd => ?_) ?_; rotate_left; (focus go_simp); (focus (obtain ⟨hc, hf⟩ := bcell hS; go_simp; refine (KL.out W hS).mono ?_; rintro e w1 ⟨rfl, hb⟩; refine ⟨_, rfl, ?_, hb⟩; rfl)); (try go_simp))
    iterate 4 (refine Rl.textR_run ?_ (fun ρ => ?_) (fun ρ W hS hd => ?_) ?_; rotate_left; (focus go_simp); (focus (obtain ⟨hc, hf⟩ := bcell hS; go_simp; first | exact ⟨rfl, Below.refl _ _⟩ | (refine ⟨?_, Below.refl _ _⟩; rfl))); (try go_simp))
    (refine Rl.textR_run ?_ (fun ρ => ?_) (fun ρ W hS hd => ?_) ?_; rotate_left; (focus go_simp); (focus (obtain ⟨hc, hf⟩ := bcell hS; go_simp; refine (KH.out W hS).mono ?_; rintro e w1 ⟨rfl, hb⟩; refine ⟨_, rfl, ?_, hb⟩; rfl)); (try go_simp))
    (refine Rl.textR_run ?_ (fun ρ => ?_) (fun ρ W hS hd => ?_) ?_; rotate_left; (focus go_simp); (focus (obtain ⟨hc, hf⟩ := bcell hS; go_simp; first | exact ⟨rfl, Below.refl _ _⟩ | (refine ⟨?_, Below.refl _ _⟩; rfl))); (try go_simp))
    (refine Rl.textR_run ?_ (fun ρ => ?_) (fun ρ W hS hd => ?_) ?_; rotate_left; (focus go_simp); (focus (have hfact := q0.out W hS; go_simp; first | exact ⟨rfl, Below.refl _ _⟩ | (refine ⟨?_, Below.refl _ _⟩; rfl))); (try go_simp))
    iterate 5 (refine Rl.textR_run ?_ (fun ρ => ?_) (fun ρ W hS hd => ?_) ?_; rotate_left; (focus go_simp); (focus (obtain ⟨hc, hf⟩ := bcell hS; go_simp; first | exact ⟨rfl, Below.refl _ _⟩ | (refine ⟨?_, Below.refl _ _⟩; rfl))); (try go_simp))
    (refine Rl.textR_run ?_ (fun ρ => ?_) (fun ρ W hS hd => ?_) ?_; rotate_left; (focus go_simp); (focus (obtain ⟨hc, hf⟩ := bcell hS; go_simp; refine (K1.out W).mono ?_; rintro e w1 ⟨rfl, hb⟩; refine ⟨_, rfl, ?_, hb⟩; rfl)); (try go_simp))
    iterate 2 (refine Rl.textR_run ?_ (fun ρ => ?_) (fun ρ W hS hd => ?_) ?_; rotate_left; (focus go_simp); (focus (obtain ⟨hc, hf⟩ := bcell hS; go_simp; first | exact ⟨rfl, Below.refl _ _⟩ | (refine ⟨?_, Below.refl _ _⟩; rfl))); (try go_simp))
    refine Rl.textR_nil ?_
    intro ρ wA hgA hkA
    dsimp only
    have HB4 := Lib.hid (below_next HB2.out hgA)
    clear hgA hkA
    go_simp
    go_wp2_with fail
    go_ret
    exact ⟨rfl, HB4.out⟩
set_option maxRecDepth 100000 in
theorem booksread_any (ad : Option Addr) (n c : Nat) (bs : List Int) (w : World) (ht : TxtAt w (.slice ad n c) bs) (h : ErrAt w) :
    Calls Tryz.prog 3 #[.slice ad n c] w fun e w' => e = .returned (.bool true) ∧ Below w.heap.size w w' := by
  by_cases hn : n ≤ 2000
  · exact booksread_few ad n c bs hn w ht h
  · have hd0 : decide ((n : Int) > 2000) = true := decide_eq_true (by omega)
    have hd1 : decide (2000 < (n : Int)) = true := decide_eq_true (by omega)
    have hd2 : decide (2000 < n) = true := decide_eq_true (by omega)
    clear ht h hn
    go_enter Tryz.func3, Tryz.ntmps3
    go_wp2_with fail
    go_ret
    exact ⟨rfl, Below.refl _ _⟩
end Go.Proofs.YthflogeaielhlaaGreatDoor
