/- A disk that was made: syncing. No condition but the lengths' bounds. -/
import Derived.Test.YtomhfnaekjmjnaaDoorDkC
namespace Go.Proofs.YtomhfnaekjmjnaaDoor
set_option linter.unusedVariables false
open Go.ChangeShapes Go.WideShapes Go.ChangeAt Go.RowKit
attribute [local go_sem ↓] Go.wp_at_zero Go.wp_at_succ comesTo_value_eq comesTo_skip_eq comesTo_enter_eq

set_option maxRecDepth 100000 in
set_option maxHeartbeats 4000000 in
theorem call1_dk {w : World} {D : Nat} {F : Nat → Prop} {st : DS} (h : Dk w D F st) (f : Int) : Calls Tryd.prog 58 #[.pointer (some ⟨D, 0, none⟩), .int .i64 1, .int .i64 f, (.slice none 0 0)] w fun e w' => CallEnd 1 w D F st f [] e w' := by
  have K := Lib.hid (wrong_dk h f)
  by_cases hw : wrongF st.down f = 0
  case neg =>
    have HE : CallEnd 1 w D F st f [] (.returned (.int .i64 (wrongF st.down f))) w := by
      refine ⟨?_, ?_, Fr.refl _ _⟩ <;> rw [callF_wrong hw]
      exact h.same
    have HH := Lib.hid HE
    clear h HE
    have hne : ¬ (wrongF st.down f = 0) := hw
    generalize wrongF st.down f = q at *
    go_enter Tryd.func58, Tryd.ntmps58
    go_wp2_with fail
    refine K.out.mono ?_
    rintro e w' ⟨rfl, rfl⟩
    go_wp2_with fail
    go_ret
    exact HH.out
  obtain ⟨hdn, hf0, hf3⟩ := wrongF_zero hw
  obtain ⟨k, rfl⟩ : ∃ k : Nat, f = (k : Int) := ⟨f.toNat, by omega⟩
  have hk : k < 4 := by omega
  have HA := Lib.hid h
  rw [hw] at K
  obtain ⟨hm, hft, hsf, hl, v, lf, ar, hb, hr, hx⟩ := h
  have hfit := hft k hk
  have hlt : D < w.heap.size := (Array.getElem?_eq_some_iff.1 hb).1
  obtain ⟨av, cv, hvk⟩ : ∃ av cv, v k = .slice av (st.b k).length cv := by
    rcases (hr.own k hk).form with ⟨h1, h2⟩ | ⟨g, c, h1, _⟩
    · exact ⟨none, 0, by rw [h1, h2]; rfl⟩
    · exact ⟨_, c, h1⟩
  have hwr : IntKind.i64.wrap (1048576 - ((st.b k).length : Int)) = 1048576 - ((st.b k).length : Int) := IntWalk.i64_in _ (by omega)
  have hcv : w.cell? ⟨D, 2 * k, none⟩ = some (.slice av (st.b k).length cv) := by
    rw [← hvk]
    rcases (by omega : k = 0 ∨ k = 1 ∨ k = 2 ∨ k = 3) with rfl | rfl | rfl | rfl <;> exact cell_of_block hb rfl
  have hcs : w.cell? ⟨D, 2 * k + 1, none⟩ = some (.int .i64 (st.s k)) := by
    rcases (by omega : k = 0 ∨ k = 1 ∨ k = 2 ∨ k = 3) with rfl | rfl | rfl | rfl <;> exact cell_of_block hb rfl
  have c8 : w.cell? ⟨D, 8, none⟩ = some (.int .i64 lf) := cell_of_block hb rfl
  have c9 : w.cell? ⟨D, 9, none⟩ = some (.bool ar) := cell_of_block hb rfl
  have c10 : w.cell? ⟨D, 10, none⟩ = some (.bool false) := by rw [← hdn]; exact cell_of_block hb rfl
  have f8 := free_of_block 8 hb
  have f9 := free_of_block 9 hb
  have f10 := free_of_block 10 hb
  have fk := free_of_block (2 * k) hb
  have fk1 := free_of_block (2 * k + 1) hb
  have hfull : ¬ 1048576 - ((st.b k).length : Int) < (([] : List Int).length : Int) := by simp; omega
  have hd : decide ((0 : Int) > 1048576 - ((st.b k).length : Int)) = false := decide_eq_false (by omega)
  have hne : ∀ g, (v k).ownBlock = some g → g ≠ D := fun g hg => (hr.foot k g hk hg).2
  have HO := Lib.hid (hvk ▸ hr.own k hk : OwnTxt w 0 (.slice av (st.b k).length cv) (st.b k))
  have HN := Lib.hid (hvk ▸ hne : ∀ g, (Value.slice av (st.b k).length cv).ownBlock = some g → g ≠ D)
  have HR := Lib.hid hr
  have HB := Lib.hid hb
  have HM := Lib.hid hm
  have HV := Lib.hid hvk
  have HF := Lib.hid hft
  have HS := Lib.hid hsf
  have HL := Lib.hid hl
  have HW := Lib.hid hw
  have HU := Lib.hid hfull
  have HD := Lib.hid hdn
  have HT := Lib.hid hlt
  have hidx : ∀ w : World, Sem.run Tryd.prog (Instr.index 136 (.agg #[.func (.func 73) #[] #[], .func (.func 74) #[] #[], .func (.func 75) #[] #[]]) (.int .i64 1)) w = .ok (.func (.func 74) #[] #[]) w := fun w => by kernel_rfl
  rcases hx with ⟨rfl, hlf, hpos⟩ | ⟨rfl, hlf⟩
  · have hp0 : 0 ≤ lf := by rcases hpos with h | h; exact h; rw [hdn] at h; cases h
    by_cases hz : lf = 0
    · subst hz
      have HLF := Lib.hid hlf
      have HPOS := Lib.hid (hpos)
      clear hfit hf0 hf3 hne hr hb hm hvk hft hsf hl hw hfull hdn hlt hlf hpos
      rcases (by omega : k = 0 ∨ k = 1 ∨ k = 2 ∨ k = 3) with rfl | rfl | rfl | rfl
      · simp only [Nat.reduceMul, Nat.reduceAdd] at hcv hcs fk fk1
        go_enter Tryd.func58, Tryd.ntmps58
        go_wp2_with fail
        refine K.out.mono ?_
        rintro e w' ⟨rfl, rfl⟩
        go_wp2_with (fail)
        go_ret
        have hlf := HLF.out; have hl := HL.out; have hdn := HD.out; have hpos := HPOS.out
        have hfit := HF.out 0 hk
        have hcf : callF 1 st ((0 : Nat) : Int) [] = _ := callF_downs HW.out (by have := HU.out; omega) (by omega)
        unfold CallEnd
        rw [hcf]
        exact ⟨rfl, ⟨.inl HM.out, HF.out, HS.out, ⟨by show -1 ≤ (-1 : Int); omega, by show (-1 : Int) ≤ _; omega⟩, v, (-1), true, (((wrote_refl HB.out).set 10 (.bool true)).set 8 (.int .i64 (-1))).there, HR.out.keep (fun j hj hne => (((wrote_refl HB.out).set 10 (.bool true)).set 8 (.int .i64 (-1))).rest j hne), .inl ⟨rfl, rfl, .inr rfl⟩⟩, (((Fr.refl F w).set HM.out 10 _).set HM.out 8 _)⟩
      · simp only [Nat.reduceMul, Nat.reduceAdd] at hcv hcs fk fk1
        go_enter Tryd.func58, Tryd.ntmps58
        go_wp2_with fail
        refine K.out.mono ?_
        rintro e w' ⟨rfl, rfl⟩
        go_wp2_with (fail)
        go_ret
        have hlf := HLF.out; have hl := HL.out; have hdn := HD.out; have hpos := HPOS.out
        have hfit := HF.out 1 hk
        have hcf : callF 1 st ((1 : Nat) : Int) [] = _ := callF_downs HW.out (by have := HU.out; omega) (by omega)
        unfold CallEnd
        rw [hcf]
        exact ⟨rfl, ⟨.inl HM.out, HF.out, HS.out, ⟨by show -1 ≤ (-1 : Int); omega, by show (-1 : Int) ≤ _; omega⟩, v, (-1), true, (((wrote_refl HB.out).set 10 (.bool true)).set 8 (.int .i64 (-1))).there, HR.out.keep (fun j hj hne => (((wrote_refl HB.out).set 10 (.bool true)).set 8 (.int .i64 (-1))).rest j hne), .inl ⟨rfl, rfl, .inr rfl⟩⟩, (((Fr.refl F w).set HM.out 10 _).set HM.out 8 _)⟩
      · simp only [Nat.reduceMul, Nat.reduceAdd] at hcv hcs fk fk1
        go_enter Tryd.func58, Tryd.ntmps58
        go_wp2_with fail
        refine K.out.mono ?_
        rintro e w' ⟨rfl, rfl⟩
        go_wp2_with (fail)
        go_ret
        have hlf := HLF.out; have hl := HL.out; have hdn := HD.out; have hpos := HPOS.out
        have hfit := HF.out 2 hk
        have hcf : callF 1 st ((2 : Nat) : Int) [] = _ := callF_downs HW.out (by have := HU.out; omega) (by omega)
        unfold CallEnd
        rw [hcf]
        exact ⟨rfl, ⟨.inl HM.out, HF.out, HS.out, ⟨by show -1 ≤ (-1 : Int); omega, by show (-1 : Int) ≤ _; omega⟩, v, (-1), true, (((wrote_refl HB.out).set 10 (.bool true)).set 8 (.int .i64 (-1))).there, HR.out.keep (fun j hj hne => (((wrote_refl HB.out).set 10 (.bool true)).set 8 (.int .i64 (-1))).rest j hne), .inl ⟨rfl, rfl, .inr rfl⟩⟩, (((Fr.refl F w).set HM.out 10 _).set HM.out 8 _)⟩
      · simp only [Nat.reduceMul, Nat.reduceAdd] at hcv hcs fk fk1
        go_enter Tryd.func58, Tryd.ntmps58
        go_wp2_with fail
        refine K.out.mono ?_
        rintro e w' ⟨rfl, rfl⟩
        go_wp2_with (fail)
        go_ret
        have hlf := HLF.out; have hl := HL.out; have hdn := HD.out; have hpos := HPOS.out
        have hfit := HF.out 3 hk
        have hcf : callF 1 st ((3 : Nat) : Int) [] = _ := callF_downs HW.out (by have := HU.out; omega) (by omega)
        unfold CallEnd
        rw [hcf]
        exact ⟨rfl, ⟨.inl HM.out, HF.out, HS.out, ⟨by show -1 ≤ (-1 : Int); omega, by show (-1 : Int) ≤ _; omega⟩, v, (-1), true, (((wrote_refl HB.out).set 10 (.bool true)).set 8 (.int .i64 (-1))).there, HR.out.keep (fun j hj hne => (((wrote_refl HB.out).set 10 (.bool true)).set 8 (.int .i64 (-1))).rest j hne), .inl ⟨rfl, rfl, .inr rfl⟩⟩, (((Fr.refl F w).set HM.out 10 _).set HM.out 8 _)⟩
    · have hq : (lf == 0) = false := by simpa using hz
      have hz2 : decide (lf = 0) = false := decide_eq_false hz
      have hw1 : IntKind.i64.wrap (lf - 1) = lf - 1 := IntWalk.i64_in _ (by omega)
      have HLF := Lib.hid hlf
      have HPOS := Lib.hid (hpos)
      clear hfit hf0 hf3 hne hr hb hm hvk hft hsf hl hw hfull hdn hlt hlf hpos
      rcases (by omega : k = 0 ∨ k = 1 ∨ k = 2 ∨ k = 3) with rfl | rfl | rfl | rfl
      · simp only [Nat.reduceMul, Nat.reduceAdd] at hcv hcs fk fk1
        go_enter Tryd.func58, Tryd.ntmps58
        go_wp2_with fail
        refine K.out.mono ?_
        rintro e w' ⟨rfl, rfl⟩
        go_wp2_with (go_in)
        go_end0
        go_wp2
        go_ret
        have hlf := HLF.out; have hl := HL.out; have hdn := HD.out; have hpos := HPOS.out
        have hfit := HF.out 0 hk
        have hcf : callF 1 st ((0 : Nat) : Int) [] = _ := callF_done HW.out (by have := HU.out; omega) (by omega)
        unfold CallEnd
        rw [hcf]
        refine ⟨rfl, ⟨.inl HM.out, HF.out, ?_, ⟨by show -1 ≤ (if 0 < st.left then st.left - 1 else st.left); split <;> omega, by show (if 0 < st.left then st.left - 1 else st.left) ≤ _; split <;> omega⟩, v, (lf - 1), true, (there_down HD.out ((((wrote_refl HB.out).set 10 (.bool false)).set 8 (.int .i64 (lf - 1))).set 1 (.int .i64 ((st.b 0).length : Int))).there), HR.out.keep (fun j hj hne => ((((wrote_refl HB.out).set 10 (.bool false)).set 8 (.int .i64 (lf - 1))).set 1 (.int .i64 ((st.b 0).length : Int))).rest j hne), .inl ⟨rfl, by show lf - 1 = (if 0 < st.left then st.left - 1 else st.left); rw [if_pos (by omega)]; omega, .inl (by omega)⟩⟩, (((Fr.refl F w).set HM.out 10 _).set HM.out 8 _).set HM.out 1 _⟩
        intro j hj
        show upd st.s 0 (st.b 0).length j ≤ (st.b j).length
        by_cases e : j = 0
        · subst e; rw [upd_at]; omega
        · rw [upd_ne _ _ e]; exact HS.out j hj
      · simp only [Nat.reduceMul, Nat.reduceAdd] at hcv hcs fk fk1
        go_enter Tryd.func58, Tryd.ntmps58
        go_wp2_with fail
        refine K.out.mono ?_
        rintro e w' ⟨rfl, rfl⟩
        go_wp2_with (go_in)
        go_end0
        go_wp2
        go_ret
        have hlf := HLF.out; have hl := HL.out; have hdn := HD.out; have hpos := HPOS.out
        have hfit := HF.out 1 hk
        have hcf : callF 1 st ((1 : Nat) : Int) [] = _ := callF_done HW.out (by have := HU.out; omega) (by omega)
        unfold CallEnd
        rw [hcf]
        refine ⟨rfl, ⟨.inl HM.out, HF.out, ?_, ⟨by show -1 ≤ (if 0 < st.left then st.left - 1 else st.left); split <;> omega, by show (if 0 < st.left then st.left - 1 else st.left) ≤ _; split <;> omega⟩, v, (lf - 1), true, (there_down HD.out ((((wrote_refl HB.out).set 10 (.bool false)).set 8 (.int .i64 (lf - 1))).set 3 (.int .i64 ((st.b 1).length : Int))).there), HR.out.keep (fun j hj hne => ((((wrote_refl HB.out).set 10 (.bool false)).set 8 (.int .i64 (lf - 1))).set 3 (.int .i64 ((st.b 1).length : Int))).rest j hne), .inl ⟨rfl, by show lf - 1 = (if 0 < st.left then st.left - 1 else st.left); rw [if_pos (by omega)]; omega, .inl (by omega)⟩⟩, (((Fr.refl F w).set HM.out 10 _).set HM.out 8 _).set HM.out 3 _⟩
        intro j hj
        show upd st.s 1 (st.b 1).length j ≤ (st.b j).length
        by_cases e : j = 1
        · subst e; rw [upd_at]; omega
        · rw [upd_ne _ _ e]; exact HS.out j hj
      · simp only [Nat.reduceMul, Nat.reduceAdd] at hcv hcs fk fk1
        go_enter Tryd.func58, Tryd.ntmps58
        go_wp2_with fail
        refine K.out.mono ?_
        rintro e w' ⟨rfl, rfl⟩
        go_wp2_with (go_in)
        go_end0
        go_wp2
        go_ret
        have hlf := HLF.out; have hl := HL.out; have hdn := HD.out; have hpos := HPOS.out
        have hfit := HF.out 2 hk
        have hcf : callF 1 st ((2 : Nat) : Int) [] = _ := callF_done HW.out (by have := HU.out; omega) (by omega)
        unfold CallEnd
        rw [hcf]
        refine ⟨rfl, ⟨.inl HM.out, HF.out, ?_, ⟨by show -1 ≤ (if 0 < st.left then st.left - 1 else st.left); split <;> omega, by show (if 0 < st.left then st.left - 1 else st.left) ≤ _; split <;> omega⟩, v, (lf - 1), true, (there_down HD.out ((((wrote_refl HB.out).set 10 (.bool false)).set 8 (.int .i64 (lf - 1))).set 5 (.int .i64 ((st.b 2).length : Int))).there), HR.out.keep (fun j hj hne => ((((wrote_refl HB.out).set 10 (.bool false)).set 8 (.int .i64 (lf - 1))).set 5 (.int .i64 ((st.b 2).length : Int))).rest j hne), .inl ⟨rfl, by show lf - 1 = (if 0 < st.left then st.left - 1 else st.left); rw [if_pos (by omega)]; omega, .inl (by omega)⟩⟩, (((Fr.refl F w).set HM.out 10 _).set HM.out 8 _).set HM.out 5 _⟩
        intro j hj
        show upd st.s 2 (st.b 2).length j ≤ (st.b j).length
        by_cases e : j = 2
        · subst e; rw [upd_at]; omega
        · rw [upd_ne _ _ e]; exact HS.out j hj
      · simp only [Nat.reduceMul, Nat.reduceAdd] at hcv hcs fk fk1
        go_enter Tryd.func58, Tryd.ntmps58
        go_wp2_with fail
        refine K.out.mono ?_
        rintro e w' ⟨rfl, rfl⟩
        go_wp2_with (go_in)
        go_end0
        go_wp2
        go_ret
        have hlf := HLF.out; have hl := HL.out; have hdn := HD.out; have hpos := HPOS.out
        have hfit := HF.out 3 hk
        have hcf : callF 1 st ((3 : Nat) : Int) [] = _ := callF_done HW.out (by have := HU.out; omega) (by omega)
        unfold CallEnd
        rw [hcf]
        refine ⟨rfl, ⟨.inl HM.out, HF.out, ?_, ⟨by show -1 ≤ (if 0 < st.left then st.left - 1 else st.left); split <;> omega, by show (if 0 < st.left then st.left - 1 else st.left) ≤ _; split <;> omega⟩, v, (lf - 1), true, (there_down HD.out ((((wrote_refl HB.out).set 10 (.bool false)).set 8 (.int .i64 (lf - 1))).set 7 (.int .i64 ((st.b 3).length : Int))).there), HR.out.keep (fun j hj hne => ((((wrote_refl HB.out).set 10 (.bool false)).set 8 (.int .i64 (lf - 1))).set 7 (.int .i64 ((st.b 3).length : Int))).rest j hne), .inl ⟨rfl, by show lf - 1 = (if 0 < st.left then st.left - 1 else st.left); rw [if_pos (by omega)]; omega, .inl (by omega)⟩⟩, (((Fr.refl F w).set HM.out 10 _).set HM.out 8 _).set HM.out 7 _⟩
        intro j hj
        show upd st.s 3 (st.b 3).length j ≤ (st.b j).length
        by_cases e : j = 3
        · subst e; rw [upd_at]; omega
        · rw [upd_ne _ _ e]; exact HS.out j hj
  · have HLF := Lib.hid hlf
    have HPOS := Lib.hid (True.intro)
    clear hfit hf0 hf3 hne hr hb hm hvk hft hsf hl hw hfull hdn hlt hlf
    rcases (by omega : k = 0 ∨ k = 1 ∨ k = 2 ∨ k = 3) with rfl | rfl | rfl | rfl
    · simp only [Nat.reduceMul, Nat.reduceAdd] at hcv hcs fk fk1
      go_enter Tryd.func58, Tryd.ntmps58
      go_wp2_with fail
      refine K.out.mono ?_
      rintro e w' ⟨rfl, rfl⟩
      go_wp2_with (go_in)
      go_end0
      go_wp2
      go_ret
      have hlf := HLF.out; have hl := HL.out; have hdn := HD.out; have hpos := HPOS.out
      have hfit := HF.out 0 hk
      have hcf : callF 1 st ((0 : Nat) : Int) [] = _ := callF_done HW.out (by have := HU.out; omega) (by omega)
      unfold CallEnd
      rw [hcf]
      refine ⟨rfl, ⟨.inl HM.out, HF.out, ?_, ⟨by show -1 ≤ (if 0 < st.left then st.left - 1 else st.left); split <;> omega, by show (if 0 < st.left then st.left - 1 else st.left) ≤ _; split <;> omega⟩, v, lf, false, (there_down HD.out (((wrote_refl HB.out).set 10 (.bool false)).set 1 (.int .i64 ((st.b 0).length : Int))).there), HR.out.keep (fun j hj hne => (((wrote_refl HB.out).set 10 (.bool false)).set 1 (.int .i64 ((st.b 0).length : Int))).rest j hne), .inr ⟨rfl, by show (if 0 < st.left then st.left - 1 else st.left) = -1; rw [if_neg (by omega)]; exact hlf⟩⟩, ((Fr.refl F w).set HM.out 10 _).set HM.out 1 _⟩
      intro j hj
      show upd st.s 0 (st.b 0).length j ≤ (st.b j).length
      by_cases e : j = 0
      · subst e; rw [upd_at]; omega
      · rw [upd_ne _ _ e]; exact HS.out j hj
    · simp only [Nat.reduceMul, Nat.reduceAdd] at hcv hcs fk fk1
      go_enter Tryd.func58, Tryd.ntmps58
      go_wp2_with fail
      refine K.out.mono ?_
      rintro e w' ⟨rfl, rfl⟩
      go_wp2_with (go_in)
      go_end0
      go_wp2
      go_ret
      have hlf := HLF.out; have hl := HL.out; have hdn := HD.out; have hpos := HPOS.out
      have hfit := HF.out 1 hk
      have hcf : callF 1 st ((1 : Nat) : Int) [] = _ := callF_done HW.out (by have := HU.out; omega) (by omega)
      unfold CallEnd
      rw [hcf]
      refine ⟨rfl, ⟨.inl HM.out, HF.out, ?_, ⟨by show -1 ≤ (if 0 < st.left then st.left - 1 else st.left); split <;> omega, by show (if 0 < st.left then st.left - 1 else st.left) ≤ _; split <;> omega⟩, v, lf, false, (there_down HD.out (((wrote_refl HB.out).set 10 (.bool false)).set 3 (.int .i64 ((st.b 1).length : Int))).there), HR.out.keep (fun j hj hne => (((wrote_refl HB.out).set 10 (.bool false)).set 3 (.int .i64 ((st.b 1).length : Int))).rest j hne), .inr ⟨rfl, by show (if 0 < st.left then st.left - 1 else st.left) = -1; rw [if_neg (by omega)]; exact hlf⟩⟩, ((Fr.refl F w).set HM.out 10 _).set HM.out 3 _⟩
      intro j hj
      show upd st.s 1 (st.b 1).length j ≤ (st.b j).length
      by_cases e : j = 1
      · subst e; rw [upd_at]; omega
      · rw [upd_ne _ _ e]; exact HS.out j hj
    · simp only [Nat.reduceMul, Nat.reduceAdd] at hcv hcs fk fk1
      go_enter Tryd.func58, Tryd.ntmps58
      go_wp2_with fail
      refine K.out.mono ?_
      rintro e w' ⟨rfl, rfl⟩
      go_wp2_with (go_in)
      go_end0
      go_wp2
      go_ret
      have hlf := HLF.out; have hl := HL.out; have hdn := HD.out; have hpos := HPOS.out
      have hfit := HF.out 2 hk
      have hcf : callF 1 st ((2 : Nat) : Int) [] = _ := callF_done HW.out (by have := HU.out; omega) (by omega)
      unfold CallEnd
      rw [hcf]
      refine ⟨rfl, ⟨.inl HM.out, HF.out, ?_, ⟨by show -1 ≤ (if 0 < st.left then st.left - 1 else st.left); split <;> omega, by show (if 0 < st.left then st.left - 1 else st.left) ≤ _; split <;> omega⟩, v, lf, false, (there_down HD.out (((wrote_refl HB.out).set 10 (.bool false)).set 5 (.int .i64 ((st.b 2).length : Int))).there), HR.out.keep (fun j hj hne => (((wrote_refl HB.out).set 10 (.bool false)).set 5 (.int .i64 ((st.b 2).length : Int))).rest j hne), .inr ⟨rfl, by show (if 0 < st.left then st.left - 1 else st.left) = -1; rw [if_neg (by omega)]; exact hlf⟩⟩, ((Fr.refl F w).set HM.out 10 _).set HM.out 5 _⟩
      intro j hj
      show upd st.s 2 (st.b 2).length j ≤ (st.b j).length
      by_cases e : j = 2
      · subst e; rw [upd_at]; omega
      · rw [upd_ne _ _ e]; exact HS.out j hj
    · simp only [Nat.reduceMul, Nat.reduceAdd] at hcv hcs fk fk1
      go_enter Tryd.func58, Tryd.ntmps58
      go_wp2_with fail
      refine K.out.mono ?_
      rintro e w' ⟨rfl, rfl⟩
      go_wp2_with (go_in)
      go_end0
      go_wp2
      go_ret
      have hlf := HLF.out; have hl := HL.out; have hdn := HD.out; have hpos := HPOS.out
      have hfit := HF.out 3 hk
      have hcf : callF 1 st ((3 : Nat) : Int) [] = _ := callF_done HW.out (by have := HU.out; omega) (by omega)
      unfold CallEnd
      rw [hcf]
      refine ⟨rfl, ⟨.inl HM.out, HF.out, ?_, ⟨by show -1 ≤ (if 0 < st.left then st.left - 1 else st.left); split <;> omega, by show (if 0 < st.left then st.left - 1 else st.left) ≤ _; split <;> omega⟩, v, lf, false, (there_down HD.out (((wrote_refl HB.out).set 10 (.bool false)).set 7 (.int .i64 ((st.b 3).length : Int))).there), HR.out.keep (fun j hj hne => (((wrote_refl HB.out).set 10 (.bool false)).set 7 (.int .i64 ((st.b 3).length : Int))).rest j hne), .inr ⟨rfl, by show (if 0 < st.left then st.left - 1 else st.left) = -1; rw [if_neg (by omega)]; exact hlf⟩⟩, ((Fr.refl F w).set HM.out 10 _).set HM.out 7 _⟩
      intro j hj
      show upd st.s 3 (st.b 3).length j ≤ (st.b j).length
      by_cases e : j = 3
      · subst e; rw [upd_at]; omega
      · rw [upd_ne _ _ e]; exact HS.out j hj
end Go.Proofs.YtomhfnaekjmjnaaDoor
