/- Laws that belong together: A disk that was made: its fall. No condition.; A disk that is made; another one that is as it is. No condition. -/
import Derived.Test.YtomhfnaekjmjnaaDoorMaj
import Derived.Lib.MinMax
namespace Go.Proofs.YtomhfnaekjmjnaaDoor
set_option linter.unusedVariables false
open Go.ChangeShapes Go.WideShapes Go.ChangeAt Go.RowKit
attribute [local go_sem ↓] Go.wp_at_zero Go.wp_at_succ comesTo_value_eq comesTo_skip_eq comesTo_enter_eq

/-- how many bytes of a file are there behind a fall -/
def fallS (st : DS) (keep : Nat → Int) (k : Nat) : Nat := st.s k + min (max (keep k) 0).toNat ((st.b k).length - st.s k)
theorem fallS_le {st : DS} {keep : Nat → Int} {k : Nat} (h : st.s k ≤ (st.b k).length) : fallS st keep k ≤ (st.b k).length := by unfold fallS; omega
theorem fallS_eq {st : DS} {keep : Nat → Int} {k : Nat} (h : st.s k ≤ (st.b k).length) : ((st.s k : Nat) : Int) + min (max (keep k) 0) (((st.b k).length : Int) - (st.s k : Int)) = ((fallS st keep k : Nat) : Int) := by
  unfold fallS
  omega
/-- its first m files are cut -/
def DS.cut (st : DS) (keep : Nat → Int) (m : Nat) : DS := { st with b := fun j => if j < m then (st.b j).take (fallS st keep j) else st.b j, s := fun j => if j < m then fallS st keep j else st.s j }
theorem cut_b (st : DS) (keep : Nat → Int) (k : Nat) : (st.cut keep (k + 1)).b = upd (st.cut keep k).b k ((st.b k).take (fallS st keep k)) := by
  funext j
  show (if j < k + 1 then _ else _) = if j = k then _ else (if j < k then _ else _)
  by_cases h : j = k
  · subst h; rw [if_pos (by omega), if_pos rfl]
  · rw [if_neg h]
    by_cases h2 : j < k
    · rw [if_pos (by omega), if_pos h2]
    · rw [if_neg (by omega), if_neg h2]
theorem cut_s (st : DS) (keep : Nat → Int) (k : Nat) : (st.cut keep (k + 1)).s = upd (st.cut keep k).s k (fallS st keep k) := by
  funext j
  show (if j < k + 1 then _ else _) = if j = k then _ else (if j < k then _ else _)
  by_cases h : j = k
  · subst h; rw [if_pos (by omega), if_pos rfl]
  · rw [if_neg h]
    by_cases h2 : j < k
    · rw [if_pos (by omega), if_pos h2]
    · rw [if_neg (by omega), if_neg h2]
theorem cut_zero (st : DS) (keep : Nat → Int) : st.cut keep 0 = st := by
  unfold DS.cut
  simp
/-- a fall -/
def fallF (st : DS) (keep : Nat → Int) : DS := { st.cut keep 4 with left := -1, down := false }
theorem WroteTo.drew {w0 w : World} {b : Nat} {cs : Array Value} {T : TypeId} (h : WroteTo b T cs w0 w) : WroteTo b T cs w0 w.drew := ⟨h.os, h.tape, h.output, h.size, h.rest, h.there⟩
theorem Fr.drew {F : Nat → Prop} {w w' : World} (h : Fr F w w') : Fr F w w'.drew := ⟨h.os, h.tape, h.output, h.size, h.block⟩
theorem DRows.updRow' {w w' : World} {D : Nat} {F : Nat → Prop} {v : Nat → Value} {b : Nat → List Int} (h : DRows w D F v b) {k : Nat} (hk : k < 4) {u : Value} {xs : List Int}
    (hb : ∀ j, j ≠ D → w'.heap[j]? = w.heap[j]?) (hu : OwnTxt w 0 u xs) (hub : ∀ g, u.ownBlock = some g → (v k).ownBlock = some g) :
    DRows w' D F (upd v k u) (upd b k xs) := by
  refine ⟨fun j hj => ?_, fun j g hj hg => ?_, fun j i g hj hi hne hg hc => ?_⟩
  · by_cases hjk : j = k
    · subst hjk; rw [upd_at, upd_at]; exact hu.of_block fun g hg => hb g (h.foot j g hj (hub g hg)).2
    · rw [upd_ne _ _ hjk, upd_ne _ _ hjk]
      exact (h.own j hj).of_block fun g hg => hb g (h.foot j g hj hg).2
  · by_cases hjk : j = k
    · subst hjk
      rw [upd_at] at hg
      exact h.foot j g hj (hub g hg)
    · rw [upd_ne _ _ hjk] at hg
      exact h.foot j g hj hg
  · have hg' : (v j).ownBlock = some g := by
      by_cases hjk : j = k
      · subst hjk; rw [upd_at] at hg; exact hub g hg
      · rw [upd_ne _ _ hjk] at hg; exact hg
    have hc' : (v i).ownBlock = some g := by
      by_cases hik : i = k
      · subst hik; rw [upd_at] at hc; exact hub g hc
      · rw [upd_ne _ _ hik] at hc; exact hc
    exact h.apart j i g hj hi hne hg' hc'
/-- in the midst of a fall -/
def FallAt (W : World) (D : Nat) (F : Nat → Prop) (st : DS) (keep : Nat → Int) (lf : Int) (ar : Bool) (k : Nat) (wr : World) : Prop :=
  (∃ v, wr.heap[D]? = some (.cells (dkCells v (st.cut keep k).s lf ar st.down) 108 (0, 0)) ∧ DRows wr D F v (st.cut keep k).b) ∧ Fr F W wr ∧
    wr.heap[W.heap.size]? = some (.cells #[.int .i64 (keep 0), .int .i64 (keep 1), .int .i64 (keep 2), .int .i64 (keep 3)] 52 (0, 0))
theorem FallAt.next {W wr w' : World} {D : Nat} {F : Nat → Prop} {st : DS} {keep : Nat → Int} {lf : Int} {ar : Bool} {k : Nat} (hk : k < 4) (hD : F D) (hlt : D < W.heap.size) {v : Nat → Value} {m c : Nat} {av : Option Addr}
    (hv : v k = .slice av m c) (hr : DRows wr D F v (st.cut keep k).b) (hsafe : st.s k ≤ (st.b k).length) (hfr : Fr F W wr)
    (hkeep : wr.heap[W.heap.size]? = some (.cells #[.int .i64 (keep 0), .int .i64 (keep 1), .int .i64 (keep 2), .int .i64 (keep 3)] 52 (0, 0)))
    (cs : Array Value) (hcs : cs = dkCells (upd v k (.slice av (fallS st keep k) c)) (upd (st.cut keep k).s k (fallS st keep k)) lf ar st.down) (hw : WroteTo D 108 cs wr w') : FallAt W D F st keep lf ar (k + 1) w' := by
  subst hcs
  have hb : (st.cut keep k).b k = st.b k := by show (if k < k then _ else _) = _; rw [if_neg (by omega)]
  refine ⟨⟨_, by rw [cut_s]; exact hw.there, by
    rw [cut_b]
    refine hr.updRow' hk hw.rest ?_ (fun g hg => ?_)
    · have := hr.own k hk
      rw [hv, hb] at this
      exact this.take (fallS_le hsafe)
    · rw [hv]
      cases av with
      | none => cases hg
      | some a => exact hg⟩, ?_, ?_⟩
  · refine ⟨hw.os.trans hfr.os, hw.tape.trans hfr.tape, hw.output.trans hfr.output, by rw [hw.size]; exact hfr.size, fun j hj hn => (hw.rest j (fun e => hn (e ▸ hD))).trans (hfr.block j hj hn)⟩
  · rw [hw.rest _ (by omega)]; exact hkeep
set_option maxRecDepth 100000 in
set_option maxHeartbeats 4000000 in
theorem fall_dk {W : World} {D : Nat} {F : Nat → Prop} {st : DS} (h : Dk W D F st) (keep : Nat → Int) :
    Calls Tryd.prog 23 #[.pointer (some ⟨D, 0, none⟩), .agg #[.int .i64 (keep 0), .int .i64 (keep 1), .int .i64 (keep 2), .int .i64 (keep 3)]] W fun e w' => e = .returned (.tuple #[]) ∧ Dk w' D F (fallF st keep) ∧ Fr F W w' := by
  have hmx : Tryd.prog.follows .mixedOrders = true := by kernel_rfl
  obtain ⟨hm, hft, hsf, hl, v, lf, ar, hb, hr, hx⟩ := h
  have hlt : D < W.heap.size := (Array.getElem?_eq_some_iff.1 hb).1
  have hA := below_alloc (Below.refl _ W) (.cells #[.int .i64 (keep 0), .int .i64 (keep 1), .int .i64 (keep 2), .int .i64 (keep 3)] 52)
  have hst : FallAt W D F st keep lf ar 0 (W.alloc (.cells #[.int .i64 (keep 0), .int .i64 (keep 1), .int .i64 (keep 2), .int .i64 (keep 3)] 52)) :=
    ⟨⟨v, by rw [cut_zero, hA.block D hlt]; exact hb, by rw [cut_zero]; exact ⟨fun k hk => (hr.own k hk).below hA, hr.foot, hr.apart⟩⟩, Fr.of_below hA, World.alloc_heap_new W _⟩
  have c11 : (W.alloc (.cells #[.int .i64 (keep 0), .int .i64 (keep 1), .int .i64 (keep 2), .int .i64 (keep 3)] 52)).cell? ⟨D, 11, none⟩ = some (.bool true) := by
    rw [hA.cell (p := ⟨D, 11, none⟩) hlt]; exact cell_of_block hb rfl
  have KT := Lib.hid (there_yes c11)
  have HS := Lib.hid hst
  have HM := Lib.hid hm
  have HFT := Lib.hid hft
  have HSF := Lib.hid hsf
  have HLT := Lib.hid hlt
  clear hst c11 hx hr hb hA hm hft hsf hlt hl
  go_enter Tryd.func23, Tryd.ntmps23
  go_wp2_with fail
  refine KT.out.mono ?_
  rintro e w' ⟨rfl, rfl⟩
  go_wp2_with fail
  go_loopw [9] (fun i wr => ∃ k : Nat, k ≤ 4 ∧ i = .int .i64 k ∧ FallAt W D F st keep lf ar k wr) (fun i _ => 4 - (intOf i).toNat)
  case atStart => exact ⟨0, by decide, rfl, HS.out⟩
  case round =>
    obtain ⟨k, hk, rfl, hst⟩ := hrel
    rcases (by omega : k = 0 ∨ k = 1 ∨ k = 2 ∨ k = 3 ∨ k = 4) with rfl | rfl | rfl | rfl | rfl
    · obtain ⟨⟨v', hb, hr⟩, hfr, hkp⟩ := hst
      obtain ⟨av, cv, hvk, hsp, hcap⟩ : ∃ av cv, v' 0 = .slice av (st.b 0).length cv ∧ ((av = none ∧ (st.b 0).length = 0 ∧ cv = 0) ∨ ∃ g, av = some ⟨g, 0, none⟩) ∧ (st.b 0).length ≤ cv := by
        have h0 : OwnTxt wr 0 (v' 0) (st.b 0) := hr.own 0 (by decide)
        rcases h0.form with ⟨h1, h2⟩ | ⟨g, c, h1, h2, _⟩
        · exact ⟨none, 0, by rw [h1, h2]; rfl, .inl ⟨rfl, by rw [h2]; rfl, rfl⟩, by rw [h2]; exact Nat.le_refl _⟩
        · exact ⟨_, c, h1, .inr ⟨g, rfl⟩, h2⟩
      have hsafe := HSF.out 0 (by decide)
      have hfit := HFT.out 0 (by decide)
      have hle := fallS_le (keep := keep) hsafe
      have hwr1 : IntKind.i64.wrap (((st.b 0).length : Int) - (st.s 0 : Int)) = ((st.b 0).length : Int) - (st.s 0 : Int) := IntWalk.i64_in _ (by omega)
      have hwr2 : IntKind.i64.wrap ((st.s 0 : Int) + min (max (keep 0) 0) (((st.b 0).length : Int) - (st.s 0 : Int))) = ((fallS st keep 0 : Nat) : Int) := by rw [fallS_eq hsafe]; exact IntWalk.i64_in _ (by omega)
      have hwr3 : wrap64 ((st.s 0 : Int) + min (max (keep 0) 0) (((st.b 0).length : Int) - (st.s 0 : Int))) = ((fallS st keep 0 : Nat) : Int) := by rw [fallS_eq hsafe]; unfold wrap64; omega
      have hsl := slice_to hsp (Nat.le_trans hle hcap)
      have cb : wr.cell? ⟨D, 0, none⟩ = some (.slice av (st.b 0).length cv) := by rw [← hvk]; exact cell_of_block hb rfl
      have cs : wr.cell? ⟨D, 1, none⟩ = some (.int .i64 (st.s 0)) := cell_of_block hb rfl
      have fb := free_of_block 0 hb
      have fs := free_of_block 1 hb
      have ck : wr.cell? ⟨W.heap.size, 0, none⟩ = some (.int .i64 (keep 0)) := cell_of_block hkp rfl
      have END := Lib.hid (fun w' (cs : Array Value) (hcs : cs = dkCells (upd v' 0 (.slice av (fallS st keep 0) cv)) (upd (st.cut keep 0).s 0 (fallS st keep 0)) lf ar st.down) (hw : WroteTo D 108 cs wr w') => FallAt.next (k := 0) (by decide) HM.out HLT.out hvk hr hsafe hfr hkp cs hcs hw)
      have HB := Lib.hid hb
      have HVK := Lib.hid hvk
      clear hb hr hfr hkp hvk hsp hcap hsafe hfit hle
      go_wp2_with fail
      refine wp_region_grow_tail 22 (fun w' => w' = wr.drew) hmx (by kernel_rfl) rfl ?_
      simp only [List.take_succ_cons, List.take_zero, List.drop_succ_cons, List.drop_zero]
      iterate 22 (refine textS_run ?_ ?_ (fun W hS => ?_) ?_; rotate_left; (focus go_simp); (focus (subst hS; go_simp; all_goals (first | exact ⟨rfl, rfl⟩ | rfl | (refine ⟨?_, rfl⟩; rfl)))); (try go_simp))
      refine textS_nil ?_
      go_wp2_with fail
      have hdr : (wr.setCell ⟨D, 1, none⟩ (.int .i64 ((fallS st keep 0 : Nat) : Int))).heap[D]? = _ := ((wrote_refl HB.out).set 1 (.int .i64 ((fallS st keep 0 : Nat) : Int))).there
      have cb2 : (wr.setCell ⟨D, 1, none⟩ (.int .i64 ((fallS st keep 0 : Nat) : Int))).cell? ⟨D, 0, none⟩ = some (.slice av (st.b 0).length cv) := by rw [← HVK.out]; exact cell_of_block hdr rfl
      have cs2 : (wr.setCell ⟨D, 1, none⟩ (.int .i64 ((fallS st keep 0 : Nat) : Int))).cell? ⟨D, 1, none⟩ = some (.int .i64 ((fallS st keep 0 : Nat) : Int)) := cell_of_block hdr rfl
      have fb2 := free_of_block 0 hdr
      have HDR := Lib.hid hdr
      clear cb cs fb fs hdr
      refine wp_region_grow_tail 12 (fun w' => w' = (wr.setCell ⟨D, 1, none⟩ (.int .i64 ((fallS st keep 0 : Nat) : Int))).drew.drew) hmx (by kernel_rfl) rfl ?_
      simp only [List.take_succ_cons, List.take_zero, List.drop_succ_cons, List.drop_zero]
      iterate 12 (refine textS_run ?_ ?_ (fun W hS => ?_) ?_; rotate_left; (focus go_simp); (focus (subst hS; go_simp; all_goals (first | exact ⟨rfl, rfl⟩ | rfl | (refine ⟨?_, rfl⟩; rfl)))); (try go_simp))
      refine textS_nil ?_
      go_wp2_with fail
      go_roundw
      case rel => exact ⟨1, by decide, by go_num, END.out _ _ rfl ((((wrote_refl HB.out).set 1 (.int .i64 ((fallS st keep 0 : Nat) : Int))).set 0 (.slice av (fallS st keep 0) cv)).drew.drew)⟩
      case measure => simp [intOf]
    · obtain ⟨⟨v', hb, hr⟩, hfr, hkp⟩ := hst
      obtain ⟨av, cv, hvk, hsp, hcap⟩ : ∃ av cv, v' 1 = .slice av (st.b 1).length cv ∧ ((av = none ∧ (st.b 1).length = 0 ∧ cv = 0) ∨ ∃ g, av = some ⟨g, 0, none⟩) ∧ (st.b 1).length ≤ cv := by
        have h0 : OwnTxt wr 0 (v' 1) (st.b 1) := hr.own 1 (by decide)
        rcases h0.form with ⟨h1, h2⟩ | ⟨g, c, h1, h2, _⟩
        · exact ⟨none, 0, by rw [h1, h2]; rfl, .inl ⟨rfl, by rw [h2]; rfl, rfl⟩, by rw [h2]; exact Nat.le_refl _⟩
        · exact ⟨_, c, h1, .inr ⟨g, rfl⟩, h2⟩
      have hsafe := HSF.out 1 (by decide)
      have hfit := HFT.out 1 (by decide)
      have hle := fallS_le (keep := keep) hsafe
      have hwr1 : IntKind.i64.wrap (((st.b 1).length : Int) - (st.s 1 : Int)) = ((st.b 1).length : Int) - (st.s 1 : Int) := IntWalk.i64_in _ (by omega)
      have hwr2 : IntKind.i64.wrap ((st.s 1 : Int) + min (max (keep 1) 0) (((st.b 1).length : Int) - (st.s 1 : Int))) = ((fallS st keep 1 : Nat) : Int) := by rw [fallS_eq hsafe]; exact IntWalk.i64_in _ (by omega)
      have hwr3 : wrap64 ((st.s 1 : Int) + min (max (keep 1) 0) (((st.b 1).length : Int) - (st.s 1 : Int))) = ((fallS st keep 1 : Nat) : Int) := by rw [fallS_eq hsafe]; unfold wrap64; omega
      have hsl := slice_to hsp (Nat.le_trans hle hcap)
      have cb : wr.cell? ⟨D, 2, none⟩ = some (.slice av (st.b 1).length cv) := by rw [← hvk]; exact cell_of_block hb rfl
      have cs : wr.cell? ⟨D, 3, none⟩ = some (.int .i64 (st.s 1)) := cell_of_block hb rfl
      have fb := free_of_block 2 hb
      have fs := free_of_block 3 hb
      have ck : wr.cell? ⟨W.heap.size, 1, none⟩ = some (.int .i64 (keep 1)) := cell_of_block hkp rfl
      have END := Lib.hid (fun w' (cs : Array Value) (hcs : cs = dkCells (upd v' 1 (.slice av (fallS st keep 1) cv)) (upd (st.cut keep 1).s 1 (fallS st keep 1)) lf ar st.down) (hw : WroteTo D 108 cs wr w') => FallAt.next (k := 1) (by decide) HM.out HLT.out hvk hr hsafe hfr hkp cs hcs hw)
      have HB := Lib.hid hb
      have HVK := Lib.hid hvk
      clear hb hr hfr hkp hvk hsp hcap hsafe hfit hle
      go_wp2_with fail
      refine wp_region_grow_tail 22 (fun w' => w' = wr.drew) hmx (by kernel_rfl) rfl ?_
      simp only [List.take_succ_cons, List.take_zero, List.drop_succ_cons, List.drop_zero]
      iterate 22 (refine textS_run ?_ ?_ (fun W hS => ?_) ?_; rotate_left; (focus go_simp); (focus (subst hS; go_simp; all_goals (first | exact ⟨rfl, rfl⟩ | rfl | (refine ⟨?_, rfl⟩; rfl)))); (try go_simp))
      refine textS_nil ?_
      go_wp2_with fail
      have hdr : (wr.setCell ⟨D, 3, none⟩ (.int .i64 ((fallS st keep 1 : Nat) : Int))).heap[D]? = _ := ((wrote_refl HB.out).set 3 (.int .i64 ((fallS st keep 1 : Nat) : Int))).there
      have cb2 : (wr.setCell ⟨D, 3, none⟩ (.int .i64 ((fallS st keep 1 : Nat) : Int))).cell? ⟨D, 2, none⟩ = some (.slice av (st.b 1).length cv) := by rw [← HVK.out]; exact cell_of_block hdr rfl
      have cs2 : (wr.setCell ⟨D, 3, none⟩ (.int .i64 ((fallS st keep 1 : Nat) : Int))).cell? ⟨D, 3, none⟩ = some (.int .i64 ((fallS st keep 1 : Nat) : Int)) := cell_of_block hdr rfl
      have fb2 := free_of_block 2 hdr
      have HDR := Lib.hid hdr
      clear cb cs fb fs hdr
      refine wp_region_grow_tail 12 (fun w' => w' = (wr.setCell ⟨D, 3, none⟩ (.int .i64 ((fallS st keep 1 : Nat) : Int))).drew.drew) hmx (by kernel_rfl) rfl ?_
      simp only [List.take_succ_cons, List.take_zero, List.drop_succ_cons, List.drop_zero]
      iterate 12 (refine textS_run ?_ ?_ (fun W hS => ?_) ?_; rotate_left; (focus go_simp); (focus (subst hS; go_simp; all_goals (first | exact ⟨rfl, rfl⟩ | rfl | (refine ⟨?_, rfl⟩; rfl)))); (try go_simp))
      refine textS_nil ?_
      go_wp2_with fail
      go_roundw
      case rel => exact ⟨2, by decide, by go_num, END.out _ _ rfl ((((wrote_refl HB.out).set 3 (.int .i64 ((fallS st keep 1 : Nat) : Int))).set 2 (.slice av (fallS st keep 1) cv)).drew.drew)⟩
      case measure => simp [intOf]
    · obtain ⟨⟨v', hb, hr⟩, hfr, hkp⟩ := hst
      obtain ⟨av, cv, hvk, hsp, hcap⟩ : ∃ av cv, v' 2 = .slice av (st.b 2).length cv ∧ ((av = none ∧ (st.b 2).length = 0 ∧ cv = 0) ∨ ∃ g, av = some ⟨g, 0, none⟩) ∧ (st.b 2).length ≤ cv := by
        have h0 : OwnTxt wr 0 (v' 2) (st.b 2) := hr.own 2 (by decide)
        rcases h0.form with ⟨h1, h2⟩ | ⟨g, c, h1, h2, _⟩
        · exact ⟨none, 0, by rw [h1, h2]; rfl, .inl ⟨rfl, by rw [h2]; rfl, rfl⟩, by rw [h2]; exact Nat.le_refl _⟩
        · exact ⟨_, c, h1, .inr ⟨g, rfl⟩, h2⟩
      have hsafe := HSF.out 2 (by decide)
      have hfit := HFT.out 2 (by decide)
      have hle := fallS_le (keep := keep) hsafe
      have hwr1 : IntKind.i64.wrap (((st.b 2).length : Int) - (st.s 2 : Int)) = ((st.b 2).length : Int) - (st.s 2 : Int) := IntWalk.i64_in _ (by omega)
      have hwr2 : IntKind.i64.wrap ((st.s 2 : Int) + min (max (keep 2) 0) (((st.b 2).length : Int) - (st.s 2 : Int))) = ((fallS st keep 2 : Nat) : Int) := by rw [fallS_eq hsafe]; exact IntWalk.i64_in _ (by omega)
      have hwr3 : wrap64 ((st.s 2 : Int) + min (max (keep 2) 0) (((st.b 2).length : Int) - (st.s 2 : Int))) = ((fallS st keep 2 : Nat) : Int) := by rw [fallS_eq hsafe]; unfold wrap64; omega
      have hsl := slice_to hsp (Nat.le_trans hle hcap)
      have cb : wr.cell? ⟨D, 4, none⟩ = some (.slice av (st.b 2).length cv) := by rw [← hvk]; exact cell_of_block hb rfl
      have cs : wr.cell? ⟨D, 5, none⟩ = some (.int .i64 (st.s 2)) := cell_of_block hb rfl
      have fb := free_of_block 4 hb
      have fs := free_of_block 5 hb
      have ck : wr.cell? ⟨W.heap.size, 2, none⟩ = some (.int .i64 (keep 2)) := cell_of_block hkp rfl
      have END := Lib.hid (fun w' (cs : Array Value) (hcs : cs = dkCells (upd v' 2 (.slice av (fallS st keep 2) cv)) (upd (st.cut keep 2).s 2 (fallS st keep 2)) lf ar st.down) (hw : WroteTo D 108 cs wr w') => FallAt.next (k := 2) (by decide) HM.out HLT.out hvk hr hsafe hfr hkp cs hcs hw)
      have HB := Lib.hid hb
      have HVK := Lib.hid hvk
      clear hb hr hfr hkp hvk hsp hcap hsafe hfit hle
      go_wp2_with fail
      refine wp_region_grow_tail 22 (fun w' => w' = wr.drew) hmx (by kernel_rfl) rfl ?_
      simp only [List.take_succ_cons, List.take_zero, List.drop_succ_cons, List.drop_zero]
      iterate 22 (refine textS_run ?_ ?_ (fun W hS => ?_) ?_; rotate_left; (focus go_simp); (focus (subst hS; go_simp; all_goals (first | exact ⟨rfl, rfl⟩ | rfl | (refine ⟨?_, rfl⟩; rfl)))); (try go_simp))
      refine textS_nil ?_
      go_wp2_with fail
      have hdr : (wr.setCell ⟨D, 5, none⟩ (.int .i64 ((fallS st keep 2 : Nat) : Int))).heap[D]? = _ := ((wrote_refl HB.out).set 5 (.int .i64 ((fallS st keep 2 : Nat) : Int))).there
      have cb2 : (wr.setCell ⟨D, 5, none⟩ (.int .i64 ((fallS st keep 2 : Nat) : Int))).cell? ⟨D, 4, none⟩ = some (.slice av (st.b 2).length cv) := by rw [← HVK.out]; exact cell_of_block hdr rfl
      have cs2 : (wr.setCell ⟨D, 5, none⟩ (.int .i64 ((fallS st keep 2 : Nat) : Int))).cell? ⟨D, 5, none⟩ = some (.int .i64 ((fallS st keep 2 : Nat) : Int)) := cell_of_block hdr rfl
      have fb2 := free_of_block 4 hdr
      have HDR := Lib.hid hdr
      clear cb cs fb fs hdr
      refine wp_region_grow_tail 12 (fun w' => w' = (wr.setCell ⟨D, 5, none⟩ (.int .i64 ((fallS st keep 2 : Nat) : Int))).drew.drew) hmx (by kernel_rfl) rfl ?_
      simp only [List.take_succ_cons, List.take_zero, List.drop_succ_cons, List.drop_zero]
      iterate 12 (refine textS_run ?_ ?_ (fun W hS => ?_) ?_; rotate_left; (focus go_simp); (focus (subst hS; go_simp; all_goals (first | exact ⟨rfl, rfl⟩ | rfl | (refine ⟨?_, rfl⟩; rfl)))); (try go_simp))
      refine textS_nil ?_
      go_wp2_with fail
      go_roundw
      case rel => exact ⟨3, by decide, by go_num, END.out _ _ rfl ((((wrote_refl HB.out).set 5 (.int .i64 ((fallS st keep 2 : Nat) : Int))).set 4 (.slice av (fallS st keep 2) cv)).drew.drew)⟩
      case measure => simp [intOf]
    · obtain ⟨⟨v', hb, hr⟩, hfr, hkp⟩ := hst
      obtain ⟨av, cv, hvk, hsp, hcap⟩ : ∃ av cv, v' 3 = .slice av (st.b 3).length cv ∧ ((av = none ∧ (st.b 3).length = 0 ∧ cv = 0) ∨ ∃ g, av = some ⟨g, 0, none⟩) ∧ (st.b 3).length ≤ cv := by
        have h0 : OwnTxt wr 0 (v' 3) (st.b 3) := hr.own 3 (by decide)
        rcases h0.form with ⟨h1, h2⟩ | ⟨g, c, h1, h2, _⟩
        · exact ⟨none, 0, by rw [h1, h2]; rfl, .inl ⟨rfl, by rw [h2]; rfl, rfl⟩, by rw [h2]; exact Nat.le_refl _⟩
        · exact ⟨_, c, h1, .inr ⟨g, rfl⟩, h2⟩
      have hsafe := HSF.out 3 (by decide)
      have hfit := HFT.out 3 (by decide)
      have hle := fallS_le (keep := keep) hsafe
      have hwr1 : IntKind.i64.wrap (((st.b 3).length : Int) - (st.s 3 : Int)) = ((st.b 3).length : Int) - (st.s 3 : Int) := IntWalk.i64_in _ (by omega)
      have hwr2 : IntKind.i64.wrap ((st.s 3 : Int) + min (max (keep 3) 0) (((st.b 3).length : Int) - (st.s 3 : Int))) = ((fallS st keep 3 : Nat) : Int) := by rw [fallS_eq hsafe]; exact IntWalk.i64_in _ (by omega)
      have hwr3 : wrap64 ((st.s 3 : Int) + min (max (keep 3) 0) (((st.b 3).length : Int) - (st.s 3 : Int))) = ((fallS st keep 3 : Nat) : Int) := by rw [fallS_eq hsafe]; unfold wrap64; omega
      have hsl := slice_to hsp (Nat.le_trans hle hcap)
      have cb : wr.cell? ⟨D, 6, none⟩ = some (.slice av (st.b 3).length cv) := by rw [← hvk]; exact cell_of_block hb rfl
      have cs : wr.cell? ⟨D, 7, none⟩ = some (.int .i64 (st.s 3)) := cell_of_block hb rfl
      have fb := free_of_block 6 hb
      have fs := free_of_block 7 hb
      have ck : wr.cell? ⟨W.heap.size, 3, none⟩ = some (.int .i64 (keep 3)) := cell_of_block hkp rfl
      have END := Lib.hid (fun w' (cs : Array Value) (hcs : cs = dkCells (upd v' 3 (.slice av (fallS st keep 3) cv)) (upd (st.cut keep 3).s 3 (fallS st keep 3)) lf ar st.down) (hw : WroteTo D 108 cs wr w') => FallAt.next (k := 3) (by decide) HM.out HLT.out hvk hr hsafe hfr hkp cs hcs hw)
      have HB := Lib.hid hb
      have HVK := Lib.hid hvk
      clear hb hr hfr hkp hvk hsp hcap hsafe hfit hle
      go_wp2_with fail
      refine wp_region_grow_tail 22 (fun w' => w' = wr.drew) hmx (by kernel_rfl) rfl ?_
      simp only [List.take_succ_cons, List.take_zero, List.drop_succ_cons, List.drop_zero]
      iterate 22 (refine textS_run ?_ ?_ (fun W hS => ?_) ?_; rotate_left; (focus go_simp); (focus (subst hS; go_simp; all_goals (first | exact ⟨rfl, rfl⟩ | rfl | (refine ⟨?_, rfl⟩; rfl)))); (try go_simp))
      refine textS_nil ?_
      go_wp2_with fail
      have hdr : (wr.setCell ⟨D, 7, none⟩ (.int .i64 ((fallS st keep 3 : Nat) : Int))).heap[D]? = _ := ((wrote_refl HB.out).set 7 (.int .i64 ((fallS st keep 3 : Nat) : Int))).there
      have cb2 : (wr.setCell ⟨D, 7, none⟩ (.int .i64 ((fallS st keep 3 : Nat) : Int))).cell? ⟨D, 6, none⟩ = some (.slice av (st.b 3).length cv) := by rw [← HVK.out]; exact cell_of_block hdr rfl
      have cs2 : (wr.setCell ⟨D, 7, none⟩ (.int .i64 ((fallS st keep 3 : Nat) : Int))).cell? ⟨D, 7, none⟩ = some (.int .i64 ((fallS st keep 3 : Nat) : Int)) := cell_of_block hdr rfl
      have fb2 := free_of_block 6 hdr
      have HDR := Lib.hid hdr
      clear cb cs fb fs hdr
      refine wp_region_grow_tail 12 (fun w' => w' = (wr.setCell ⟨D, 7, none⟩ (.int .i64 ((fallS st keep 3 : Nat) : Int))).drew.drew) hmx (by kernel_rfl) rfl ?_
      simp only [List.take_succ_cons, List.take_zero, List.drop_succ_cons, List.drop_zero]
      iterate 12 (refine textS_run ?_ ?_ (fun W hS => ?_) ?_; rotate_left; (focus go_simp); (focus (subst hS; go_simp; all_goals (first | exact ⟨rfl, rfl⟩ | rfl | (refine ⟨?_, rfl⟩; rfl)))); (try go_simp))
      refine textS_nil ?_
      go_wp2_with fail
      go_roundw
      case rel => exact ⟨4, by decide, by go_num, END.out _ _ rfl ((((wrote_refl HB.out).set 7 (.int .i64 ((fallS st keep 3 : Nat) : Int))).set 6 (.slice av (fallS st keep 3) cv)).drew.drew)⟩
      case measure => simp [intOf]
    · obtain ⟨⟨v', hb, hr⟩, hfr, hkp⟩ := hst
      have f8 := free_of_block 8 hb
      have f9 := free_of_block 9 hb
      have f10 := free_of_block 10 hb
      have c8 : wr.cell? ⟨D, 8, none⟩ = some (.int .i64 lf) := cell_of_block hb rfl
      have c9 : wr.cell? ⟨D, 9, none⟩ = some (.bool ar) := cell_of_block hb rfl
      have c10 : wr.cell? ⟨D, 10, none⟩ = some (.bool st.down) := cell_of_block hb rfl
      have HB := Lib.hid hb
      have HR := Lib.hid hr
      have HFR := Lib.hid hfr
      clear hb hr hfr hkp
      go_wp2_with fail
      go_end0
      have hw := (((wrote_refl HB.out).set 8 (.int .i64 0)).set 9 (.bool false)).set 10 (.bool false)
      refine ⟨rfl, ⟨HM.out, fun j hj => ?_, fun j hj => ?_, ⟨by show -1 ≤ (-1 : Int); omega, by show (-1 : Int) ≤ _; omega⟩, v', 0, false, hw.there, ?_, .inr ⟨rfl, rfl⟩⟩, ?_⟩
      · show (if j < 4 then (st.b j).take (fallS st keep j) else st.b j).length ≤ 1048576
        rw [if_pos hj, List.length_take]
        have := HFT.out j hj
        omega
      · show (if j < 4 then fallS st keep j else st.s j) ≤ (if j < 4 then (st.b j).take (fallS st keep j) else st.b j).length
        rw [if_pos hj, if_pos hj, List.length_take]
        have := fallS_le (keep := keep) (HSF.out j hj)
        omega
      · exact ⟨fun k hk => (HR.out.own k hk).of_block fun g hg => hw.rest g (HR.out.foot k g hk hg).2, HR.out.foot, HR.out.apart⟩
      · have hfr := HFR.out
        exact ⟨hw.os.trans hfr.os, hw.tape.trans hfr.tape, hw.output.trans hfr.output, by rw [hw.size]; exact hfr.size, fun j hj hn => (hw.rest j (fun e => hn (e ▸ HM.out))).trans (hfr.block j hj hn)⟩
end Go.Proofs.YtomhfnaekjmjnaaDoor
namespace Go.Proofs.YtomhfnaekjmjnaaDoor
set_option linter.unusedVariables false
open Go.ChangeShapes Go.WideShapes Go.ChangeAt Go.RowKit
attribute [local go_sem ↓] Go.wp_at_zero Go.wp_at_succ comesTo_value_eq comesTo_skip_eq comesTo_enter_eq

def newF : DS := { b := fun _ => [], s := fun _ => 0, left := -1, down := false }
def Made (w : World) (st : DS) (e : Ending) (w' : World) : Prop := ∃ D, e = .returned (.pointer (some ⟨D, 0, none⟩)) ∧ Dk w' D (fun j => w.heap.size ≤ j) st ∧ Below w.heap.size w w'
theorem new_any (w : World) : Calls Tryd.prog 19 #[] w fun e w' => Made w newF e w' := by
  go_enter Tryd.func19, Tryd.ntmps19
  go_wp2
  go_ret
  refine ⟨w.heap.size, rfl, ⟨Nat.le_refl _, fun k _ => by show (0 : Nat) ≤ _; decide, fun k _ => Nat.le_refl _, ⟨by decide, by decide⟩, fun _ => .slice none 0 0, 0, false, World.alloc_heap_new w _, ⟨fun k _ => OwnTxt.nil, (fun k g _ h => by cases h), (fun k j g _ _ _ h => by cases h)⟩, .inr ⟨rfl, rfl⟩⟩, below_alloc (Below.refl _ w) _⟩
/-- in the midst of a clone: k rows are copied -/
structure CloneAt (w : World) (v : Nat → Value) (st : DS) (lf : Int) (ar : Bool) (k : Nat) (u : Nat → Value) (wr : World) : Prop where
  blk : wr.heap[w.heap.size]? = some (.cells (dkCells u st.s lf ar st.down) 108 (0, 0))
  rest : ∀ j, k ≤ j → u j = v j
  own : ∀ j, j < k → OwnTxt wr 0 (u j) (st.b j)
  foot : ∀ j g, j < k → (u j).ownBlock = some g → w.heap.size < g
  apart : ∀ j i g, j < k → i < k → i ≠ j → (u j).ownBlock = some g → (u i).ownBlock ≠ some g
  below : Below w.heap.size w wr
def CloneMid (w : World) (v : Nat → Value) (st : DS) (lf : Int) (ar : Bool) (k : Nat) (wr : World) : Prop := ∃ u, CloneAt w v st lf ar k u wr
theorem CloneAt.next {w wr w0 w1 w2 : World} {v u : Nat → Value} {st : DS} {lf : Int} {ar : Bool} {k : Nat} {x : Value} (h : CloneAt w v st lf ar k u wr) (h0 : Below wr.heap.size wr w0) (hx : OwnTxt w1 w0.heap.size x (st.b k))
    (hg : Below w0.heap.size w0 w1) (cs : Array Value) (hcs : cs = dkCells (upd u k x) st.s lf ar st.down) (hw : WroteTo w.heap.size 108 cs w1 w2) : CloneAt w v st lf ar (k + 1) (upd u k x) w2 := by
  subst hcs
  have hO : w.heap.size < wr.heap.size := (Array.getElem?_eq_some_iff.1 h.blk).1
  have hb1 : Below wr.heap.size wr w1 := h0.trans (hg.mono h0.size)
  have hxg : ∀ g, x.ownBlock = some g → wr.heap.size ≤ g := fun g e => Nat.le_trans h0.size (hx.blockGe e)
  refine ⟨hw.there, fun j hj => by rw [upd_ne _ _ (by omega)]; exact h.rest j (by omega), fun j hj => ?_, fun j g hj e => ?_, fun j i g hj hi hne e e' => ?_, ?_⟩
  · by_cases hjk : j = k
    · subst hjk; rw [upd_at]
      exact (hx.base (Nat.zero_le _)).of_block fun g e => hw.rest g (by have := hxg g e; omega)
    · rw [upd_ne _ _ hjk]
      have hj' : j < k := by omega
      exact ((h.own j hj').below hb1).of_block fun g e => hw.rest g (by have := h.foot j g hj' e; omega)
  · by_cases hjk : j = k
    · subst hjk; rw [upd_at] at e; have := hxg g e; omega
    · rw [upd_ne _ _ hjk] at e; exact h.foot j g (by omega) e
  · by_cases hjk : j = k
    · subst hjk; rw [upd_at] at e; rw [upd_ne _ _ hne] at e'
      have := hxg g e; have := ownBlock_lt (h.own i (by omega)) e'; omega
    · rw [upd_ne _ _ hjk] at e
      by_cases hik : i = k
      · subst hik; rw [upd_at] at e'
        have := hxg g e'; have := ownBlock_lt (h.own j (by omega)) e; omega
      · rw [upd_ne _ _ hik] at e'
        exact h.apart j i g (by omega) (by omega) hne e e'
  · have hbx := h.below.trans (hb1.mono (by omega))
    exact ⟨hw.os.trans hbx.os, hw.tape.trans hbx.tape, hw.output.trans hbx.output, by rw [hw.size]; exact hbx.size, fun j hj => (hw.rest j (by omega)).trans (hbx.block j hj)⟩
set_option maxRecDepth 100000 in
set_option maxHeartbeats 4000000 in
theorem clone_dk {w : World} {D : Nat} {F : Nat → Prop} {st : DS} (h : Dk w D F st) : Calls Tryd.prog 36 #[.pointer (some ⟨D, 0, none⟩)] w fun e w' => Made w st e w' := by
  have KT := Lib.hid (there_yes h.made)
  obtain ⟨hm, hft, hsf, hl, v, lf, ar, hb, hr, hx⟩ := h
  have hlt : D < w.heap.size := (Array.getElem?_eq_some_iff.1 hb).1
  have HB := Lib.hid hb
  have HM := Lib.hid hm
  have HFT := Lib.hid hft
  have HSF := Lib.hid hsf
  have HL := Lib.hid hl
  have HX := Lib.hid hx
  have HR := Lib.hid hr
  have HLT := Lib.hid hlt
  obtain ⟨a0, n0, p0, e0⟩ : ∃ a n c, v 0 = .slice a n c := by
    rcases (hr.own 0 (by decide)).form with ⟨h1, _⟩ | ⟨g, c, h1, _⟩
    · exact ⟨_, _, _, h1⟩
    · exact ⟨_, _, _, h1⟩
  obtain ⟨a1, n1, p1, e1⟩ : ∃ a n c, v 1 = .slice a n c := by
    rcases (hr.own 1 (by decide)).form with ⟨h1, _⟩ | ⟨g, c, h1, _⟩
    · exact ⟨_, _, _, h1⟩
    · exact ⟨_, _, _, h1⟩
  obtain ⟨a2, n2, p2, e2⟩ : ∃ a n c, v 2 = .slice a n c := by
    rcases (hr.own 2 (by decide)).form with ⟨h1, _⟩ | ⟨g, c, h1, _⟩
    · exact ⟨_, _, _, h1⟩
    · exact ⟨_, _, _, h1⟩
  obtain ⟨a3, n3, p3, e3⟩ : ∃ a n c, v 3 = .slice a n c := by
    rcases (hr.own 3 (by decide)).form with ⟨h1, _⟩ | ⟨g, c, h1, _⟩
    · exact ⟨_, _, _, h1⟩
    · exact ⟨_, _, _, h1⟩
  have c0 : w.cell? ⟨D, 0, none⟩ = some (.slice a0 n0 p0) := by rw [← e0]; exact cell_of_block hb rfl
  have c1 : w.cell? ⟨D, 1, none⟩ = some (.int .i64 (st.s 0)) := cell_of_block hb rfl
  have c2 : w.cell? ⟨D, 2, none⟩ = some (.slice a1 n1 p1) := by rw [← e1]; exact cell_of_block hb rfl
  have c3 : w.cell? ⟨D, 3, none⟩ = some (.int .i64 (st.s 1)) := cell_of_block hb rfl
  have c4 : w.cell? ⟨D, 4, none⟩ = some (.slice a2 n2 p2) := by rw [← e2]; exact cell_of_block hb rfl
  have c5 : w.cell? ⟨D, 5, none⟩ = some (.int .i64 (st.s 2)) := cell_of_block hb rfl
  have c6 : w.cell? ⟨D, 6, none⟩ = some (.slice a3 n3 p3) := by rw [← e3]; exact cell_of_block hb rfl
  have c7 : w.cell? ⟨D, 7, none⟩ = some (.int .i64 (st.s 3)) := cell_of_block hb rfl
  have c8 : w.cell? ⟨D, 8, none⟩ = some (.int .i64 lf) := cell_of_block hb rfl
  have c9 : w.cell? ⟨D, 9, none⟩ = some (.bool ar) := cell_of_block hb rfl
  have c10 : w.cell? ⟨D, 10, none⟩ = some (.bool st.down) := cell_of_block hb rfl
  have c11 : w.cell? ⟨D, 11, none⟩ = some (.bool true) := cell_of_block hb rfl
  have hix : ∀ (W : World) (x0 x1 x2 x3 x4 x5 x6 x7 : Value), Sem.run Tryd.prog (Instr.index 106 (.agg #[x0, x1, x2, x3, x4, x5, x6, x7]) (.int .i64 0)) W = .ok (.agg #[x0, x1]) W ∧ Sem.run Tryd.prog (Instr.index 106 (.agg #[x0, x1, x2, x3, x4, x5, x6, x7]) (.int .i64 1)) W = .ok (.agg #[x2, x3]) W ∧ Sem.run Tryd.prog (Instr.index 106 (.agg #[x0, x1, x2, x3, x4, x5, x6, x7]) (.int .i64 2)) W = .ok (.agg #[x4, x5]) W ∧ Sem.run Tryd.prog (Instr.index 106 (.agg #[x0, x1, x2, x3, x4, x5, x6, x7]) (.int .i64 3)) W = .ok (.agg #[x6, x7]) W := fun W x0 x1 x2 x3 x4 x5 x6 x7 => ⟨by kernel_rfl, by kernel_rfl, by kernel_rfl, by kernel_rfl⟩
  have E0 := Lib.hid e0
  have E1 := Lib.hid e1
  have E2 := Lib.hid e2
  have E3 := Lib.hid e3
  clear e0 e1 e2 e3 hb hm hft hsf hl hx hr
  go_enter Tryd.func36, Tryd.ntmps36
  go_wp2_with fail
  refine KT.out.mono ?_
  rintro e w' ⟨rfl, rfl⟩
  go_wp2_with fail
  go_loopw [16] (fun i wr => ∃ k : Nat, k ≤ 4 ∧ i = .int .i64 k ∧ CloneMid w v st lf ar k wr) (fun i _ => 4 - (intOf i).toNat)
  case atStart =>
    refine ⟨0, by decide, rfl, v, ⟨?_, fun j _ => rfl, fun j hj => absurd hj (by omega), fun j g hj => absurd hj (by omega), fun j i g hj => absurd hj (by omega), below_alloc (Below.refl _ w) _⟩⟩
    rw [World.alloc_heap_new w _, ← E0.out, ← E1.out, ← E2.out, ← E3.out]
    rfl
  case round =>
    obtain ⟨k, hk, rfl, u, hst⟩ := hrel
    rcases (by omega : k = 0 ∨ k = 1 ∨ k = 2 ∨ k = 3 ∨ k = 4) with rfl | rfl | rfl | rfl | rfl
    · have hz : w.heap.size < wr.heap.size := (Array.getElem?_eq_some_iff.1 hst.blk).1
      have hq := fun W x0 x1 x2 x3 x4 x5 x6 x7 => (hix W x0 x1 x2 x3 x4 x5 x6 x7).1
      have HAl := Lib.hid (below_alloc (Below.refl _ wr) (.cells #[.slice a0 n0 p0, .int .i64 (st.s 0)] 105))
      have HST := Lib.hid hst
      have KC := Lib.hid (fun W' (hb : Below w.heap.size w W') => clone_bytes (w := W') (((HR.out.own 0 (by decide)).below hb).at) (by have := HFT.out 0 (by decide); omega))
      rw [E0.out] at KC
      clear hst
      go_wp2_with fail
      refine (KC.out _ (HST.out.below.trans (HAl.out.mono (Nat.le_of_lt hz)))).mono ?_
      rintro e W2 ⟨x, rfl, o, b, g⟩
      obtain ⟨ax, nx, px, rfl⟩ : ∃ a n c, x = .slice a n c := by
        rcases o.form with ⟨h1, _⟩ | ⟨g, c, h1, _⟩
        · exact ⟨_, _, _, h1⟩
        · exact ⟨_, _, _, h1⟩
      have hb2 : W2.heap[w.heap.size]? = _ := ((b.block _ (by simp; omega)).trans (HAl.out.block _ hz)).trans HST.out.blk
      have cx : W2.cell? ⟨w.heap.size, 0, none⟩ = some (u 0) := cell_of_block hb2 rfl
      have fx := free_of_block 0 hb2
      have HB2 := Lib.hid hb2
      have HO := Lib.hid o
      have HG := Lib.hid b
      clear hb2 o b g
      go_wp2_with fail
      go_roundw
      case rel => exact ⟨1, by decide, by go_num, upd u 0 (.slice ax nx px), CloneAt.next HST.out HAl.out HO.out HG.out _ rfl ((wrote_refl HB2.out).set 0 (.slice ax nx px))⟩
      case measure => simp [intOf]
    · have hz : w.heap.size < wr.heap.size := (Array.getElem?_eq_some_iff.1 hst.blk).1
      have hq := fun W x0 x1 x2 x3 x4 x5 x6 x7 => (hix W x0 x1 x2 x3 x4 x5 x6 x7).2.1
      have HAl := Lib.hid (below_alloc (Below.refl _ wr) (.cells #[.slice a1 n1 p1, .int .i64 (st.s 1)] 105))
      have HST := Lib.hid hst
      have KC := Lib.hid (fun W' (hb : Below w.heap.size w W') => clone_bytes (w := W') (((HR.out.own 1 (by decide)).below hb).at) (by have := HFT.out 1 (by decide); omega))
      rw [E1.out] at KC
      clear hst
      go_wp2_with fail
      refine (KC.out _ (HST.out.below.trans (HAl.out.mono (Nat.le_of_lt hz)))).mono ?_
      rintro e W2 ⟨x, rfl, o, b, g⟩
      obtain ⟨ax, nx, px, rfl⟩ : ∃ a n c, x = .slice a n c := by
        rcases o.form with ⟨h1, _⟩ | ⟨g, c, h1, _⟩
        · exact ⟨_, _, _, h1⟩
        · exact ⟨_, _, _, h1⟩
      have hb2 : W2.heap[w.heap.size]? = _ := ((b.block _ (by simp; omega)).trans (HAl.out.block _ hz)).trans HST.out.blk
      have cx : W2.cell? ⟨w.heap.size, 2, none⟩ = some (u 1) := cell_of_block hb2 rfl
      have fx := free_of_block 2 hb2
      have HB2 := Lib.hid hb2
      have HO := Lib.hid o
      have HG := Lib.hid b
      clear hb2 o b g
      go_wp2_with fail
      go_roundw
      case rel => exact ⟨2, by decide, by go_num, upd u 1 (.slice ax nx px), CloneAt.next HST.out HAl.out HO.out HG.out _ rfl ((wrote_refl HB2.out).set 2 (.slice ax nx px))⟩
      case measure => simp [intOf]
    · have hz : w.heap.size < wr.heap.size := (Array.getElem?_eq_some_iff.1 hst.blk).1
      have hq := fun W x0 x1 x2 x3 x4 x5 x6 x7 => (hix W x0 x1 x2 x3 x4 x5 x6 x7).2.2.1
      have HAl := Lib.hid (below_alloc (Below.refl _ wr) (.cells #[.slice a2 n2 p2, .int .i64 (st.s 2)] 105))
      have HST := Lib.hid hst
      have KC := Lib.hid (fun W' (hb : Below w.heap.size w W') => clone_bytes (w := W') (((HR.out.own 2 (by decide)).below hb).at) (by have := HFT.out 2 (by decide); omega))
      rw [E2.out] at KC
      clear hst
      go_wp2_with fail
      refine (KC.out _ (HST.out.below.trans (HAl.out.mono (Nat.le_of_lt hz)))).mono ?_
      rintro e W2 ⟨x, rfl, o, b, g⟩
      obtain ⟨ax, nx, px, rfl⟩ : ∃ a n c, x = .slice a n c := by
        rcases o.form with ⟨h1, _⟩ | ⟨g, c, h1, _⟩
        · exact ⟨_, _, _, h1⟩
        · exact ⟨_, _, _, h1⟩
      have hb2 : W2.heap[w.heap.size]? = _ := ((b.block _ (by simp; omega)).trans (HAl.out.block _ hz)).trans HST.out.blk
      have cx : W2.cell? ⟨w.heap.size, 4, none⟩ = some (u 2) := cell_of_block hb2 rfl
      have fx := free_of_block 4 hb2
      have HB2 := Lib.hid hb2
      have HO := Lib.hid o
      have HG := Lib.hid b
      clear hb2 o b g
      go_wp2_with fail
      go_roundw
      case rel => exact ⟨3, by decide, by go_num, upd u 2 (.slice ax nx px), CloneAt.next HST.out HAl.out HO.out HG.out _ rfl ((wrote_refl HB2.out).set 4 (.slice ax nx px))⟩
      case measure => simp [intOf]
    · have hz : w.heap.size < wr.heap.size := (Array.getElem?_eq_some_iff.1 hst.blk).1
      have hq := fun W x0 x1 x2 x3 x4 x5 x6 x7 => (hix W x0 x1 x2 x3 x4 x5 x6 x7).2.2.2
      have HAl := Lib.hid (below_alloc (Below.refl _ wr) (.cells #[.slice a3 n3 p3, .int .i64 (st.s 3)] 105))
      have HST := Lib.hid hst
      have KC := Lib.hid (fun W' (hb : Below w.heap.size w W') => clone_bytes (w := W') (((HR.out.own 3 (by decide)).below hb).at) (by have := HFT.out 3 (by decide); omega))
      rw [E3.out] at KC
      clear hst
      go_wp2_with fail
      refine (KC.out _ (HST.out.below.trans (HAl.out.mono (Nat.le_of_lt hz)))).mono ?_
      rintro e W2 ⟨x, rfl, o, b, g⟩
      obtain ⟨ax, nx, px, rfl⟩ : ∃ a n c, x = .slice a n c := by
        rcases o.form with ⟨h1, _⟩ | ⟨g, c, h1, _⟩
        · exact ⟨_, _, _, h1⟩
        · exact ⟨_, _, _, h1⟩
      have hb2 : W2.heap[w.heap.size]? = _ := ((b.block _ (by simp; omega)).trans (HAl.out.block _ hz)).trans HST.out.blk
      have cx : W2.cell? ⟨w.heap.size, 6, none⟩ = some (u 3) := cell_of_block hb2 rfl
      have fx := free_of_block 6 hb2
      have HB2 := Lib.hid hb2
      have HO := Lib.hid o
      have HG := Lib.hid b
      clear hb2 o b g
      go_wp2_with fail
      go_roundw
      case rel => exact ⟨4, by decide, by go_num, upd u 3 (.slice ax nx px), CloneAt.next HST.out HAl.out HO.out HG.out _ rfl ((wrote_refl HB2.out).set 6 (.slice ax nx px))⟩
      case measure => simp [intOf]
    · have HST := Lib.hid hst
      clear hst
      go_wp2_with fail
      go_ret
      have h := HST.out
      refine ⟨w.heap.size, rfl, ⟨Nat.le_refl _, HFT.out, HSF.out, HL.out, u, lf, ar, h.blk, ⟨fun j hj => h.own j hj, fun j g hj e => ?_, fun j i g hj hi => h.apart j i g hj hi⟩, HX.out⟩, h.below⟩
      have := h.foot j g hj e
      exact ⟨by omega, by omega⟩
end Go.Proofs.YtomhfnaekjmjnaaDoor
