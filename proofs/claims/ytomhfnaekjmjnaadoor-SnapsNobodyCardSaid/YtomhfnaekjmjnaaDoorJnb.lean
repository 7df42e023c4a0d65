/- Records' frames: what Frame tells. Conditions: the numbers' bounds. -/
import Derived.Test.YtomhfnaekjmjnaaDoorJnP
import Derived.Test.YtomhfnaekjmjnaaDoorSumC
import Derived.Test.YtomhfnaekjmjnaaDoorPut
import Derived.Test.YtomhfnaekjmjnaaDoorAppTwo
namespace Go.Proofs.YtomhfnaekjmjnaaDoor
set_option linter.unusedVariables false
open Go.ChangeShapes Go.WideShapes Go.ChangeAt Go.RowKit
attribute [local go_sem ↓] Go.wp_at_zero Go.wp_at_succ comesTo_value_eq comesTo_skip_eq comesTo_enter_eq

theorem elt8 : Ap.Elt Tryd.prog 22 5 1 1 :=
  ⟨Tryd.underlying22, by obtain ⟨i, hi, hz, hs, hb⟩ := info_parts info_u8; exact ⟨i, _, hi, hz, hs, hb, rfl⟩, by decide⟩
theorem TxtAt.rd {w : World} {v : Value} {xs : List Int} (h : TxtAt w v xs) : Ap.RdG w 1 v xs.length (cellsOf8 xs) := by
  have h1 : ∀ u ∈ cellsOf8 xs, u.oneCell' = true := fun u hu => by
    simp [cellsOf8] at hu
    obtain ⟨n, _, rfl⟩ := hu
    rfl
  rcases h with ⟨b, o, c, rfl, hn, hr⟩ | ⟨rfl, a, c, rfl, hc⟩
  · refine ⟨⟨_, c, rfl, fun e => (by cases e), fun a ha j u hj => ?_, fun a ha _ => ?_⟩, by simp [cellsOf8], h1⟩
    · cases ha
      have hjl : j < xs.length := by
        rcases Nat.lt_or_ge j xs.length with h | h
        · exact h
        · rw [List.getElem?_eq_none (by simpa [cellsOf8] using h)] at hj; cases hj
      have hplain : (⟨b, o, none⟩ : Addr).add j = ⟨b, o + j, none⟩ := by unfold Addr.add; split <;> simp_all
      rw [hplain, hr.cell j hjl]
      simp [cellsOf8, hjl] at hj
      simp [List.getD, hjl, hj]
    · cases ha
      exact World.block_lt_of_cell? w _ (hr.cell 0 hn)
  · exact ⟨⟨a, c, rfl, fun e => rfl, fun _ _ j u hj => by simp [cellsOf8] at hj, fun _ _ hm => absurd hm (by simp)⟩, rfl, h1⟩
/-- an append of bytes, as it is run -/
theorem run_app8 {w : World} {B : Nat} {v u : Value} {xs ys : List Int} (hown : OwnTxt w B v xs) (ht : TxtAt w u ys) (hl : xs.length + ys.length ≤ 140737488355328) (hB : B ≤ w.heap.size) (ty : TypeId) :
    ∃ v' w', (Builtin.append_ #[22, 22] ty #[v, u]).run Tryd.prog w = .ok v' w' ∧ OwnTxt w' B v' (xs ++ ys) ∧ Below B w w' := by
  obtain ⟨v', w', h1, h2, _, h4⟩ := Ap.run_app elt8 ty B v xs.length (cellsOf8 xs) hown.own u ys.length (cellsOf8 ys) ht.rd (by unfold maxLen; omega) (by omega) hB
  have hy := ht.bytes8
  refine ⟨v', w', h1, ⟨by rw [List.length_append, cellsOf8_append]; exact h2, fun k hk => ?_, fun k hk => ?_⟩, h4⟩
  · by_cases hlt : k < xs.length
    · rw [show (xs ++ ys).getD k 0 = xs.getD k 0 by simp [List.getD, List.getElem?_append_left, hlt]]; exact hown.lo k hlt
    · rw [show (xs ++ ys).getD k 0 = ys.getD (k - xs.length) 0 by simp [List.getD, List.getElem?_append_right (show xs.length ≤ k by omega)]]
      exact (hy _ (by simp at hk; omega)).1
  · by_cases hlt : k < xs.length
    · rw [show (xs ++ ys).getD k 0 = xs.getD k 0 by simp [List.getD, List.getElem?_append_left, hlt]]; exact hown.hi k hlt
    · rw [show (xs ++ ys).getD k 0 = ys.getD (k - xs.length) 0 by simp [List.getD, List.getElem?_append_right (show xs.length ≤ k by omega)]]
      exact (hy _ (by simp at hk; omega)).2
theorem takes_one (zs : List Int) : valI (takes (1, 0) [zs]) = sumF zs := by
  have hb := sumAll_bd (1, 0) zs (by decide)
  have e : takes (1, 0) [zs] = sumAll (1, 0) zs := by
    unfold takes takeI
    simp only [List.foldl_cons, List.foldl_nil]
    split
    · rename_i h; subst h; rfl
    · rfl
  rw [e]
  unfold valI sumF
  omega
/-- a check sum of one text -/
theorem sum_one {w : World} {b : Nat} {v : Value} {zs : List Int} {T : TypeId} (hb : w.heap[b]? = some (.cells #[v] T (0, 0))) (ht : TxtAt w v zs) :
    Calls Tryd.prog 40 #[.slice (some ⟨b, 0, none⟩) 1 1] w fun e w' => e = .returned (.int .u32 (sumF zs)) ∧ Below w.heap.size w w' := by
  have := sum_some b 0 1 [v] [zs] (by simp) w ⟨rfl, by simp, fun k hk => by
    obtain rfl : k = 0 := by simpa using hk
    exact cell_of_block hb rfl, fun k hk => by
    obtain rfl : k = 0 := by simpa using hk
    exact ht⟩
  rw [takes_one] at this
  exact this
def FrameEnd (w : World) (r : JRec) (e : Ending) (w' : World) : Prop := ∃ u, e = .returned (.tuple #[u, .int .i64 (if r.2.length ≤ 65536 then 0 else 3)]) ∧ OwnTxt w' w.heap.size u (if r.2.length ≤ 65536 then frameF r else []) ∧ Below w.heap.size w w'
set_option maxRecDepth 100000 in
theorem frame_any {w : World} (g : Int) (hg : -9223372036854775808 ≤ g ∧ g ≤ 9223372036854775807) {ad : Option Addr} {n c : Nat} {bs : List Int} (h : TxtAt w (.slice ad n c) bs) :
    Calls Tryd.prog 13 #[.agg #[.int .i64 g, .slice ad n c]] w fun e w' => FrameEnd w (g, bs) e w' := by
  have hmx : Tryd.prog.follows .mixedOrders = true := by kernel_rfl
  have hn : n = bs.length := by
    rcases h with ⟨b', o', c', e, h1, h2⟩ | ⟨rfl, a, cp, e, _⟩ <;> (cases e; rfl)
  have hb0 := below_alloc (Below.refl _ w) (.cells #[.int .i64 g, .slice ad n c] 24)
  have n0 := World.alloc_heap_new w (.cells #[.int .i64 g, .slice ad n c] 24)
  unfold FrameEnd
  simp only
  by_cases hl : bs.length ≤ 65536
  · rw [if_pos hl, if_pos hl]
    have hd : decide ((n : Int) > 65536) = false := decide_eq_false (by omega)
    clear hn
    have HT := Lib.hid (h.below hb0)
    have HL := Lib.hid hl
    have HG := Lib.hid (show GoodR (g, bs) from ⟨hg, hl, fun x hx => by
      obtain ⟨k, hk, rfl⟩ := List.getElem_of_mem hx
      have := h.bytes8 k hk
      simpa [List.getD, List.getElem?_eq_getElem hk] using this⟩)
    clear h hl
    go_enter Tryd.func13, Tryd.ntmps13
    go_upto_region 1 with fail
    generalize w.alloc (.cells #[.int .i64 g, .slice ad n c] 24) = W0 at *
    have hw0 := (Array.getElem?_eq_some_iff.1 n0).1
    have c0 := cell_of_block (o := 0) n0 rfl
    have c1 := cell_of_block (o := 1) n0 rfl
    go_upto_region 3 with fail
    refine Ap.wp_region_K (S1 := fun X : World => X.heap[w.heap.size]? = some (.cells #[.int .i64 g, .slice ad n c] 24 (0, 0))) (S2 := fun _ => True) (js := 6) hmx ?_
    change Ap.wpAnyK _ _ _ _ _ _ _ 7 _ _ W0.drew
    have hSS : (fun X : World => X.heap[w.heap.size]? = some (.cells #[.int .i64 g, .slice ad n c] 24 (0, 0))) W0.drew ∧ (fun _ : World => True) W0.drew := ⟨n0, trivial⟩
    refine Ap.wpAnyK_take1 (i := 0) (v := .pointer (some ⟨w.heap.size, 0, none⟩)) rfl (by decide) (by decide +kernel) (by decide +kernel) (by decide +kernel) (fun _ _ _ h => h) (.inl ⟨by first | rfl | (go_simp; done), fun X hX => by have hx0 := cell_of_block (o := 0) hX rfl; have hx1 := cell_of_block (o := 1) hX rfl; clear hX c0 c1; first | (go_simp; done) | (go_simp; rfl)⟩) hSS ?_
    refine Ap.wpAnyK_take1 (i := 1) (v := .int .i64 g) rfl (by decide) (by decide +kernel) (by decide +kernel) (by decide +kernel) (fun _ _ _ h => h) (.inl ⟨by first | rfl | (go_simp; done), fun X hX => by have hx0 := cell_of_block (o := 0) hX rfl; have hx1 := cell_of_block (o := 1) hX rfl; clear hX c0 c1; first | (go_simp; done) | (go_simp; rfl)⟩) hSS ?_
    refine Ap.wpAnyK_take1 (i := 3) (v := .pointer (some ⟨w.heap.size, 1, none⟩)) rfl (by decide) (by decide +kernel) (by decide +kernel) (by decide +kernel) (fun _ _ _ h => h) (.inl ⟨by first | rfl | (go_simp; done), fun X hX => by have hx0 := cell_of_block (o := 0) hX rfl; have hx1 := cell_of_block (o := 1) hX rfl; clear hX c0 c1; first | (go_simp; done) | (go_simp; rfl)⟩) hSS ?_
    refine Ap.wpAnyK_take1 (i := 4) (v := .slice ad n c) rfl (by decide) (by decide +kernel) (by decide +kernel) (by decide +kernel) (fun _ _ _ h => h) (.inl ⟨by first | rfl | (go_simp; done), fun X hX => by have hx0 := cell_of_block (o := 0) hX rfl; have hx1 := cell_of_block (o := 1) hX rfl; clear hX c0 c1; first | (go_simp; done) | (go_simp; rfl)⟩) hSS ?_
    refine Ap.anyK_call (i := 2) (by decide +kernel) rfl rfl (by go_simp) (putint_any (v := .slice none 0 0) (xs := []) (.inr ⟨rfl, none, 0, rfl, fun _ => rfl⟩) (by simp) hg) ?_
    rintro e W1 ⟨u1, rfl, ho1, hb1⟩
    have m1 := (hb1.block _ hw0).trans n0
    refine ⟨_, rfl, ⟨m1, fun _ => trivial⟩, ?_⟩
    have hlen := HL.out
    have hpl := putI_len hg
    obtain ⟨u2, W2, hr2, ho2, hb2⟩ := run_app8 ho1 ((HT.out.below (Below.refl _ _).drew).below hb1) (by simp; omega) hb1.size 22
    have m2 := (hb2.block _ hw0).trans m1
    refine Ap.anyK_val1 (i := 5) (v := u2) (w' := W2) (by decide +kernel) rfl rfl (Ap.exec_app rfl (by go_simp) (by go_simp) hr2) ⟨m2, trivial⟩ ?_
    obtain ⟨a2, c2, rfl⟩ : ∃ a c, u2 = .slice a (bodyF (g, bs)).length c := by
      rcases ho2.form with ⟨rfl, e⟩ | ⟨g2, c2, rfl, _⟩
      · have e' : bodyF (g, bs) = [] := e
        have hb := body_len HG.out
        rw [e'] at hb
        simp at hb
      · exact ⟨_, _, rfl⟩
    refine Ap.anyK_val1 (i := 6) (v := .slice a2 (bodyF (g, bs)).length c2) (w' := W2) (by decide +kernel) rfl rfl (by first | (go_simp; done) | (go_simp; rfl)) ⟨m2, trivial⟩ ?_
    refine Ap.wpAnyK_done (by decide +kernel) ?_ _
    have hbody : OwnTxt W2 W0.drew.heap.size (.slice a2 (bodyF (g, bs)).length c2) (bodyF (g, bs)) := ho2
    have HB2 := Lib.hid (show Below w.heap.size w W2 from (Below.drew hb0).trans ((hb1.trans hb2).mono (Below.drew hb0).size))
    have hbl := body_len HG.out
    have HO2 := Lib.hid hbody
    have hsb := sumF_bd (bodyF (g, bs))
    have hz : IntKind.u32.wrap ((bodyF (g, bs)).length : Int) = ((bodyF (g, bs)).length : Int) := by rw [IntKind.wrap_u32]; omega
    have E := Lib.hid (show frameF (g, bs) = four ((bodyF (g, bs)).length : Int) ++ (four (sumF (bodyF (g, bs))) ++ bodyF (g, bs)) from rfl)
    obtain ⟨m, hm⟩ : ∃ m, m = (bodyF (g, bs)).length := ⟨_, rfl⟩
    generalize bodyF (g, bs) = body at *
    have HM := Lib.hid hm
    rw [← hm] at hz hbl HO2 E ⊢
    clear hm hbody ho2 ho1 hb2 hb1 hr2 hSS m1 m2 c0 c1 n0 hb0 HT hd
    go_wp2_with fail
    refine (putfour_any (v := .slice none 0 0) (xs := []) (B := W2.heap.size) OwnTxt.nil (Nat.le_refl _) (by simp) (n := (m : Int)) (by omega)).mono ?_
    rintro e W3 ⟨u3, rfl, ho3, hb3⟩
    obtain ⟨a3, c3, rfl⟩ : ∃ a c, u3 = .slice a 4 c := by
      rcases ho3.form with ⟨rfl, e⟩ | ⟨g3, c3, rfl, _⟩
      · simp [four] at e
      · exact ⟨_, _, rfl⟩
    have HO3 := Lib.hid ho3
    have HB3 := Lib.hid hb3
    have hb4 := below_alloc (Below.refl _ W3) (.cells #[.slice a2 m c2] 22)
    have HB4 := Lib.hid hb4
    have n4 := World.alloc_heap_new W3 (.cells #[.slice a2 m c2] 22)
    have KS := Lib.hid (sum_one n4 ((HO2.out.at.below hb3).below hb4))
    clear ho3 hb3 hb4 n4
    go_wp2_with fail
    refine KS.out.mono ?_
    rintro e W5 ⟨rfl, hb5⟩
    have HB5 := Lib.hid (below_next HB4.out hb5)
    clear hb5 KS
    go_wp2_with fail
    refine (putfour_any (B := W2.heap.size) (HO3.out.below HB5.out) (Nat.le_trans HB3.out.size HB5.out.size) (by simp [four]) (n := sumF body) hsb).mono ?_
    rintro e W6 ⟨u6, rfl, ho6, hb6⟩
    obtain ⟨a6, c6, rfl⟩ : ∃ a c, u6 = .slice a 8 c := by
      rcases ho6.form with ⟨rfl, e⟩ | ⟨g3, c3, rfl, _⟩
      · simp [four] at e
      · exact ⟨_, _, rfl⟩
    have HBA := Lib.hid (HB3.out.trans ((HB5.out.mono HB3.out.size).trans hb6))
    have HO6 := Lib.hid ho6
    have HT6 := Lib.hid (HO2.out.at.below HBA.out)
    have HS6 := Lib.hid HBA.out.size
    have h8 : ([] ++ four (m : Int) ++ four (sumF body)).length + body.length ≤ 140737488355328 := by have := HM.out; simp [four]; omega
    clear ho6 hb6
    go_wp2_with (at_builtin; go_loud (refine wpList_append_txt (by rfl) _ _ (by rfl) W2.heap.size (.slice a6 8 c6) ([] ++ four (m : Int) ++ four (sumF body)) (by rfl) HO6.out _ body (by rfl) HT6.out h8 HS6.out ?_; intro ad' n' c' w7 o7 b7 g7; have O7 := Lib.hid o7; have B7 := Lib.hid b7; clear o7 b7 g7))
    go_ret2
    refine ⟨_, rfl, ?_, HB2.out.trans ((HBA.out.trans B7.out).mono HB2.out.size)⟩
    have o := O7.out
    rw [List.nil_append, List.append_assoc] at o
    rw [E.out]
    exact o.base HB2.out.size
  · rw [if_neg hl, if_neg hl]
    have hd : decide ((n : Int) > 65536) = true := decide_eq_true (by omega)
    clear hn
    clear h hl
    go_enter Tryd.func13, Tryd.ntmps13
    go_upto_region 1 with fail
    generalize w.alloc (.cells #[.int .i64 g, .slice ad n c] 24) = W0 at *
    have hw0 := (Array.getElem?_eq_some_iff.1 n0).1
    have c0 := cell_of_block (o := 0) n0 rfl
    have c1 := cell_of_block (o := 1) n0 rfl
    go_wp2_with fail
    go_ret2
    exact ⟨_, rfl, OwnTxt.nil, hb0⟩
end Go.Proofs.YtomhfnaekjmjnaaDoor
