/- Laws that belong together: Records' frames: what Frame tells. Conditions: the numbers' bounds.; Records' frames: the first one of bytes. Condition: errors.errorType reads as the program's text lays it. -/
import Derived.Test.YtomhfnaekjmjnaaDoorMae
import Derived.Test.YtomhfnaekjmjnaaDoorMSumC
import Derived.Test.YtomhfnaekjmjnaaDoorMAppTwo
import Derived.Test.YtomhfnaekjmjnaaDoorMag
namespace Go.Proofs.YtomhfnaekjmjnaaDoor
set_option linter.unusedVariables false
open Go.ChangeShapes Go.WideShapes Go.ChangeAt Go.RowKit
attribute [local go_sem ↓] Go.wp_at_zero Go.wp_at_succ comesTo_value_eq comesTo_skip_eq comesTo_enter_eq

theorem elt8 : Ap.Elt Tryd.prog 22 5 1 1 :=
  ⟨Tryd.underlying22, by obtain ⟨i, hi, hz, hs, hb⟩ := info_parts info_u8; exact ⟨i, _, hi, hz, hs, hb, rfl⟩, by decide⟩
theorem TxtAt.rd {w : World} {v : Value} {xs : List Int} (h : TxtAt w v xs) : Ap.RdG w 1 v xs.length (cellsOf8 xs) := by
  have h1 : ∀ u ∈ cellsOf8 xs, u.oneCell' = true := fun u hu => by
    simp [cellsOf8] at hu
    obtain ⟨n, _, rfl⟩ := hu
    rfl
  rcases h with ⟨b, o, c, rfl, hn, hr⟩ | ⟨rfl, a, c, rfl, hc⟩
  · refine ⟨⟨_, c, rfl, fun e => (by cases e), fun a ha j u hj => ?_, fun a ha _ => ?_⟩, by simp [cellsOf8], h1⟩
    · cases ha
      have hjl : j < xs.length := by
        rcases Nat.lt_or_ge j xs.length with h | h
        · exact h
        · rw [List.getElem?_eq_none (by simpa [cellsOf8] using h)] at hj; cases hj
      have hplain : (⟨b, o, none⟩ : Addr).add j = ⟨b, o + j, none⟩ := by unfold Addr.add; split <;> simp_all
      rw [hplain, hr.cell j hjl]
      simp [cellsOf8, hjl] at hj
      simp [List.getD, hjl, hj]
    · cases ha
      exact World.block_lt_of_cell? w _ (hr.cell 0 hn)
  · exact ⟨⟨a, c, rfl, fun e => rfl, fun _ _ j u hj => by simp [cellsOf8] at hj, fun _ _ hm => absurd hm (by simp)⟩, rfl, h1⟩
/-- an append of bytes, as it is run -/
theorem run_app8 {w : World} {B : Nat} {v u : Value} {xs ys : List Int} (hown : OwnTxt w B v xs) (ht : TxtAt w u ys) (hl : xs.length + ys.length ≤ 140737488355328) (hB : B ≤ w.heap.size) (ty : TypeId) :
    ∃ v' w', (Builtin.append_ #[22, 22] ty #[v, u]).run Tryd.prog w = .ok v' w' ∧ OwnTxt w' B v' (xs ++ ys) ∧ Below B w w' := by
  obtain ⟨v', w', h1, h2, _, h4⟩ := Ap.run_app elt8 ty B v xs.length (cellsOf8 xs) hown.own u ys.length (cellsOf8 ys) ht.rd (by unfold maxLen; omega) (by omega) hB
  have hy := ht.bytes8
  refine ⟨v', w', h1, ⟨by rw [List.length_append, cellsOf8_append]; exact h2, fun k hk => ?_, fun k hk => ?_⟩, h4⟩
  · by_cases hlt : k < xs.length
    · rw [show (xs ++ ys).getD k 0 = xs.getD k 0 by simp [List.getD, List.getElem?_append_left, hlt]]; exact hown.lo k hlt
    · rw [show (xs ++ ys).getD k 0 = ys.getD (k - xs.length) 0 by simp [List.getD, List.getElem?_append_right (show xs.length ≤ k by omega)]]
      exact (hy _ (by simp at hk; omega)).1
  · by_cases hlt : k < xs.length
    · rw [show (xs ++ ys).getD k 0 = xs.getD k 0 by simp [List.getD, List.getElem?_append_left, hlt]]; exact hown.hi k hlt
    · rw [show (xs ++ ys).getD k 0 = ys.getD (k - xs.length) 0 by simp [List.getD, List.getElem?_append_right (show xs.length ≤ k by omega)]]
      exact (hy _ (by simp at hk; omega)).2
theorem takes_one (zs : List Int) : valI (takes (1, 0) [zs]) = sumF zs := by
  have hb := sumAll_bd (1, 0) zs (by decide)
  have e : takes (1, 0) [zs] = sumAll (1, 0) zs := by
    unfold takes takeI
    simp only [List.foldl_cons, List.foldl_nil]
    split
    · rename_i h; subst h; rfl
    · rfl
  rw [e]
  unfold valI sumF
  omega
/-- a check sum of one text -/
theorem sum_one {w : World} {b : Nat} {v : Value} {zs : List Int} {T : TypeId} (hb : w.heap[b]? = some (.cells #[v] T (0, 0))) (ht : TxtAt w v zs) :
    Calls Tryd.prog 40 #[.slice (some ⟨b, 0, none⟩) 1 1] w fun e w' => e = .returned (.int .u32 (sumF zs)) ∧ Below w.heap.size w w' := by
  have := sum_some b 0 1 [v] [zs] (by simp) w ⟨rfl, by simp, fun k hk => by
    obtain rfl : k = 0 := by simpa using hk
    exact cell_of_block hb rfl, fun k hk => by
    obtain rfl : k = 0 := by simpa using hk
    exact ht⟩
  rw [takes_one] at this
  exact this
def FrameEnd (w : World) (r : JRec) (e : Ending) (w' : World) : Prop := ∃ u, e = .returned (.tuple #[u, .int .i64 (if r.2.length ≤ 65536 then 0 else 3)]) ∧ OwnTxt w' w.heap.size u (if r.2.length ≤ 65536 then frameF r else []) ∧ Below w.heap.size w w'
set_option maxRecDepth 100000 in
theorem frame_any {w : World} (g : Int) (hg : -9223372036854775808 ≤ g ∧ g ≤ 9223372036854775807) {ad : Option Addr} {n c : Nat} {bs : List Int} (h : TxtAt w (.slice ad n c) bs) :
    Calls Tryd.prog 13 #[.agg #[.int .i64 g, .slice ad n c]] w fun e w' => FrameEnd w (g, bs) e w' := by
  have hmx : Tryd.prog.follows .mixedOrders = true := by kernel_rfl
  have hn : n = bs.length := by
    rcases h with ⟨b', o', c', e, h1, h2⟩ | ⟨rfl, a, cp, e, _⟩ <;> (cases e; rfl)
  have hb0 := below_alloc (Below.refl _ w) (.cells #[.int .i64 g, .slice ad n c] 24)
  have n0 := World.alloc_heap_new w (.cells #[.int .i64 g, .slice ad n c] 24)
  unfold FrameEnd
  simp only
  by_cases hl : bs.length ≤ 65536
  · rw [if_pos hl, if_pos hl]
    have hd : decide ((n : Int) > 65536) = false := decide_eq_false (by omega)
    clear hn
    have HT := Lib.hid (h.below hb0)
    have HL := Lib.hid hl
    have HG := Lib.hid (show GoodR (g, bs) from ⟨hg, hl, fun x hx => by
      obtain ⟨k, hk, rfl⟩ := List.getElem_of_mem hx
      have := h.bytes8 k hk
      simpa [List.getD, List.getElem?_eq_getElem hk] using this⟩)
    clear h hl
    go_enter Tryd.func13, Tryd.ntmps13
    go_upto_region 1 with fail
    generalize w.alloc (.cells #[.int .i64 g, .slice ad n c] 24) = W0 at *
    have hw0 := (Array.getElem?_eq_some_iff.1 n0).1
    have c0 := cell_of_block (o := 0) n0 rfl
    have c1 := cell_of_block (o := 1) n0 rfl
    go_upto_region 3 with fail
    refine Ap.wp_region_K (S1 := fun X : World => X.heap[w.heap.size]? = some (.cells #[.int .i64 g, .slice ad n c] 24 (0, 0))) (S2 := fun _ => True) (js := 6) hmx ?_
    change Ap.wpAnyK _ _ _ _ _ _ _ 7 _ _ W0.drew
    have hSS : (fun X : World => X.heap[w.heap.size]? = some (.cells #[.int .i64 g, .slice ad n c] 24 (0, 0))) W0.drew ∧ (fun _ : World => True) W0.drew := ⟨n0, trivial⟩
    refine Ap.wpAnyK_take1 (i := 0) (v := .pointer (some ⟨w.heap.size, 0, none⟩)) rfl (by decide) (by decide +kernel) (by decide +kernel) (by decide +kernel) (fun _ _ _ h => h) (.inl ⟨by first | rfl | (go_simp; done), fun X hX => by have hx0 := cell_of_block (o := 0) hX rfl; have hx1 := cell_of_block (o := 1) hX rfl; clear hX c0 c1; first | (go_simp; done) | (go_simp; rfl)⟩) hSS ?_
    refine Ap.wpAnyK_take1 (i := 1) (v := .int .i64 g) rfl (by decide) (by decide +kernel) (by decide +kernel) (by decide +kernel) (fun _ _ _ h => h) (.inl ⟨by first | rfl | (go_simp; done), fun X hX => by have hx0 := cell_of_block (o := 0) hX rfl; have hx1 := cell_of_block (o := 1) hX rfl; clear hX c0 c1; first | (go_simp; done) | (go_simp; rfl)⟩) hSS ?_
    refine Ap.wpAnyK_take1 (i := 3) (v := .pointer (some ⟨w.heap.size, 1, none⟩)) rfl (by decide) (by decide +kernel) (by decide +kernel) (by decide +kernel) (fun _ _ _ h => h) (.inl ⟨by first | rfl | (go_simp; done), fun X hX => by have hx0 := cell_of_block (o := 0) hX rfl; have hx1 := cell_of_block (o := 1) hX rfl; clear hX c0 c1; first | (go_simp; done) | (go_simp; rfl)⟩) hSS ?_
    refine Ap.wpAnyK_take1 (i := 4) (v := .slice ad n c) rfl (by decide) (by decide +kernel) (by decide +kernel) (by decide +kernel) (fun _ _ _ h => h) (.inl ⟨by first | rfl | (go_simp; done), fun X hX => by have hx0 := cell_of_block (o := 0) hX rfl; have hx1 := cell_of_block (o := 1) hX rfl; clear hX c0 c1; first | (go_simp; done) | (go_simp; rfl)⟩) hSS ?_
    refine Ap.anyK_call (i := 2) (by decide +kernel) rfl rfl (by go_simp) (putint_any (v := .slice none 0 0) (xs := []) (.inr ⟨rfl, none, 0, rfl, fun _ => rfl⟩) (by simp) hg) ?_
    rintro e W1 ⟨u1, rfl, ho1, hb1⟩
    have m1 := (hb1.block _ hw0).trans n0
    refine ⟨_, rfl, ⟨m1, fun _ => trivial⟩, ?_⟩
    have hlen := HL.out
    have hpl := putI_len hg
    obtain ⟨u2, W2, hr2, ho2, hb2⟩ := run_app8 ho1 ((HT.out.below (Below.refl _ _).drew).below hb1) (by simp; omega) hb1.size 22
    have m2 := (hb2.block _ hw0).trans m1
    refine Ap.anyK_val1 (i := 5) (v := u2) (w' := W2) (by decide +kernel) rfl rfl (Ap.exec_app rfl (by go_simp) (by go_simp) hr2) ⟨m2, trivial⟩ ?_
    obtain ⟨a2, c2, rfl⟩ : ∃ a c, u2 = .slice a (bodyF (g, bs)).length c := by
      rcases ho2.form with ⟨rfl, e⟩ | ⟨g2, c2, rfl, _⟩
      · have e' : bodyF (g, bs) = [] := e
        have hb := body_len HG.out
        rw [e'] at hb
        simp at hb
      · exact ⟨_, _, rfl⟩
    refine Ap.anyK_val1 (i := 6) (v := .slice a2 (bodyF (g, bs)).length c2) (w' := W2) (by decide +kernel) rfl rfl (by first | (go_simp; done) | (go_simp; rfl)) ⟨m2, trivial⟩ ?_
    refine Ap.wpAnyK_done (by decide +kernel) ?_ _
    have hbody : OwnTxt W2 W0.drew.heap.size (.slice a2 (bodyF (g, bs)).length c2) (bodyF (g, bs)) := ho2
    have HB2 := Lib.hid (show Below w.heap.size w W2 from (Below.drew hb0).trans ((hb1.trans hb2).mono (Below.drew hb0).size))
    have hbl := body_len HG.out
    have HO2 := Lib.hid hbody
    have hsb := sumF_bd (bodyF (g, bs))
    have hz : IntKind.u32.wrap ((bodyF (g, bs)).length : Int) = ((bodyF (g, bs)).length : Int) := by rw [IntKind.wrap_u32]; omega
    have E := Lib.hid (show frameF (g, bs) = four ((bodyF (g, bs)).length : Int) ++ (four (sumF (bodyF (g, bs))) ++ bodyF (g, bs)) from rfl)
    obtain ⟨m, hm⟩ : ∃ m, m = (bodyF (g, bs)).length := ⟨_, rfl⟩
    generalize bodyF (g, bs) = body at *
    have HM := Lib.hid hm
    rw [← hm] at hz hbl HO2 E ⊢
    clear hm hbody ho2 ho1 hb2 hb1 hr2 hSS m1 m2 c0 c1 n0 hb0 HT hd
    go_wp2_with fail
    refine (putfour_any (v := .slice none 0 0) (xs := []) (B := W2.heap.size) OwnTxt.nil (Nat.le_refl _) (by simp) (n := (m : Int)) (by omega)).mono ?_
    rintro e W3 ⟨u3, rfl, ho3, hb3⟩
    obtain ⟨a3, c3, rfl⟩ : ∃ a c, u3 = .slice a 4 c := by
      rcases ho3.form with ⟨rfl, e⟩ | ⟨g3, c3, rfl, _⟩
      · simp [four] at e
      · exact ⟨_, _, rfl⟩
    have HO3 := Lib.hid ho3
    have HB3 := Lib.hid hb3
    have hb4 := below_alloc (Below.refl _ W3) (.cells #[.slice a2 m c2] 22)
    have HB4 := Lib.hid hb4
    have n4 := World.alloc_heap_new W3 (.cells #[.slice a2 m c2] 22)
    have KS := Lib.hid (sum_one n4 ((HO2.out.at.below hb3).below hb4))
    clear ho3 hb3 hb4 n4
    go_wp2_with fail
    refine KS.out.mono ?_
    rintro e W5 ⟨rfl, hb5⟩
    have HB5 := Lib.hid (below_next HB4.out hb5)
    clear hb5 KS
    go_wp2_with fail
    refine (putfour_any (B := W2.heap.size) (HO3.out.below HB5.out) (Nat.le_trans HB3.out.size HB5.out.size) (by simp [four]) (n := sumF body) hsb).mono ?_
    rintro e W6 ⟨u6, rfl, ho6, hb6⟩
    obtain ⟨a6, c6, rfl⟩ : ∃ a c, u6 = .slice a 8 c := by
      rcases ho6.form with ⟨rfl, e⟩ | ⟨g3, c3, rfl, _⟩
      · simp [four] at e
      · exact ⟨_, _, rfl⟩
    have HBA := Lib.hid (HB3.out.trans ((HB5.out.mono HB3.out.size).trans hb6))
    have HO6 := Lib.hid ho6
    have HT6 := Lib.hid (HO2.out.at.below HBA.out)
    have HS6 := Lib.hid HBA.out.size
    have h8 : ([] ++ four (m : Int) ++ four (sumF body)).length + body.length ≤ 140737488355328 := by have := HM.out; simp [four]; omega
    clear ho6 hb6
    go_wp2_with (at_builtin; go_loud (refine wpList_append_txt (by rfl) _ _ (by rfl) W2.heap.size (.slice a6 8 c6) ([] ++ four (m : Int) ++ four (sumF body)) (by rfl) HO6.out _ body (by rfl) HT6.out h8 HS6.out ?_; intro ad' n' c' w7 o7 b7 g7; have O7 := Lib.hid o7; have B7 := Lib.hid b7; clear o7 b7 g7))
    go_ret2
    refine ⟨_, rfl, ?_, HB2.out.trans ((HBA.out.trans B7.out).mono HB2.out.size)⟩
    have o := O7.out
    rw [List.nil_append, List.append_assoc] at o
    rw [E.out]
    exact o.base HB2.out.size
  · rw [if_neg hl, if_neg hl]
    have hd : decide ((n : Int) > 65536) = true := decide_eq_true (by omega)
    clear hn
    clear h hl
    go_enter Tryd.func13, Tryd.ntmps13
    go_upto_region 1 with fail
    generalize w.alloc (.cells #[.int .i64 g, .slice ad n c] 24) = W0 at *
    have hw0 := (Array.getElem?_eq_some_iff.1 n0).1
    have c0 := cell_of_block (o := 0) n0 rfl
    have c1 := cell_of_block (o := 1) n0 rfl
    go_wp2_with fail
    go_ret2
    exact ⟨_, rfl, OwnTxt.nil, hb0⟩
end Go.Proofs.YtomhfnaekjmjnaaDoor
namespace Go.Proofs.YtomhfnaekjmjnaaDoor
set_option linter.unusedVariables false
open Go.ChangeShapes Go.WideShapes Go.ChangeAt Go.RowKit
attribute [local go_sem ↓] Go.wp_at_zero Go.wp_at_succ comesTo_value_eq comesTo_skip_eq comesTo_enter_eq

def firstG (xs : List Int) : JRec × Nat := (firstF xs).getD ((0, []), 0)
def FirstEnd (w : World) (xs : List Int) (e : Ending) (w' : World) : Prop := ∃ u, e = .returned (.tuple #[.agg #[.int .i64 (firstG xs).1.1, u], .int .i64 ((firstG xs).2 : Int), .bool (firstF xs).isSome]) ∧ AloneT w' w.heap.size u (firstG xs).1.2 ∧ Below w.heap.size w w'
theorem slice_mid {b o n c s t : Nat} (hs : s ≤ t) (ht : t ≤ c) (W : World) : Sem.run Tryd.prog (Instr.slice 22 (.slice (some ⟨b, o, none⟩) n c) (some (.int .i64 (s : Int))) (some (.int .i64 (t : Int))) (some (.int .i64 (t : Int)))) W = .ok (.slice (some ⟨b, if t = s then o else o + s, none⟩) (t - s) (t - s)) W := by
  by_cases h : t = s
  · subst h
    go_simp
  · rw [if_neg h]
    have : s < t := by omega
    go_simp
theorem take_drop_txt {w : World} {b o n c : Nat} {xs : List Int} (h : TxtAt w (.slice (some ⟨b, o, none⟩) n c) xs) {s t : Nat} (hs : s ≤ t) (ht : t ≤ n) : TxtAt w (.slice (some ⟨b, if t = s then o else o + s, none⟩) (t - s) (t - s)) ((xs.drop s).take (t - s)) := by
  obtain ⟨hn, h | ⟨rfl, _⟩ | ⟨b', o', e, h0, hr⟩⟩ := h.form
  · cases h.1
  · have : n = 0 := by simpa using hn
    exact .inr ⟨by simp, _, t - s, by rw [show t - s = 0 by omega], fun h => by cases h⟩
  · cases e
    by_cases hst : t = s
    · subst hst
      exact .inr ⟨by simp, some ⟨b, if t = t then o else o + t, none⟩, 0, by simp, fun h => by cases h⟩
    · rw [if_neg hst]
      have hl : ((xs.drop s).take (t - s)).length = t - s := by simp; omega
      refine .inl ⟨b, o + s, _, by rw [hl], by omega, ⟨fun j hj => ?_, fun j hj => ?_, fun j hj => ?_, by have := hr.len; omega⟩⟩
      · rw [hl] at hj
        have := hr.cell (s + j) (by omega)
        rw [show o + s + j = o + (s + j) by omega, this]
        simp [List.getD, List.getElem?_drop, List.getElem?_take, hj]
      · rw [hl] at hj
        have := hr.lo (s + j) (by omega)
        simpa [List.getD, List.getElem?_drop, List.getElem?_take, hj] using this
      · rw [hl] at hj
        have := hr.hi (s + j) (by omega)
        simpa [List.getD, List.getElem?_drop, List.getElem?_take, hj] using this
theorem scan_rest (xs : List Int) (i u : Nat) : (scan i u xs).1 = xs.drop (xs.length - (scan i u xs).1.length) := by
  obtain ⟨p, hp⟩ := scan_suffix xs i u
  have hl := congrArg List.length hp
  rw [List.length_append] at hl
  generalize (scan i u xs).1 = r at *
  subst hp
  rw [show (p ++ r).length - r.length = p.length by simp, List.drop_left]
set_option maxRecDepth 100000 in
set_option maxHeartbeats 1000000 in
theorem first_any {w : World} {ad : Option Addr} {n c : Nat} {xs : List Int} (h : TxtAt w (.slice ad n c) xs) (hc : n ≤ c) (hl : xs.length ≤ 1099511627775) (hE : ErrAt w) :
    Calls Tryd.prog 66 #[.slice ad n c] w fun e w' => FirstEnd w xs e w' := by
  have hmx : Tryd.prog.follows .mixedOrders = true := by kernel_rfl
  have hn := h.form.1
  have hb0 := below_alloc (Below.refl _ w) (.cells #[.int .i64 0, .slice none 0 0] 24)
  have HR := Lib.hid (World.alloc_heap_new w (.cells #[.int .i64 0, .slice none 0 0] 24))
  have hs0 : w.heap.size < (w.alloc (.cells #[.int .i64 0, .slice none 0 0] 24)).heap.size := by simp
  unfold FirstEnd firstG
  by_cases hA : xs.length < 8
  · have hF : firstF xs = none := by unfold firstF; rw [if_pos hA]
    have hd : decide ((n : Int) < 8) = true := decide_eq_true (by omega)
    have HB := Lib.hid hb0
    clear h hA hn hE hb0
    go_enter Tryd.func66, Tryd.ntmps66
    go_upto_region 1 with fail
    generalize w.alloc (.cells #[.int .i64 0, .slice none 0 0] 24) = W0 at *
    have hw := ((wrote_refl HR.out).set 0 (.int .i64 0)).set 1 (.slice none 0 0)
    have r0 := cell_of_block (o := 0) HR.out rfl
    have r1 := cell_of_block (o := 1) HR.out rfl
    have f0 := free_of_block 0 HR.out
    have f1 := free_of_block 1 HR.out
    have HF := Lib.hid hF
    have HW := Lib.hid hw
    clear hF hw
    go_wp2_with fail
    have q0 := cell_of_block (o := 0) HW.out.there rfl
    have q1 := cell_of_block (o := 1) HW.out.there rfl
    clear r0 r1 f0 f1
    exact bodyPost_ret (v := .tuple #[.agg #[.int .i64 0, .slice none 0 0], .int .i64 0, .bool false]) (by simp only [results, Tryd.results66]; go_simp) rfl ⟨.slice none 0 0, by rw [HF.out]; rfl, by rw [HF.out]; exact AloneT.nil, HW.out.below HB.out (Nat.le_refl _)⟩
  · have hd : decide ((n : Int) < 8) = false := decide_eq_false (by omega)
    obtain ⟨b, o, rfl⟩ : ∃ b o, ad = some ⟨b, o, none⟩ := by
      rcases h.form.2 with ⟨_, e⟩ | ⟨e, _⟩ | ⟨b, o, e, _⟩
      · rw [e] at hA; simp at hA
      · rw [e] at hA; simp at hA
      · exact ⟨b, o, e⟩
    have HT := Lib.hid (h.below hb0)
    have K4 := Lib.hid (fourof_any HT.out (by omega))
    have hm := num4_bd h
    obtain ⟨m, hme⟩ : ∃ m : Nat, num4 xs = (m : Int) := ⟨(num4 xs).toNat, by omega⟩
    rw [hme] at K4 hm
    have hme' := Lib.hid hme
    have hzm : IntKind.i64.wrap (m : Int) = (m : Int) := by rw [IntKind.wrap_i64]; omega
    have hz8 : IntKind.i64.wrap ((n : Int) - 8) = (n : Int) - 8 := by rw [IntKind.wrap_i64]; omega
    have hz9 : IntKind.i64.wrap (8 + (m : Int)) = 8 + (m : Int) := by rw [IntKind.wrap_i64]; omega
    have HE := Lib.hid hE
    have HN := Lib.hid hn
    have HA := Lib.hid hA
    have HL := Lib.hid hl
    have HC := Lib.hid hc
    clear hE hn hme h hA hl hc
    go_enter Tryd.func66, Tryd.ntmps66
    go_upto_region 1 with fail
    have HB0 := Lib.hid hb0
    clear hb0
    generalize w.alloc (.cells #[.int .i64 0, .slice none 0 0] 24) = W0 at *
    go_wp2_with fail
    refine K4.out.mono ?_
    rintro e W1 ⟨rfl, hb1⟩
    have HB := Lib.hid (below_next HB0.out hb1)
    have HR1 := Lib.hid ((hb1.block _ hs0).trans HR.out)
    have HT1 := Lib.hid (HT.out.below hb1)
    have hs1 : w.heap.size < W1.heap.size := Nat.lt_of_lt_of_le hs0 hb1.size
    clear hb1 K4 HR HT HB0 hs0
    have HR := HR1
    clear HR1
    by_cases hB1 : m > 65546
    · have hF : firstF xs = none := by unfold firstF; rw [if_neg HA.out, if_pos (by rw [hme'.out]; left; omega)]
      have hq : decide ((m : Int) > 65546) = true := decide_eq_true (by omega)
      clear hB1
      have hw := ((wrote_refl HR.out).set 0 (.int .i64 0)).set 1 (.slice none 0 0)
      have r0 := cell_of_block (o := 0) HR.out rfl
      have r1 := cell_of_block (o := 1) HR.out rfl
      have f0 := free_of_block 0 HR.out
      have f1 := free_of_block 1 HR.out
      have HF := Lib.hid hF
      have HW := Lib.hid hw
      clear hF hw
      go_wp2_with fail
      have q0 := cell_of_block (o := 0) HW.out.there rfl
      have q1 := cell_of_block (o := 1) HW.out.there rfl
      clear r0 r1 f0 f1
      exact bodyPost_ret (v := .tuple #[.agg #[.int .i64 0, .slice none 0 0], .int .i64 0, .bool false]) (by simp only [results, Tryd.results66]; go_simp) rfl ⟨.slice none 0 0, by rw [HF.out]; rfl, by rw [HF.out]; exact AloneT.nil, HW.out.below HB.out (Nat.le_refl _)⟩
    · have hq : decide ((m : Int) > 65546) = false := decide_eq_false (by omega)
      by_cases hB2 : (m : Int) > (n : Int) - 8
      · have hF : firstF xs = none := by unfold firstF; rw [if_neg HA.out, if_pos (by rw [hme'.out]; right; have := HN.out; omega)]
        have hq2 : decide ((m : Int) > (n : Int) - 8) = true := decide_eq_true hB2
        clear hB1 hB2
        have hw := ((wrote_refl HR.out).set 0 (.int .i64 0)).set 1 (.slice none 0 0)
        have r0 := cell_of_block (o := 0) HR.out rfl
        have r1 := cell_of_block (o := 1) HR.out rfl
        have f0 := free_of_block 0 HR.out
        have f1 := free_of_block 1 HR.out
        have HF := Lib.hid hF
        have HW := Lib.hid hw
        clear hF hw
        go_wp2_with fail
        have q0 := cell_of_block (o := 0) HW.out.there rfl
        have q1 := cell_of_block (o := 1) HW.out.there rfl
        clear r0 r1 f0 f1
        exact bodyPost_ret (v := .tuple #[.agg #[.int .i64 0, .slice none 0 0], .int .i64 0, .bool false]) (by simp only [results, Tryd.results66]; go_simp) rfl ⟨.slice none 0 0, by rw [HF.out]; rfl, by rw [HF.out]; exact AloneT.nil, HW.out.below HB.out (Nat.le_refl _)⟩
      · have hq2 : decide ((m : Int) > (n : Int) - 8) = false := decide_eq_false hB2
        have hFX : firstF xs = if sumF ((xs.drop 8).take m) ≠ num4 (xs.drop 4) then none
            else if (scan 0 0 ((xs.drop 8).take m)).2.1 ≠ 0 ∨ (scan 0 0 ((xs.drop 8).take m)).1.length > 65536 then none
            else some (((scan 0 0 ((xs.drop 8).take m)).2.2, (scan 0 0 ((xs.drop 8).take m)).1), 8 + m) := by
          have hh := HN.out
          unfold firstF
          rw [if_neg HA.out, if_neg (by rw [hme'.out]; omega), hme'.out, Int.toNat_natCast]
        have hAA := HA.out
        have hNN := HN.out
        have hCC := HC.out
        have h8m : ((8 : Int) + (m : Int)) = ((8 + m : Nat) : Int) := by omega
        have hsl := fun W => slice_mid (b := b) (o := o) (n := n) (c := c) (s := 8) (t := 8 + m) (by omega) (by omega) W
        have hTB := take_drop_txt HT1.out (s := 8) (t := 8 + m) (by omega) (by omega)
        have hT4 := HT1.out.behind (k := 4) (by omega) HC.out
        have hsl4 := fun W => slice_from (b := b) (o := o) (n := n) (c := c) (k := 4) (by omega) HC.out W
        rw [show 8 + m - 8 = m by omega] at hTB
        simp only [show 8 + m - 8 = m by omega] at hsl
        rw [if_neg (by omega : ¬ c = 4)] at hT4
        simp only [if_neg (by omega : ¬ c = 4)] at hsl4
        obtain ⟨o8, ho8⟩ : ∃ o8, o8 = if 8 + m = 8 then o else o + 8 := ⟨_, rfl⟩
        rw [← ho8] at hTB
        simp only [← ho8] at hsl
        have hbl : ((xs.drop 8).take m).length = m := by simp; omega
        have HFX := Lib.hid hFX
        have HBL := Lib.hid hbl
        have HTB := Lib.hid hTB
        have HT4 := Lib.hid hT4
        have hm4 := num4_bd hT4
        have hn4 : 4 ≤ n - 4 := by omega
        have hm65 : m ≤ 65546 := by omega
        have HSL := Lib.hid hsl
        have HSL4 := Lib.hid hsl4
        generalize (xs.drop 8).take m = body at *
        have KF := Lib.hid (fun (X : World) (hX : Below W1.heap.size W1 X) => fourof_any (HT4.out.below hX) hn4)
        generalize num4 (xs.drop 4) = q4 at *
        clear hFX hTB hT4 hm hNN hCC hAA ho8 hB1 hB2 hsl hsl4 hbl
        have hsl := HSL.out
        have hsl4 := HSL4.out
        simp only [← h8m, show ((8 : Nat) : Int) = 8 from rfl, show ((4 : Nat) : Int) = 4 from rfl] at hsl hsl4
        clear h8m
        go_upto_region 8 with fail
        have hSS : (fun _ : World => True) W1.drew ∧ (fun _ : World => True) W1.drew := ⟨trivial, trivial⟩
        refine Ap.wp_region_K (S1 := fun _ : World => True) (S2 := fun _ => True) (js := 6) hmx ?_
        change Ap.wpAnyK _ _ _ _ _ _ _ 7 _ _ W1.drew
        refine Ap.wpAnyK_take1 (i := 0) (v := .slice (some ⟨b, o8, none⟩) m m) rfl (by decide) (by decide +kernel) (by decide +kernel) (by decide +kernel) (fun _ _ _ h => h) (.inl ⟨by first | rfl | (go_simp; done), fun X hX => by first | (go_simp; done) | (go_simp; rfl)⟩) hSS ?_
        refine Ap.wpAnyK_take1 (i := 3) (v := .slice (some ⟨b, o, none⟩) n c) rfl (by decide) (by decide +kernel) (by decide +kernel) (by decide +kernel) (fun _ _ _ h => h) (.inl ⟨by first | rfl | (go_simp; done), fun X hX => by first | (go_simp; done) | (go_simp; rfl)⟩) hSS ?_
        refine Ap.wpAnyK_take1 (i := 4) (v := .slice (some ⟨b, o + 4, none⟩) (n - 4) (c - 4)) rfl (by decide) (by decide +kernel) (by decide +kernel) (by decide +kernel) (fun _ _ _ h => h) (.inl ⟨by first | rfl | (go_simp; done), fun X hX => by first | (go_simp; done) | (go_simp; rfl)⟩) hSS ?_
        have hbd : Below W1.heap.size W1 W1.drew := Below.drew (Below.refl _ _)
        have hbe := below_alloc hbd (.cells #[.slice (some ⟨b, o8, none⟩) m m] 22)
        have n2 := World.alloc_heap_new W1.drew (.cells #[.slice (some ⟨b, o8, none⟩) m m] 22)
        refine Ap.anyK_val1 (i := 1) (v := .slice (some ⟨W1.drew.heap.size, 0, none⟩) 1 1) (w' := W1.drew.alloc (.cells #[.slice (some ⟨b, o8, none⟩) m m] 22)) (by decide +kernel) rfl rfl (by first | (go_simp; done) | (go_simp; rfl)) ⟨trivial, trivial⟩ ?_
        refine Ap.anyK_call (i := 2) (by decide +kernel) rfl rfl (by go_simp) (sum_one n2 (HTB.out.below hbe)) ?_
        rintro e W2 ⟨rfl, hb2⟩
        refine ⟨_, rfl, ⟨trivial, fun _ => trivial⟩, ?_⟩
        have hbf := below_next hbe hb2
        refine Ap.anyK_call (i := 5) (by decide +kernel) rfl rfl (by go_simp) (KF.out _ hbf) ?_
        rintro e W3 ⟨rfl, hb3⟩
        refine ⟨_, rfl, ⟨trivial, fun _ => trivial⟩, ?_⟩
        have HBg := Lib.hid (below_next hbf hb3)
        refine Ap.anyK_val1 (i := 6) (v := .bool (sumF body != q4)) (w' := W3) (by decide +kernel) rfl rfl (by first | (go_simp; done) | (go_simp; rfl)) ⟨trivial, trivial⟩ ?_
        refine Ap.wpAnyK_done (by decide +kernel) ?_ _
        have HR3 := Lib.hid ((HBg.out.block _ hs1).trans HR.out)
        have HB3 := Lib.hid (below_next HB.out HBg.out)
        have HTB3 := Lib.hid (HTB.out.below HBg.out)
        have HE3 := Lib.hid ((HE.out.below HB.out).below HBg.out)
        have hs3 : w.heap.size < W3.heap.size := Nat.lt_of_lt_of_le hs1 HBg.out.size
        clear hb2 hb3 hbd hbe hbf n2 hSS HR HB HTB HE KF HT4 HT1 hsl hsl4 HSL HSL4 HBg hs1
        have HR := HR3
        have HB := HB3
        have HTB := HTB3
        have HE := HE3
        clear HR3 HB3 HTB3 HE3
        go_simp
        by_cases hsq : sumF body = q4
        case neg =>
          have hF : firstF xs = none := by rw [HFX.out, if_pos hsq]
          have hq3 : (sumF body != q4) = true := by simpa using hsq
          clear hsq
          have hw := ((wrote_refl HR.out).set 0 (.int .i64 0)).set 1 (.slice none 0 0)
          have r0 := cell_of_block (o := 0) HR.out rfl
          have r1 := cell_of_block (o := 1) HR.out rfl
          have f0 := free_of_block 0 HR.out
          have f1 := free_of_block 1 HR.out
          have HF := Lib.hid hF
          have HW := Lib.hid hw
          clear hF hw
          go_wp2_with fail
          have q0 := cell_of_block (o := 0) HW.out.there rfl
          have q1 := cell_of_block (o := 1) HW.out.there rfl
          clear r0 r1 f0 f1
          exact bodyPost_ret (v := .tuple #[.agg #[.int .i64 0, .slice none 0 0], .int .i64 0, .bool false]) (by simp only [results, Tryd.results66]; go_simp) rfl ⟨.slice none 0 0, by rw [HF.out]; rfl, by rw [HF.out]; exact AloneT.nil, HW.out.below HB.out (Nat.le_refl _)⟩
        case pos =>
          have hq3 : (sumF body != q4) = false := by simpa using hsq
          rw [hq3]
          have HSQ := Lib.hid hsq
          clear hq3 hsq
          go_wp2_with fail
          refine (read_cur HTB.out (by have := HBL.out; omega)).mono ?_
          rintro e W4 ⟨C, rfl, hcur, hb4⟩
          have HCur := Lib.hid hcur
          have HB4 := Lib.hid hb4
          have hCge := hcur.mem
          clear hcur hb4
          go_wp2_with fail
          refine (int_cur HCur.out).mono ?_
          rintro e W5 ⟨rfl, hcur, hf5⟩
          have HB5 := Lib.hid (HB4.out.trans (hf5.below HB4.out.size (fun j hj => by have hj' : j = C := hj; omega)))
          have eI : intF ⟨body, 0⟩ = (⟨(scan 0 0 body).1, (scan 0 0 body).2.1⟩, (scan 0 0 body).2.2) := if_pos rfl
          rw [eI] at hcur
          rw [eI]
          have HCur5 := Lib.hid hcur
          have HE5 := Lib.hid (HE.out.below HB5.out)
          have hrest := scan_rest body 0 0
          have hsb := scan_bad 0 0 body
          have hsl5 : (scan 0 0 body).1.length ≤ m := by
            rw [← HBL.out]
            obtain ⟨p, hp⟩ := scan_suffix body 0 0
            have hl := congrArg List.length hp
            rw [List.length_append] at hl
            omega
          have HRest := Lib.hid hrest
          clear hcur hf5 HCur HB4 hrest hsb eI
          generalize hbad : (scan 0 0 body).2.1 = bad at *
          generalize hgen : (scan 0 0 body).2.2 = gen at *
          generalize hrs : (scan 0 0 body).1 = rs at *
          have HBad := Lib.hid hbad
          clear hbad hgen hrs
          go_wp2_with fail
          refine (bad_cur HCur5.out HE5.out).mono ?_
          rintro e W6 ⟨rfl, hb6⟩
          have HB6 := Lib.hid (below_next HB5.out hb6)
          have HCur6 := Lib.hid (HCur5.out.below hb6)
          clear hb6 HCur5 HB5
          have HR6 := Lib.hid ((HB6.out.block _ hs3).trans HR.out)
          have HBw6 := Lib.hid (below_next HB.out HB6.out)
          by_cases hbz : bad = 0
          case neg =>
            have hF : firstF xs = none := by rw [HFX.out, if_neg (by rw [HSQ.out]; simp), if_pos (.inl hbz)]
            have hq3 : (bad != 0) = true := by simpa using hbz
            clear hbz HR HB
            have HR := HR6
            have HB := HBw6
            clear HR6 HBw6
            have hw := ((wrote_refl HR.out).set 0 (.int .i64 0)).set 1 (.slice none 0 0)
            have r0 := cell_of_block (o := 0) HR.out rfl
            have r1 := cell_of_block (o := 1) HR.out rfl
            have f0 := free_of_block 0 HR.out
            have f1 := free_of_block 1 HR.out
            have HF := Lib.hid hF
            have HW := Lib.hid hw
            clear hF hw
            go_wp2_with fail
            have q0 := cell_of_block (o := 0) HW.out.there rfl
            have q1 := cell_of_block (o := 1) HW.out.there rfl
            clear r0 r1 f0 f1
            exact bodyPost_ret (v := .tuple #[.agg #[.int .i64 0, .slice none 0 0], .int .i64 0, .bool false]) (by simp only [results, Tryd.results66]; go_simp) rfl ⟨.slice none 0 0, by rw [HF.out]; rfl, by rw [HF.out]; exact AloneT.nil, HW.out.below HB.out (Nat.le_refl _)⟩
          case pos =>
            subst hbz
            have KR := Lib.hid (rest_cur HCur6.out)
            clear HR HB
            have HR := HR6
            have HB := HBw6
            clear HR6 HBw6
            have HRL := Lib.hid (show rs.length ≤ m by omega)
            have hs6 : w.heap.size < W6.heap.size := Nat.lt_of_lt_of_le hs3 HB6.out.size
            go_wp2_with fail
            refine KR.out.mono ?_
            rintro e w' ⟨rfl, rfl⟩
            by_cases hrl : (rs.length : Int) > 65536
            case pos =>
              have hF : firstF xs = none := by rw [HFX.out, if_neg (by rw [HSQ.out]; simp), if_pos (.inr (by omega))]
              have hq4 : decide ((rs.length : Int) > 65536) = true := decide_eq_true hrl
              clear hrl
              have hw := ((wrote_refl HR.out).set 0 (.int .i64 0)).set 1 (.slice none 0 0)
              have r0 := cell_of_block (o := 0) HR.out rfl
              have r1 := cell_of_block (o := 1) HR.out rfl
              have f0 := free_of_block 0 HR.out
              have f1 := free_of_block 1 HR.out
              have HF := Lib.hid hF
              have HW := Lib.hid hw
              clear hF hw
              go_wp2_with fail
              have q0 := cell_of_block (o := 0) HW.out.there rfl
              have q1 := cell_of_block (o := 1) HW.out.there rfl
              clear r0 r1 f0 f1
              exact bodyPost_ret (v := .tuple #[.agg #[.int .i64 0, .slice none 0 0], .int .i64 0, .bool false]) (by simp only [results, Tryd.results66]; go_simp) rfl ⟨.slice none 0 0, by rw [HF.out]; rfl, by rw [HF.out]; exact AloneT.nil, HW.out.below HB.out (Nat.le_refl _)⟩
            case neg =>
              have hF : firstF xs = some ((gen, rs), 8 + m) := by rw [HFX.out, if_neg (by rw [HSQ.out]; simp), if_neg (by rintro (h | h) <;> omega)]
              have hq4 : decide ((rs.length : Int) > 65536) = false := decide_eq_false hrl
              have HF := Lib.hid hF
              have hmm := HRL.out
              have hwz : IntKind.i64.wrap ((m : Int) - (rs.length : Int)) = ((m - rs.length : Nat) : Int) := by rw [IntKind.wrap_i64]; omega
              have hslr := fun W => slice_from (b := b) (o := o8) (n := m) (c := m) (k := m - rs.length) (by omega) (Nat.le_refl _) W
              have HTR := Lib.hid (((HTB.out.below HB6.out).behind (k := m - rs.length) (by omega) (Nat.le_refl _)))
              have hdr : body.drop (m - rs.length) = rs := by rw [← HBL.out]; exact HRest.out.symm
              rw [hdr] at HTR
              have hll : rs.length ≤ 140737488355328 := by omega
              have KA := Lib.hid (alone_any HTR.out hll)
              clear hF hrl hdr HTR hll
              obtain ⟨k, hk⟩ : ∃ k, k = rs.length := ⟨_, rfl⟩
              rw [← hk] at hwz hslr KA KR hq4 ⊢
              generalize m - k = mk at *
              generalize (if m = mk then o8 else o8 + mk) = o9 at *
              generalize m - mk = mk2 at *
              clear hmm hk HRest HRL HCur6 HTB HBL hsl5
              go_wp2_with fail
              refine KR.out.mono ?_
              rintro e w' ⟨rfl, rfl⟩
              go_wp2_with fail
              refine KA.out.mono ?_
              rintro e W7 ⟨u, rfl, hal, hb7⟩
              have hR7 := (hb7.block _ hs6).trans HR.out
              have HB7 := Lib.hid (below_next HB.out hb7)
              have HAL := Lib.hid hal
              obtain ⟨ua, un, uc, rfl⟩ : ∃ a n c, u = .slice a n c := by
                obtain ⟨a, c, e, _⟩ := hal
                exact ⟨_, _, _, e⟩
              have hw := ((wrote_refl hR7).set 0 (.int .i64 gen)).set 1 (.slice ua un uc)
              have r0 := cell_of_block (o := 0) hR7 rfl
              have r1 := cell_of_block (o := 1) hR7 rfl
              have f0 := free_of_block 0 hR7
              have f1 := free_of_block 1 hR7
              have HW := Lib.hid hw
              clear hw hR7 hal hb7
              go_wp2_with fail
              have q0 := cell_of_block (o := 0) HW.out.there rfl
              have q1 := cell_of_block (o := 1) HW.out.there rfl
              clear r0 r1 f0 f1
              exact bodyPost_ret (v := .tuple #[.agg #[.int .i64 gen, .slice ua un uc], .int .i64 (8 + (m : Int)), .bool true]) (by simp only [results, Tryd.results66]; go_simp) rfl ⟨.slice ua un uc, by rw [HF.out]; simp, by rw [HF.out]; exact (HAL.out.of_block (fun g _ _ _ hB => HW.out.rest g (by omega))).base (Nat.le_of_lt hs6), HW.out.below HB7.out (Nat.le_refl _)⟩
end Go.Proofs.YtomhfnaekjmjnaaDoor
