/- Levels (layer 10), the document's: List; Like. Condition: the lengths' bounds. -/
import Derived.Test.YthdljigcfhjikaaUrj
import Derived.Test.YthdljigcfhjikaaRelT
import Derived.Test.YthdljigcfhjikaaRelL
namespace Go.Proofs.Ythdljigcfhjikaa
set_option linter.unusedVariables false
open Go.ChangeShapes Go.WideShapes Go.ChangeAt Go.RowKit
attribute [local go_sem ↓] Go.wp_at_zero Go.wp_at_succ comesTo_value_eq comesTo_skip_eq comesTo_enter_eq Rl.comesToR_value_eq Rl.comesToR_skip_eq Rl.comesToR_enter_eq

theorem info_rstep : (Try.prog.info? 94).map (fun i => (i.zero, i.size, i.bytes)) = some (some (.agg #[.int .i64 0, .int .i64 0]), 2, 16) := by kernel_rfl
theorem eltR : Ap.Elt Try.prog 91 94 2 16 :=
  ⟨Try.underlying91, by obtain ⟨i, h1, h2, h3, h4⟩ := info_parts3 info_rstep; exact ⟨i, _, h1, h2, h3, h4, rfl⟩, by decide⟩
/-- an own row of the document's steps -/
def OwnR (w : World) (B : Nat) (v : Value) (l : List (Int × Int)) : Prop := w.ownsRow B 94 2 v l.length (flatU l)
theorem own_less {w : World} {B B' : Nat} {e : TypeId} {size n : Nat} {v : Value} {xs : List Value} (h : w.ownsRow B e size v n xs) (hB : B' ≤ B) : w.ownsRow B' e size v n xs := by
  refine ⟨h.1, ?_⟩
  rcases h.2 with hn | ⟨g, cap, cur, hv, hg, rest⟩
  · exact .inl hn
  · exact .inr ⟨g, cap, cur, hv, Nat.le_trans hB hg, rest⟩
theorem OwnR.form {w : World} {B : Nat} {v : Value} {l : List (Int × Int)} (h : OwnR w B v l) : ∃ ad c, v = .slice ad l.length c ∧ (0 < l.length → ∃ g, ad = some ⟨g, 0, none⟩ ∧ B ≤ g ∧ g < w.heap.size ∧ URow w g l) := by
  rcases h.2 with ⟨e, h0⟩ | ⟨g, cap, cur, e, hB, hg, hc, _⟩
  · exact ⟨none, 0, by rw [e, h0], fun h => by omega⟩
  · refine ⟨_, cap, e, fun _ => ⟨g, rfl, hB, (Array.getElem?_eq_some_iff.1 hg).1, fun k hk => ?_⟩⟩
    have h1 := flatU_get l k hk
    have h' : w.ownsRow B 94 2 (.slice (some ⟨g, 0, none⟩) l.length cap) l.length (flatU l) := by rw [← e]; exact h
    exact ⟨(h'.cellAt (k * 2) (by omega)).trans h1.1, (h'.cellAt (k * 2 + 1) (by omega)).trans h1.2⟩
theorem rd_one (W : World) (cs : Array Value) (e : TypeId) {size : Nat} (hcs : cs.size = size) (hone : ∀ u ∈ cs.toList, u.oneCell' = true) : Ap.RdG (W.alloc (.cells cs e)) size (.slice (some ⟨W.heap.size, 0, none⟩) 1 1) 1 cs.toList :=
  ⟨⟨_, 1, rfl, (fun h => by cases h), (fun a ha j u hj => by
      cases ha
      have hadd : (⟨W.heap.size, 0, none⟩ : Addr).add j = ⟨W.heap.size, j, none⟩ := by unfold Addr.add; split <;> simp_all
      rw [hadd]
      refine cell_of_block (World.alloc_heap_new W _) ?_
      simpa using hj), (fun a ha _ => by cases ha; simp)⟩, by simp [hcs], hone⟩
theorem fold_step {α β : Type} (f : β → α → β) (z : β) (C : List α) (d : α) {k : Nat} (hk : k < C.length) : (C.take (k + 1)).foldl f z = f ((C.take k).foldl f z) (C.getD k d) := by
  rw [List.take_add_one, List.foldl_append, List.getElem?_eq_getElem hk, List.getD_eq_getElem?_getD, List.getElem?_eq_getElem hk]
  rfl
theorem layfold_len (g : Int → Int) : ∀ (m : List Int) (l : List (Int × Int)), (m.foldl (fun l t => layU l t (g t)) l).length ≤ l.length + m.length
  | [], l => by simp
  | x :: r, l => by
    rw [List.foldl_cons, List.length_cons]
    have h1 := layfold_len g r (layU l x (g x))
    have h2 := layU_len l x (g x)
    omega
set_option maxRecDepth 100000 in
set_option maxHeartbeats 8000000 in
theorem rlist_any {w : World} {v : Value} {C : List ChgC} (h : RowC w v C) (hlen : C.length ≤ 1048576) (first : Int) :
    Calls Try.prog 51 #[.agg #[.int .i64 first, v]] w fun e w' => ∃ v', e = .returned v' ∧ OwnR w' w.heap.size v' (listR first C) ∧ Below w.heap.size w w' := by
  have hmx : Try.prog.follows .mixedOrders = true := by kernel_rfl
  obtain ⟨ad, cp, hv⟩ := h.form
  have hb0 := below_alloc (Below.refl _ w) (.cells #[.int .i64 first, v] 29)
  have n0 := World.alloc_heap_new w (.cells #[.int .i64 first, v] 29)
  have KT := Lib.hid (rtimes_list (h.below hb0) hlen first)
  have H := Lib.hid (fun W (hb : Below w.heap.size w W) => h.below hb)
  clear h
  subst hv
  go_enter Try.func51, Try.ntmps51
  go_upto_region 1 with fail
  generalize w.alloc (.cells #[.int .i64 first, .slice ad C.length cp] 29) = W at *
  have c0 := cell_of_block (o := 0) n0 rfl
  have c1 := cell_of_block (o := 1) n0 rfl
  go_wp2_with fail
  refine KT.out.mono ?_
  rintro e W4 ⟨tv, rfl, ht, hb4⟩
  obtain ⟨gt, ct, rfl, hct, hgt, htr⟩ := ht
  have hW := (Array.getElem?_eq_some_iff.1 n0).1
  have n4 := (hb4.block _ hW).trans n0
  have hw4 := (Array.getElem?_eq_some_iff.1 n4).1
  have N4 := Lib.hid n4
  have HTR := Lib.hid htr
  have HBW := Lib.hid (below_next hb0 hb4)
  have htl := timesU_len C
  clear c0 c1 n0 n4 hb0 hb4 htr KT
  go_wp2_with fail
  go_loopw [3, 5, 6] (fun z i u wr => ∃ k : Nat, k ≤ (timesU C).length ∧ i = .int .i64 k ∧ OwnR wr W4.heap.size z (((timesU C).take k).foldl (fun l t => layU l t (ratU first C t)) []) ∧ Below W4.heap.size W4 wr) (fun _ i _ _ => (timesU C).length - (intOf i).toNat)
  case atStart => exact ⟨0, by omega, rfl, ⟨rfl, .inl ⟨rfl, rfl⟩⟩, Below.refl _ _⟩
  case round =>
    obtain ⟨k, hk, rfl, ho, hb⟩ := hrel
    have HBr := Lib.hid hb
    have hll := layfold_len (ratU first C) ((timesU C).take k) []
    rw [List.length_take] at hll
    simp only [List.length_nil] at hll
    obtain ⟨l, hl⟩ : ∃ l, l = ((timesU C).take k).foldl (fun l t => layU l t (ratU first C t)) [] := ⟨_, rfl⟩
    rw [← hl] at ho hll
    have HL := Lib.hid hl.symm
    clear hl
    obtain ⟨za, zc, rfl, hza⟩ := ho.form
    have HO := Lib.hid ho
    clear hb ho
    by_cases hlt : k < (timesU C).length
    case neg =>
      have hd : decide (k < (timesU C).length) = false := decide_eq_false hlt
      have hke : k = (timesU C).length := by omega
      have hle : l = listR first C := by rw [← HL.out, hke, List.take_length]; rfl
      have HR := Lib.hid (show OwnR wr w.heap.size (.slice za l.length zc) (listR first C) from own_less (show OwnR wr W4.heap.size (.slice za l.length zc) (listR first C) from hle ▸ HO.out) HBW.out.size)
      clear hle
      have HB9 := Lib.hid (Below.trans HBW.out (Below.mono HBr.out HBW.out.size))
      clear HO hke
      go_wp2_with fail
      go_ret
      exact ⟨_, rfl, HR.out, HB9.out⟩
    case pos =>
      have hd : decide (k < (timesU C).length) = true := decide_eq_true hlt
      have hix : (k : Int) < ((timesU C).length : Int) := by omega
      have hw1 : IntKind.i64.wrap ((k : Int) + 1) = ((k + 1 : Nat) : Int) := by rw [IntKind.wrap_i64]; omega
      have HS := Lib.hid (fold_step (fun l t => layU l t (ratU first C t)) [] (timesU C) (0 : Int) hlt)
      have q0 := (HBr.out.cell (p := ⟨gt, k, none⟩) hgt).trans (HTR.out k hlt)
      generalize (timesU C).getD k 0 = tk at *
      have n1 := (HBr.out.block _ hw4).trans N4.out
      have hw5 := (Array.getElem?_eq_some_iff.1 n1).1
      have c0 := cell_of_block (o := 0) n1 rfl
      have c1 := cell_of_block (o := 1) n1 rfl
      have hgt5 : gt < wr.heap.size := Nat.lt_of_lt_of_le hgt HBr.out.size
      have KA := Lib.hid (fun W (hb : Below wr.heap.size wr W) => rat_any (H.out W (Below.trans HBW.out (Below.trans (Below.mono HBr.out HBW.out.size) (Below.mono hb (Nat.le_trans HBW.out.size HBr.out.size))))) (by omega) first tk)
      obtain ⟨lv, hlv⟩ : ∃ lv, lv = ratU first C tk := ⟨_, rfl⟩
      rw [← hlv] at KA HS
      clear hlv
      go_upto_region 6 with fail
      refine Rl.wp_region_rel (fun a b => Below a.heap.size a b) wr (fun a b c h h' => below_next h h') (fun a => Below.refl _ _) hmx (by kernel_rfl) (Below.refl _ _).drew ?_
      iterate 5 (refine Rl.textR_run ?_ (fun ρ => ?_) (fun ρ W hS hd => ?_) ?_; rotate_left; (focus go_simp); (focus (obtain ⟨hc, hf⟩ := bcell hS; go_simp; first | exact ⟨rfl, Below.refl _ _⟩ | (refine ⟨?_, Below.refl _ _⟩; rfl))); (try go_simp))
      (refine Rl.textR_run ?_ (fun ρ => ?_) (fun ρ W hS hd => ?_) ?_; rotate_left; (focus go_simp); (focus (obtain ⟨hc, hf⟩ := bcell hS; go_simp; refine (KA.out _ hS).mono ?_; rintro e w1 ⟨rfl, hb⟩; refine ⟨_, rfl, ?_, hb⟩; rfl)); (try go_simp))
      (refine Rl.textR_run ?_ (fun ρ => ?_) (fun ρ W hS hd => ?_) ?_; rotate_left; (focus go_simp); (focus (obtain ⟨hc, hf⟩ := bcell hS; go_simp; first | exact ⟨rfl, Below.refl _ _⟩ | (refine ⟨?_, Below.refl _ _⟩; rfl))); (try go_simp))
      refine Rl.textR_nil ?_
      intro ρ w1 hg hk1
      dsimp only
      have HB1 := Lib.hid (Below.trans HBr.out (Below.mono hg HBr.out.size))
      have HO1 := Lib.hid (show OwnR w1 W4.heap.size (.slice za l.length zc) l from Ap.own_below HO.out hg)
      have q0 := (hg.cell (p := ⟨gt, k, none⟩) hgt5).trans q0
      have hza1 : 0 < l.length → ∃ g, za = some ⟨g, 0, none⟩ ∧ w1.cell? ⟨g, (l.length - 1) * 2 + 1, none⟩ = some (.int .i64 (l.getD (l.length - 1) (0, 0)).2) := fun hp => by
        obtain ⟨g, e, _, hgl, hr⟩ := hza hp
        exact ⟨g, e, (hg.cell (p := ⟨g, (l.length - 1) * 2 + 1, none⟩) hgl).trans (hr (l.length - 1) (by omega)).2⟩
      have HZA := Lib.hid hza1
      clear hg hk1 c0 c1 n1 HO KA HBr hza hza1
      by_cases h0 : l.length = 0
      case pos =>
        have hq : ((l.length : Int) == 0) = true := beq_iff_eq.2 (by omega)
        have hnl : l = [] := List.eq_nil_of_length_eq_zero h0
        have HNL := Lib.hid hnl
        clear hnl h0
        go_upto_region 8 with fail
        refine wp_region_lit ?_
        refine wpList_yield (w' := w1) (v := .slice za l.length zc) rfl (by first | (go_simp; done) | (go_simp; rfl)) ?_
        refine wpList_yield (w' := w1) (v := .slice (some ⟨gt, 0, none⟩) (timesU C).length ct) rfl (by first | (go_simp; done) | (go_simp; rfl)) ?_
        refine wpList_yield (w' := w1) (v := .int .i64 k) rfl (by first | (go_simp; done) | (go_simp; rfl)) ?_
        refine wpList_yield (w' := w1) (v := .pointer (some ⟨gt, k, none⟩)) rfl (by first | (go_simp; done) | (go_simp; rfl)) ?_
        refine wpList_yield (w' := w1) (v := .int .i64 tk) rfl (by first | (go_simp; done) | (go_simp; rfl)) ?_
        refine wpList_yield (w' := w1) (v := .int .i64 lv) rfl (by first | (go_simp; done) | (go_simp; rfl)) ?_
        refine wpList_yield (w' := w1) (v := .agg #[.int .i64 tk, .int .i64 lv]) rfl (by first | (go_simp; done) | (go_simp; rfl)) ?_
        refine wpList_yield (w' := w1.alloc (.cells #[.int .i64 tk, .int .i64 lv] 94)) (v := .slice (some ⟨w1.heap.size, 0, none⟩) 1 1) rfl (by first | (go_simp; done) | (go_simp; rfl)) ?_
        have hbA := below_alloc (Below.refl _ w1) (.cells #[.int .i64 tk, .int .i64 lv] 94)
        obtain ⟨v', W2, hrun, hown, _, hbel⟩ := Ap.run_app eltR 91 W4.heap.size _ l.length _ (Ap.own_below HO1.out hbA) _ 1 _ (rd_one w1 #[.int .i64 tk, .int .i64 lv] 94 (size := 2) rfl (by intro u hu; simp at hu; rcases hu with rfl | rfl <;> rfl)) (by unfold maxLen; omega) (by omega) (Nat.le_trans HB1.out.size hbA.size)
        refine wpList_yield (w' := W2) (v := v') rfl (Ap.exec_app rfl (by go_simp) (by go_simp) hrun) ?_
        have HO2 := Lib.hid (show OwnR W2 W4.heap.size v' ((timesU C).take (k + 1) |>.foldl (fun l t => layU l t (ratU first C t)) []) from by
          rw [HS.out, HL.out, show layU l tk lv = l ++ [(tk, lv)] from if_neg (by rw [HNL.out]; simp)]
          unfold OwnR
          rw [List.length_append, flatU_append]
          exact hown)
        have HB2 := Lib.hid (Below.trans HB1.out (Below.trans (Below.mono hbA HB1.out.size) hbel))
        obtain ⟨a2, n2, c2, rfl⟩ : ∃ a n c, v' = .slice a n c := by
          rcases hown.2 with ⟨e, _⟩ | ⟨g, cap, cur, e, _⟩ <;> exact ⟨_, _, _, e⟩
        clear hown hrun hbel hbA q0
        go_wp2_with fail
        exact ⟨⟨k + 1, by omega, rfl, HO2.out, HB2.out⟩, by show (timesU C).length - (((k + 1 : Nat) : Int)).toNat < (timesU C).length - ((k : Int)).toNat; omega⟩
      case neg =>
        have hq : ((l.length : Int) == 0) = false := beq_false_of_ne (by omega)
        obtain ⟨g, rfl, q1⟩ := HZA.out (by omega)
        have hwl : IntKind.i64.wrap ((l.length : Int) - 1) = ((l.length - 1 : Nat) : Int) := by rw [IntKind.wrap_i64]; omega
        have hix2 : ((l.length - 1 : Nat) : Int) < (l.length : Int) := by omega
        have HLG := Lib.hid (last_getD (l := l) (by omega))
        by_cases hv : (l.getD (l.length - 1) (0, 0)).2 = lv
        case pos =>
          have hqv : ((l.getD (l.length - 1) (0, 0)).2 == lv) = true := beq_iff_eq.2 hv
          have HO2 := Lib.hid (show OwnR w1 W4.heap.size (.slice (some ⟨g, 0, none⟩) l.length zc) ((timesU C).take (k + 1) |>.foldl (fun l t => layU l t (ratU first C t)) []) from by
            rw [HS.out, HL.out, show layU l tk lv = l from if_pos (by rw [HLG.out]; simp only [Option.map_some]; rw [hv])]
            exact HO1.out)
          clear hv
          generalize (l.getD (l.length - 1) (0, 0)).2 = lw at *
          go_wp2_with fail
          exact ⟨⟨k + 1, by omega, rfl, HO2.out, HB1.out⟩, by show (timesU C).length - (((k + 1 : Nat) : Int)).toNat < (timesU C).length - ((k : Int)).toNat; omega⟩
        case neg =>
          have hqv : ((l.getD (l.length - 1) (0, 0)).2 == lv) = false := beq_false_of_ne hv
          have HNE := Lib.hid (show ¬ l.getLast?.map (·.2) = some lv from by rw [HLG.out]; simp only [Option.map_some]; intro e; exact hv (by simpa using e))
          clear hv HLG
          generalize (l.getD (l.length - 1) (0, 0)).2 = lw at *
          go_upto_region 8 with fail
          refine wp_region_lit ?_
          refine wpList_yield (w' := w1) (v := .slice (some ⟨g, 0, none⟩) l.length zc) rfl (by first | (go_simp; done) | (go_simp; rfl)) ?_
          refine wpList_yield (w' := w1) (v := .slice (some ⟨gt, 0, none⟩) (timesU C).length ct) rfl (by first | (go_simp; done) | (go_simp; rfl)) ?_
          refine wpList_yield (w' := w1) (v := .int .i64 k) rfl (by first | (go_simp; done) | (go_simp; rfl)) ?_
          refine wpList_yield (w' := w1) (v := .pointer (some ⟨gt, k, none⟩)) rfl (by first | (go_simp; done) | (go_simp; rfl)) ?_
          refine wpList_yield (w' := w1) (v := .int .i64 tk) rfl (by first | (go_simp; done) | (go_simp; rfl)) ?_
          refine wpList_yield (w' := w1) (v := .int .i64 lv) rfl (by first | (go_simp; done) | (go_simp; rfl)) ?_
          refine wpList_yield (w' := w1) (v := .agg #[.int .i64 tk, .int .i64 lv]) rfl (by first | (go_simp; done) | (go_simp; rfl)) ?_
          refine wpList_yield (w' := w1.alloc (.cells #[.int .i64 tk, .int .i64 lv] 94)) (v := .slice (some ⟨w1.heap.size, 0, none⟩) 1 1) rfl (by first | (go_simp; done) | (go_simp; rfl)) ?_
          have hbA := below_alloc (Below.refl _ w1) (.cells #[.int .i64 tk, .int .i64 lv] 94)
          obtain ⟨v', W2, hrun, hown, _, hbel⟩ := Ap.run_app eltR 91 W4.heap.size _ l.length _ (Ap.own_below HO1.out hbA) _ 1 _ (rd_one w1 #[.int .i64 tk, .int .i64 lv] 94 (size := 2) rfl (by intro u hu; simp at hu; rcases hu with rfl | rfl <;> rfl)) (by unfold maxLen; omega) (by omega) (Nat.le_trans HB1.out.size hbA.size)
          refine wpList_yield (w' := W2) (v := v') rfl (Ap.exec_app rfl (by go_simp) (by go_simp) hrun) ?_
          have HO2 := Lib.hid (show OwnR W2 W4.heap.size v' ((timesU C).take (k + 1) |>.foldl (fun l t => layU l t (ratU first C t)) []) from by
            rw [HS.out, HL.out, show layU l tk lv = l ++ [(tk, lv)] from if_neg (by exact HNE.out)]
            unfold OwnR
            rw [List.length_append, flatU_append]
            exact hown)
          have HB2 := Lib.hid (Below.trans HB1.out (Below.trans (Below.mono hbA HB1.out.size) hbel))
          obtain ⟨a2, n2, c2, rfl⟩ : ∃ a n c, v' = .slice a n c := by
            rcases hown.2 with ⟨e, _⟩ | ⟨g, cap, cur, e, _⟩ <;> exact ⟨_, _, _, e⟩
          clear hown hrun hbel hbA q0
          go_wp2_with fail
          exact ⟨⟨k + 1, by omega, rfl, HO2.out, HB2.out⟩, by show (timesU C).length - (((k + 1 : Nat) : Int)).toNat < (timesU C).length - ((k : Int)).toNat; omega⟩
set_option maxRecDepth 100000 in
set_option maxHeartbeats 8000000 in
theorem like_any {w : World} {S : Nat} {L : List (Int × Int)} {v : Value} {C : List ChgC} {first : Int} (h : USt w S L) (hr : RightU L) (hc : RowC w v C) (hlen : C.length ≤ 1048576) (hlk : LikeU first L C) :
    Calls Try.prog 13 #[.pointer (some ⟨S, 0, none⟩), .agg #[.int .i64 first, v]] w fun e w' => e = .returned (.int .i64 1) ∧ Below w.heap.size w w' := by
  have hmx : Try.prog.follows .mixedOrders = true := by kernel_rfl
  have hLL := like_list hlk hr
  obtain ⟨ad, cp, hv⟩ := hc.form
  have hpos := hr.pos
  have hlenL := h.len
  have hb0 := below_alloc (Below.refl _ w) (.cells #[.int .i64 first, v] 29)
  have n0 := World.alloc_heap_new w (.cells #[.int .i64 first, v] 29)
  have H := Lib.hid (fun W (hb : Below w.heap.size w W) => hc.below hb)
  have HU := Lib.hid (fun W (hb : Below w.heap.size w W) => h.below hb)
  clear h hc hlk hr
  subst hv
  go_enter Try.func13, Try.ntmps13
  go_upto_region 1 with fail
  generalize w.alloc (.cells #[.int .i64 first, .slice ad C.length cp] 29) = W at *
  have hW := (Array.getElem?_eq_some_iff.1 n0).1
  refine Ap.wp_region_K (S1 := fun X => X.cell? ⟨w.heap.size, 0, none⟩ = some (.int .i64 first) ∧ X.cell? ⟨w.heap.size, 1, none⟩ = some (.slice ad C.length cp)) (S2 := fun _ => True) (js := 5) hmx ?_
  change Ap.wpAnyK _ _ _ _ _ _ _ 6 _ _ W.drew
  have hSS : (fun X : World => X.cell? ⟨w.heap.size, 0, none⟩ = some (.int .i64 first) ∧ X.cell? ⟨w.heap.size, 1, none⟩ = some (.slice ad C.length cp)) W.drew ∧ (fun _ : World => True) W.drew := ⟨⟨cell_of_block n0 rfl, cell_of_block n0 rfl⟩, trivial⟩
  have hbd : Below w.heap.size w W.drew := Below.drew hb0
  refine Ap.wpAnyK_take1 (i := 0) (v := .pointer (some ⟨S, 0, none⟩)) rfl (by decide) (by decide +kernel) (by decide +kernel) (by decide +kernel) (fun _ _ _ h => h) (.inl ⟨by first | rfl | (go_simp; done), fun X hX => by have hx1 := hX.1; have hx2 := hX.2; clear hX; first | (go_simp; done) | (go_simp; rfl)⟩) hSS ?_
  refine Ap.wpAnyK_take1 (i := 2) (v := .agg #[.int .i64 first, .slice ad C.length cp]) rfl (by decide) (by decide +kernel) (by decide +kernel) (by decide +kernel) (fun _ _ _ h => h) (.inl ⟨by first | rfl | (go_simp; done), fun X hX => by have hx1 := hX.1; have hx2 := hX.2; clear hX; first | (go_simp; done) | (go_simp; rfl)⟩) hSS ?_
  refine Ap.anyK_call (i := 1) (by decide +kernel) rfl rfl (by go_simp) (list_any (HU.out _ hbd)) ?_
  rintro e X ⟨g, c, rfl, g1, g2, g3, g4, hbx⟩
  have hS1 : (fun X : World => X.cell? ⟨w.heap.size, 0, none⟩ = some (.int .i64 first) ∧ X.cell? ⟨w.heap.size, 1, none⟩ = some (.slice ad C.length cp)) X := ⟨(hbx.cell (p := ⟨w.heap.size, 0, none⟩) hW).trans hSS.1.1, (hbx.cell (p := ⟨w.heap.size, 1, none⟩) hW).trans hSS.1.2⟩
  refine ⟨_, rfl, ⟨hS1, fun _ => trivial⟩, ?_⟩
  refine Ap.anyK_call (i := 3) (by decide +kernel) rfl rfl (by go_simp) (rlist_any (H.out _ (below_next hbd hbx)) hlen first) ?_
  rintro e X2 ⟨v2, rfl, ho, hbx2⟩
  rw [hLL] at ho
  obtain ⟨ad2, c2, rfl, hf⟩ := ho.form
  obtain ⟨g9, rfl, h9, h10, h11⟩ := hf hpos
  have hWX : w.heap.size < X.heap.size := Nat.lt_of_lt_of_le hW hbx.size
  have hS2 : (fun X : World => X.cell? ⟨w.heap.size, 0, none⟩ = some (.int .i64 first) ∧ X.cell? ⟨w.heap.size, 1, none⟩ = some (.slice ad C.length cp)) X2 := ⟨(hbx2.cell (p := ⟨w.heap.size, 0, none⟩) hWX).trans hS1.1, (hbx2.cell (p := ⟨w.heap.size, 1, none⟩) hWX).trans hS1.2⟩
  refine ⟨_, rfl, ⟨hS2, fun _ => trivial⟩, ?_⟩
  have HR1 := Lib.hid (show URow X2 g L from g4.mono (hbx2.block g g2))
  have HR2 := Lib.hid h11
  have hg2 : g < X2.heap.size := Nat.lt_of_lt_of_le g2 hbx2.size
  have HB := Lib.hid (below_next (below_next hbd hbx) hbx2)
  clear ho hf h11 g4 hbx hbx2 hS1 hSS n0 hb0 hbd hLL
  refine Ap.anyK_val1 (i := 4) (v := .slice (some ⟨g, 0, none⟩) L.length c) (w' := X2) (by decide +kernel) rfl rfl (by first | (go_simp; done) | (go_simp; rfl)) ⟨hS2, trivial⟩ ?_
  refine Ap.anyK_val1 (i := 5) (v := .slice (some ⟨g9, 0, none⟩) L.length c2) (w' := X2) (by decide +kernel) rfl rfl (by first | (go_simp; done) | (go_simp; rfl)) ⟨hS2, trivial⟩ ?_
  refine Ap.wpAnyK_done (by decide +kernel) ?_ _
  clear hS2
  go_wp2_with fail
  go_loopw [7] (fun i wr => ∃ k : Nat, k ≤ L.length ∧ i = .int .i64 k ∧ Below X2.heap.size X2 wr) (fun i _ => L.length - (intOf i).toNat)
  case atStart => exact ⟨0, by omega, rfl, Below.refl _ _⟩
  case round =>
    obtain ⟨k, hk, rfl, hb⟩ := hrel
    have HBr := Lib.hid hb
    by_cases hlt : k < L.length
    case neg =>
      have hd : decide (k < L.length) = false := decide_eq_false hlt
      clear hb
      go_wp2_with fail
      go_ret
      exact ⟨rfl, below_next HB.out HBr.out⟩
    case pos =>
      have hd : decide (k < L.length) = true := decide_eq_true hlt
      have hix : (k : Int) < (L.length : Int) := by omega
      have hw1 : IntKind.i64.wrap ((k : Int) + 1) = ((k + 1 : Nat) : Int) := by rw [IntKind.wrap_i64]; omega
      have q0 := (hb.cell (p := ⟨g, k * 2, none⟩) hg2).trans (HR1.out k hlt).1
      have q1 := (hb.cell (p := ⟨g, k * 2 + 1, none⟩) hg2).trans (HR1.out k hlt).2
      have r0 := (hb.cell (p := ⟨g9, k * 2, none⟩) h10).trans (HR2.out k hlt).1
      have r1 := (hb.cell (p := ⟨g9, k * 2 + 1, none⟩) h10).trans (HR2.out k hlt).2
      have hgw : g < wr.heap.size := Nat.lt_of_lt_of_le hg2 hb.size
      have hgw9 : g9 < wr.heap.size := Nat.lt_of_lt_of_le h10 hb.size
      generalize L.getD k (0, 0) = p at *
      obtain ⟨p1, p2⟩ := p
      simp only at q0 q1 r0 r1
      clear hb
      go_upto_region 7 with fail
      refine Rl.wp_region_rel (fun a b => Below a.heap.size a b) wr (fun a b c h h' => below_next h h') (fun a => Below.refl _ _) hmx (by kernel_rfl) (Below.refl _ _).drew ?_
      iterate 24 (refine Rl.textR_run ?_ (fun ρ => ?_) (fun ρ W hS hd => ?_) ?_; rotate_left; (focus go_simp); (focus (obtain ⟨hc, hf⟩ := bcell hS; go_simp; first | exact ⟨rfl, Below.refl _ _⟩ | (refine ⟨?_, Below.refl _ _⟩; rfl))); (try go_simp))
      refine Rl.textR_nil ?_
      intro ρ w1 hg hk1
      dsimp only
      have HB1 := Lib.hid (below_next HBr.out hg)
      clear hg hk1 q0 q1 r0 r1
      go_wp2_with fail
      exact ⟨⟨k + 1, by omega, rfl, HB1.out⟩, by show L.length - (((k + 1 : Nat) : Int)).toNat < L.length - ((k : Int)).toNat; omega⟩
end Go.Proofs.Ythdljigcfhjikaa
