/- Laws that belong together: A pair of files with a text: where it lies, what its readings answer; and of one that nobody made. No condition. The one record that bytes are; the last text, and where it is. Condition: errors.errorType reads as the program's text lays it. A pair of files, opened. Condition: errors.errorType reads as the program's text lays it. A file written anew: one record, safe. No condition but the lengths' bounds.; What is kept behind a file that was written: the deferred part of saving. No condition.; A text that is saved. No condition but the lengths' bounds. -/
import Derived.Test.YtomhfnaekjmjnaaDoorMam
import Derived.BigQuiet
import Derived.Defers
namespace Go.Proofs.YtomhfnaekjmjnaaDoor
set_option linter.unusedVariables false
section
open Go.ChangeShapes Go.WideShapes Go.ChangeAt Go.RowKit
attribute [local go_sem ↓] Go.wp_at_zero Go.wp_at_succ comesTo_value_eq comesTo_skip_eq comesTo_enter_eq

theorem Fr.sub' {F H : Nat → Prop} {w w' : World} (h : Fr F w w') (hF : ∀ j, F j → H j) : Fr H w w' := ⟨h.os, h.tape, h.output, h.size, fun j hj hn => h.block j hj (fun hf => hn (hF j hf))⟩
/-- what it holds: the files, which has the last one (0, 1, or -1), the text, its generation, whether the disk failed -/
structure SS where
  f0 : Int
  f1 : Int
  last : Int
  text : List Int
  gen : Int
  failed : Bool
def snCells (D : Nat) (st : SS) (v : Value) : Array Value := #[.pointer (some ⟨D, 0, none⟩), .int .i64 st.f0, .int .i64 st.f1, .int .i64 st.last, v, .int .i64 st.gen, .bool st.failed]
/-- a text that lies among F's blocks -/
structure TxtF (w : World) (F : Nat → Prop) (v : Value) (xs : List Int) : Prop where
  at_ : TxtAt w v xs
  blk : ∀ ad n c p, v = .slice ad n c → ad = some p → 0 < xs.length → F p.block ∧ p.block < w.heap.size
theorem TxtAt.of_block {w w' : World} {v : Value} {xs : List Int} (h : TxtAt w v xs) (hb : ∀ ad n c p, v = .slice ad n c → ad = some p → 0 < xs.length → w'.heap[p.block]? = w.heap[p.block]?) : TxtAt w' v xs := by
  rcases h with ⟨b, o, c, e, h1, h2⟩ | ⟨h0, a, c, e, hn⟩
  · by_cases hl : 0 < xs.length
    · have hbb := hb _ _ _ _ e rfl hl
      exact .inl ⟨b, o, c, e, h1, ⟨fun k hk => (World.cell?_of_block (a := ⟨b, o + k, none⟩) hbb).trans (h2.cell k hk), h2.lo, h2.hi, h2.len⟩⟩
    · exact .inl ⟨b, o, c, e, h1, ⟨fun k hk => by omega, h2.lo, h2.hi, h2.len⟩⟩
  · exact .inr ⟨h0, a, c, e, hn⟩
theorem TxtF.keep {w w' : World} {F : Nat → Prop} {v : Value} {xs : List Int} (h : TxtF w F v xs) (hs : w.heap.size ≤ w'.heap.size) (hk : ∀ j, F j → j < w.heap.size → w'.heap[j]? = w.heap[j]?) : TxtF w' F v xs :=
  ⟨h.at_.of_block fun ad n c p e1 e2 hl => hk _ (h.blk ad n c p e1 e2 hl).1 (h.blk ad n c p e1 e2 hl).2, fun ad n c p e1 e2 hl => ⟨(h.blk ad n c p e1 e2 hl).1, Nat.lt_of_lt_of_le (h.blk ad n c p e1 e2 hl).2 hs⟩⟩
theorem TxtF.more {w : World} {F G : Nat → Prop} {v : Value} {xs : List Int} (h : TxtF w F v xs) (hG : ∀ j, j < w.heap.size → F j → G j) : TxtF w G v xs := ⟨h.at_, fun ad n c p e1 e2 hl => ⟨hG _ (h.blk ad n c p e1 e2 hl).2 (h.blk ad n c p e1 e2 hl).1, (h.blk ad n c p e1 e2 hl).2⟩⟩
theorem TxtF.nil {w : World} {F : Nat → Prop} : TxtF w F (.slice none 0 0) [] := ⟨.inr ⟨rfl, none, 0, rfl, fun _ => rfl⟩, fun ad n c p e1 e2 hl => by simp at hl⟩
theorem TxtF.of_own {w : World} {B : Nat} {v : Value} {xs : List Int} (h : OwnTxt w B v xs) : TxtF w (fun j => B ≤ j) v xs :=
  ⟨h.at, fun ad n c p e1 e2 hl => by
    subst e1
    subst e2
    exact ⟨h.blockGe (g := p.block) rfl, ownBlock_lt h (g := p.block) rfl⟩⟩
theorem TxtF.of_alone {w : World} {B : Nat} {v : Value} {xs : List Int} (h : AloneT w B v xs) : TxtF w (fun j => B ≤ j) v xs := by
  refine ⟨h.at, fun ad n c p e1 e2 hl => ?_⟩
  obtain ⟨a, cp, e, ho⟩ := h
  rw [e1] at e
  injection e with e3 e4 e5
  subst e3
  subst e2
  exact ⟨ho.blockGe (g := p.block) rfl, ownBlock_lt ho (g := p.block) rfl⟩
/-- in block S, over the disk in block D, among F's blocks -/
structure Sn (w : World) (S D : Nat) (F : Nat → Prop) (st : SS) : Prop where
  mem : F S
  gen_in : 0 ≤ st.gen ∧ st.gen ≤ 9223372036854775807
  last_in : -1 ≤ st.last ∧ st.last ≤ 1
  len : st.text.length ≤ 65536
  at_ : ∃ v, w.heap[S]? = some (.cells (snCells D st v) 87 (0, 0)) ∧ TxtF w (fun j => F j ∧ j ≠ S) v st.text
theorem Sn.lt {w : World} {S D : Nat} {F : Nat → Prop} {st : SS} (h : Sn w S D F st) : S < w.heap.size := by
  obtain ⟨_, _, _, _, v, hb, _⟩ := h
  exact (Array.getElem?_eq_some_iff.1 hb).1
theorem Sn.keep {w w' : World} {S D : Nat} {F : Nat → Prop} {st : SS} (h : Sn w S D F st) (hs : w.heap.size ≤ w'.heap.size) (hk : ∀ j, F j → j < w.heap.size → w'.heap[j]? = w.heap[j]?) : Sn w' S D F st := by
  obtain ⟨hm, hg, hl, hn, v, hb, ht⟩ := h
  exact ⟨hm, hg, hl, hn, v, (hk S hm (Array.getElem?_eq_some_iff.1 hb).1).trans hb, ht.keep hs fun j hj => hk j hj.1⟩
theorem Sn.below {w w' : World} {S D : Nat} {F : Nat → Prop} {st : SS} (h : Sn w S D F st) (hb : Below w.heap.size w w') : Sn w' S D F st := h.keep hb.size fun j _ hj => hb.block j hj
theorem Sn.bound {w : World} {S D : Nat} {F : Nat → Prop} {st : SS} (h : Sn w S D F st) : Sn w S D (fun j => F j ∧ j < w.heap.size) st := by
  have hlt := h.lt
  obtain ⟨hm, hg, hl, hn, v, hb, ht⟩ := h
  exact ⟨⟨hm, hlt⟩, hg, hl, hn, v, hb, ht.more fun j hj h => ⟨⟨h.1, hj⟩, h.2⟩⟩
/-- it and its disk, among H's blocks -/
def SD (w : World) (S D : Nat) (H : Nat → Prop) (st : SS) (ds : DS) : Prop := ∃ F G, Sn w S D F st ∧ Dk w D G ds ∧ (∀ j, F j → ¬ G j) ∧ ∀ j, F j ∨ G j → H j ∧ j < w.heap.size
theorem SD.of {w : World} {S D : Nat} {F G H : Nat → Prop} {st : SS} {ds : DS} (h : Sn w S D F st) (k : Dk w D G ds) (hFG : ∀ j, j < w.heap.size → F j → ¬ G j) (hF : ∀ j, j < w.heap.size → F j → H j) (hG : ∀ j, j < w.heap.size → G j → H j) : SD w S D H st ds :=
  ⟨_, _, h.bound, k.bound, fun j hj hg => hFG j hj.2 hj.1 hg.1, fun j hj => hj.elim (fun hj => ⟨hF j hj.2 hj.1, hj.2⟩) (fun hj => ⟨hG j hj.2 hj.1, hj.2⟩)⟩
theorem SD.fr {w w' : World} {S D : Nat} {H K : Nat → Prop} {st : SS} {ds : DS} (h : SD w S D H st ds) (hf : Fr K w w') (hK : ∀ j, j < w.heap.size → H j → ¬ K j) : SD w' S D H st ds := by
  obtain ⟨F, G, hl, hd, hFG, hH⟩ := h
  exact ⟨F, G, hl.keep hf.size fun j hj hlt => hf.block j hlt (hK j hlt (hH j (.inl hj)).1), Fr.dk hd hf (fun j hj hlt => hK j hlt (hH j (.inr hj)).1), hFG, fun j hj => ⟨(hH j hj).1, Nat.lt_of_lt_of_le (hH j hj).2 hf.size⟩⟩
theorem SD.below {w w' : World} {S D : Nat} {H : Nat → Prop} {st : SS} {ds : DS} (h : SD w S D H st ds) (hb : Below w.heap.size w w') : SD w' S D H st ds := h.fr (K := fun _ => False) (Fr.of_below hb) (fun _ _ _ => id)
theorem SD.more {w : World} {S D : Nat} {H K : Nat → Prop} {st : SS} {ds : DS} (h : SD w S D H st ds) (hK : ∀ j, j < w.heap.size → H j → K j) : SD w S D K st ds := by
  obtain ⟨F, G, hl, hd, hFG, hH⟩ := h
  exact ⟨F, G, hl, hd, hFG, fun j hj => ⟨hK j (hH j hj).2 (hH j hj).1, (hH j hj).2⟩⟩
/-- none -/
def NoSn (w : World) (v : Value) : Prop := v = .pointer none ∨ ∃ S, v = .pointer (some ⟨S, 0, none⟩) ∧ w.heap[S]? = some (.cells #[.pointer none, .int .i64 0, .int .i64 0, .int .i64 0, .slice none 0 0, .int .i64 0, .bool false] 87 (0, 0))
theorem NoSn.below {w w' : World} {v : Value} (h : NoSn w v) (hb : Below w.heap.size w w') : NoSn w' v := by
  rcases h with h | ⟨P, h, hP⟩
  · exact .inl h
  · exact .inr ⟨P, h, (hb.block _ (Array.getElem?_eq_some_iff.1 hP).1).trans hP⟩
theorem there_sno {w : World} {v : Value} (h : NoSn w v) : Calls Tryd.prog 56 #[v] w fun e w' => e = .returned (.bool false) ∧ w = w' := by
  rcases h with rfl | ⟨P, rfl, hP⟩
  · go_enter Tryd.func56, Tryd.ntmps56
    go_wp2
    go_ret
    exact ⟨rfl, rfl⟩
  · have c0 := cell_of_block (o := 0) hP rfl
    go_enter Tryd.func56, Tryd.ntmps56
    go_wp2
    go_ret
    exact ⟨rfl, rfl⟩
theorem there_syes {w : World} {P D : Nat} (h : w.cell? ⟨P, 0, none⟩ = some (.pointer (some ⟨D, 0, none⟩))) : Calls Tryd.prog 56 #[.pointer (some ⟨P, 0, none⟩)] w fun e w' => e = .returned (.bool true) ∧ w = w' := by
  go_enter Tryd.func56, Tryd.ntmps56
  go_wp2
  go_ret
  exact ⟨rfl, rfl⟩
theorem Sn.made {w : World} {P D : Nat} {F : Nat → Prop} {st : SS} (h : Sn w P D F st) : w.cell? ⟨P, 0, none⟩ = some (.pointer (some ⟨D, 0, none⟩)) := by
  obtain ⟨_, _, _, _, v, hb, _⟩ := h
  exact cell_of_block hb rfl
theorem last_no {w : World} {v : Value} (h : NoSn w v) : Calls Tryd.prog 31 #[v] w fun e w' => e = .returned (.tuple #[.slice none 0 0, .int .i64 0]) ∧ w = w' := by
  have K := Lib.hid (there_sno h)
  clear h
  go_enter Tryd.func31, Tryd.ntmps31
  go_wp2_with fail
  refine K.out.mono ?_
  rintro e w' ⟨rfl, rfl⟩
  go_wp2
  go_ret2
  exact ⟨rfl, rfl⟩
theorem slot_no {w : World} {v : Value} (h : NoSn w v) : Calls Tryd.prog 35 #[v] w fun e w' => e = .returned (.int .i64 (-1)) ∧ w = w' := by
  have K := Lib.hid (there_sno h)
  clear h
  go_enter Tryd.func35, Tryd.ntmps35
  go_wp2_with fail
  refine K.out.mono ?_
  rintro e w' ⟨rfl, rfl⟩
  go_wp2
  go_ret
  exact ⟨rfl, rfl⟩
theorem save_no {w : World} {v : Value} (h : NoSn w v) (a : Option Addr) (n c : Nat) : Calls Tryd.prog 30 #[v, .slice a n c] w fun e w' => e = .returned (.int .i64 1) ∧ w = w' := by
  have K := Lib.hid (there_sno h)
  clear h
  go_enter Tryd.func30, Tryd.ntmps30
  go_wp2_with fail
  refine K.out.mono ?_
  rintro e w' ⟨rfl, rfl⟩
  go_wp2
  go_ret
  exact ⟨rfl, rfl⟩
end
section
open Go.ChangeShapes Go.WideShapes Go.ChangeAt Go.RowKit
attribute [local go_sem ↓] Go.wp_at_zero Go.wp_at_succ comesTo_value_eq comesTo_skip_eq comesTo_enter_eq

/-- the one record that bytes are, if they are one -/
def onlyF (zs : List Int) : Option JRec := if (parseF zs).1.length = 1 ∧ (parseF zs).2 = zs.length then (parseF zs).1.head? else none
def onlyG (zs : List Int) : JRec := (onlyF zs).getD (0, [])
def OnlyEnd (w : World) (zs : List Int) (e : Ending) (w' : World) : Prop := ∃ ad n c, e = .returned (.tuple #[.agg #[.int .i64 (onlyG zs).1, .slice ad n c], .bool (onlyF zs).isSome]) ∧ AloneT w' w.heap.size (.slice ad n c) (onlyG zs).2 ∧ Below w.heap.size w w'
set_option maxRecDepth 100000 in
set_option maxHeartbeats 1000000 in
theorem only_any {w : World} {ad : Option Addr} {n c : Nat} {zs : List Int} (hT : TxtAt w (.slice ad n c) zs) (hc : n ≤ c) (hl : zs.length ≤ 1099511627775) (hE : ErrAt w) :
    Calls Tryd.prog 55 #[.slice ad n c] w fun e w' => OnlyEnd w zs e w' := by
  have hA := below_alloc (Below.refl _ w) (.cells #[.int .i64 0, .slice none 0 0] 24)
  have n0 := World.alloc_heap_new w (.cells #[.int .i64 0, .slice none 0 0] 24)
  have K := Lib.hid (parse_any (hT.below hA) hc hl (hE.below hA))
  have hn : n = zs.length := by
    rcases hT with ⟨b', o', c', e, h1, h2⟩ | ⟨rfl, a, cp, e, _⟩ <;> (cases e; rfl)
  have HA := Lib.hid hA
  have HN0 := Lib.hid n0
  have HLT := Lib.hid (Array.getElem?_eq_some_iff.1 n0).1
  have HN := Lib.hid hn
  have hLl := hl
  clear hT hE hA n0 hn hc hl
  go_enter Tryd.func55, Tryd.ntmps55
  go_upto_region 1 with fail
  generalize w.alloc (.cells #[.int .i64 0, .slice none 0 0] 24) = W0 at *
  go_wp2_with fail
  refine K.out.mono ?_
  rintro e W1 ⟨v, l, rfl, hrec, hmap, hb1⟩
  have m0 := (hb1.block _ HLT.out).trans HN0.out
  have r0 := cell_of_block (o := 0) m0 rfl
  have r1 := cell_of_block (o := 1) m0 rfl
  have f0 := free_of_block 0 m0
  have f1 := free_of_block 1 m0
  obtain ⟨q, hq⟩ : ∃ q, q = l.length := ⟨_, rfl⟩
  obtain ⟨p, hp⟩ : ∃ p, p = (parseF zs).2 := ⟨_, rfl⟩
  have hlq : (parseF zs).1.length = q := by rw [hq, ← hmap, List.length_map]
  obtain ⟨va, vc, rfl⟩ : ∃ a c, v = .slice a q c := by
    rcases hrec.form with ⟨h, rfl⟩ | ⟨g, c, rfl, _⟩
    · rw [h] at hq; exact ⟨none, 0, by rw [hq]; rfl⟩
    · exact ⟨_, _, by rw [hq]⟩
  rw [← hp]
  have HREC := Lib.hid hrec
  have HMAP := Lib.hid (And.intro hmap (And.intro hq hlq))
  have HP := Lib.hid hp
  have HB1 := Lib.hid (HA.out.trans (hb1.mono HA.out.size))
  have HM0 := Lib.hid m0
  have hno : ∀ W, Below w.heap.size w W → onlyF zs = none → OnlyEnd w zs (.returned (.tuple #[.agg #[.int .i64 0, .slice none 0 0], .bool false])) W := fun W hW h => by
    refine ⟨none, 0, 0, ?_, ?_, hW⟩
    · unfold onlyG; rw [h]; rfl
    · unfold onlyG; rw [h]; exact AloneT.nil
  have HNO := Lib.hid hno
  have hw1 := ((wrote_refl m0).set 0 (.int .i64 0)).set 1 (.slice none 0 0)
  have HW1 := Lib.hid hw1
  clear hrec hmap hb1 hq hlq hp m0 hno hw1 K
  by_cases h1 : q = 1
  case neg =>
    have hd : ((q : Int) == 1) = false := by rw [beq_eq_false_iff_ne]; omega
    have hd2 : ((q : Int) != 1) = true := by rw [bne, hd]; rfl
    have hd3 : ¬ q = 1 := h1
    have HZ := Lib.hid (show onlyF zs = none from by unfold onlyF; rw [if_neg (fun h => h1 (by rw [← HMAP.out.2.2]; exact h.1))])
    clear h1
    go_wp2_with fail
    have e0 := cell_of_block (o := 0) HW1.out.there rfl
    have e1 := cell_of_block (o := 1) HW1.out.there rfl
    clear r0 r1 f0 f1
    generalize (W1.setCell ⟨w.heap.size, 0, none⟩ (.int .i64 0)).setCell ⟨w.heap.size, 1, none⟩ (.slice none 0 0) = W2 at *
    exact bodyPost_ret (v := .tuple #[.agg #[.int .i64 0, .slice none 0 0], .bool false]) (by simp [results, Tryd.results55, go_sem]; try go_simp) rfl (HNO.out _ (HW1.out.below HB1.out (Nat.le_refl _)) HZ.out)
  case pos =>
  subst h1
  by_cases h2 : p = n
  case neg =>
    have hd : ((p : Int) == (n : Int)) = false := by rw [beq_eq_false_iff_ne]; omega
    have hd2 : ((p : Int) != (n : Int)) = true := by rw [bne, hd]; rfl
    have hd3 : ¬ p = n := h2
    have HZ := Lib.hid (show onlyF zs = none from by unfold onlyF; rw [if_neg (fun h => h2 (by rw [HP.out, HN.out]; exact h.2))])
    clear h2
    go_wp2_with fail
    have e0 := cell_of_block (o := 0) HW1.out.there rfl
    have e1 := cell_of_block (o := 1) HW1.out.there rfl
    clear r0 r1 f0 f1
    generalize (W1.setCell ⟨w.heap.size, 0, none⟩ (.int .i64 0)).setCell ⟨w.heap.size, 1, none⟩ (.slice none 0 0) = W2 at *
    exact bodyPost_ret (v := .tuple #[.agg #[.int .i64 0, .slice none 0 0], .bool false]) (by simp [results, Tryd.results55, go_sem]; try go_simp) rfl (HNO.out _ (HW1.out.below HB1.out (Nat.le_refl _)) HZ.out)
  case pos =>
  subst h2
  obtain ⟨x, hx⟩ : ∃ x, l[0]? = some x := ⟨_, List.getElem?_eq_getElem (by have := HMAP.out.2.1; omega)⟩
  have hof : onlyF zs = some x.rc := by
    unfold onlyF
    rw [if_pos ⟨HMAP.out.2.2, by rw [← HP.out, HN.out]⟩, ← HMAP.out.1]
    cases l with
    | nil => cases hx
    | cons y l => simp at hx; subst hx; rfl
  obtain ⟨g1, rfl, z1, c0, c1⟩ : ∃ g1, va = some ⟨g1, 0, none⟩ ∧ g1 < W1.heap.size ∧ W1.cell? ⟨g1, 0, none⟩ = some (.int .i64 x.g) ∧ W1.cell? ⟨g1, 1, none⟩ = some x.val := by
    rcases HREC.out.form with ⟨h, _⟩ | ⟨g', c', h1, _, h3, h4⟩
    · rw [h] at hx; cases hx
    · injection h1 with h1 _ _
      have h5 := h4 0 x hx
      exact ⟨g', h1, h3, h5.1, h5.2⟩
  have htx := HREC.out.txt x (List.mem_of_getElem? hx)
  obtain ⟨xg, xb, xa⟩ := x
  unfold RV.val at c1 htx
  simp only at c0 c1 htx
  have hw2 := ((wrote_refl HM0.out).set 0 (.int .i64 xg)).set 1 (.slice xa xb.length xb.length)
  have HOF := Lib.hid hof
  have HTX := Lib.hid htx
  have HW2 := Lib.hid hw2
  obtain ⟨xn, hxn⟩ : ∃ xn, xn = xb.length := ⟨_, rfl⟩
  have HXN := Lib.hid hxn
  rw [← hxn] at c1 HW2
  clear hof htx hw2 hx hxn
  go_wp2_with fail
  have e0 := cell_of_block (o := 0) HW2.out.there rfl
  have e1 := cell_of_block (o := 1) HW2.out.there rfl
  clear r0 r1 f0 f1 c0 c1
  generalize (W1.setCell ⟨w.heap.size, 0, none⟩ (.int .i64 xg)).setCell ⟨w.heap.size, 1, none⟩ (.slice xa xn xn) = W2 at *
  refine bodyPost_ret (v := .tuple #[.agg #[.int .i64 xg, .slice xa xn xn], .bool true]) (by simp [results, Tryd.results55, go_sem]; try go_simp) rfl ⟨xa, xn, xn, ?_, ?_, HW2.out.below HB1.out (Nat.le_refl _)⟩
  · unfold onlyG; rw [HOF.out]; rfl
  · unfold onlyG
    rw [HOF.out]
    have h5 := (HTX.out.base (B' := w.heap.size) (Nat.le_of_lt HLT.out)).of_block (w' := W2) fun g cs m hg hB => HW2.out.rest g (fun e => by
      have h6 := HM0.out
      rw [← e, hg] at h6
      cases h6)
    rw [HXN.out]
    exact h5
set_option maxRecDepth 100000 in
theorem last_sn {w : World} {S D : Nat} {F : Nat → Prop} {st : SS} (h : Sn w S D F st) :
    Calls Tryd.prog 31 #[.pointer (some ⟨S, 0, none⟩)] w fun e w' => ∃ u, e = .returned (.tuple #[u, .int .i64 st.gen]) ∧ OwnTxt w' w.heap.size u st.text ∧ Below w.heap.size w w' := by
  have hmx : Tryd.prog.follows .mixedOrders = true := by kernel_rfl
  have K := Lib.hid (there_syes h.made)
  have hlt := h.lt
  obtain ⟨_, _, _, hln, v, hb, ht⟩ := h
  obtain ⟨va, vn, vc, rfl⟩ : ∃ a n c, v = .slice a n c := by
    rcases ht.at_ with ⟨b, o, c, rfl, _⟩ | ⟨_, a, c, rfl, _⟩
    · exact ⟨_, _, _, rfl⟩
    · exact ⟨_, _, _, rfl⟩
  have KC := Lib.hid (clone_bytes (ht.at_.below (Below.refl w.heap.size w).drew) (by omega))
  obtain ⟨f0, f1, last, text, gen, failed⟩ := st
  unfold snCells at hb
  simp only at hb KC ⊢
  have HLT := Lib.hid hlt
  clear ht hln hlt
  go_enter Tryd.func31, Tryd.ntmps31
  go_wp2_with fail
  refine K.out.mono ?_
  rintro e w' ⟨rfl, rfl⟩
  go_upto_region 3 with fail
  refine wp_region_held (S := fun X => X.heap[S]? = some (.cells #[.pointer (some ⟨D, 0, none⟩), .int .i64 f0, .int .i64 f1, .int .i64 last, .slice va vn vc, .int .i64 gen, .bool failed] 87 (0, 0))) hmx ?_
  change wpAnyH _ _ _ _ _ 11 _ _ w.drew
  have hSS : w.drew.heap[S]? = some (.cells #[.pointer (some ⟨D, 0, none⟩), .int .i64 f0, .int .i64 f1, .int .i64 last, .slice va vn vc, .int .i64 gen, .bool failed] 87 (0, 0)) := hb
  refine wpAnyH_take (i := 0) (v := .pointer (some ⟨S, 0, none⟩)) rfl (by decide +kernel) (by decide +kernel) (by decide +kernel) (fun _ _ _ h => h) (.inl ⟨by first | rfl | (go_simp; done), fun X hX => by have hx4 := cell_of_block (o := 4) hX rfl; have hx5 := cell_of_block (o := 5) hX rfl; clear hX; first | (go_simp; done) | (go_simp; rfl)⟩) hSS ?_
  refine wpAnyH_take (i := 1) (v := .pointer (some ⟨S, 0, none⟩)) rfl (by decide +kernel) (by decide +kernel) (by decide +kernel) (fun _ _ _ h => h) (.inl ⟨by first | rfl | (go_simp; done), fun X hX => by have hx4 := cell_of_block (o := 4) hX rfl; have hx5 := cell_of_block (o := 5) hX rfl; clear hX; first | (go_simp; done) | (go_simp; rfl)⟩) hSS ?_
  refine wpAnyH_take (i := 2) (v := .pointer (some ⟨S, 4, none⟩)) rfl (by decide +kernel) (by decide +kernel) (by decide +kernel) (fun _ _ _ h => h) (.inl ⟨by first | rfl | (go_simp; done), fun X hX => by have hx4 := cell_of_block (o := 4) hX rfl; have hx5 := cell_of_block (o := 5) hX rfl; clear hX; first | (go_simp; done) | (go_simp; rfl)⟩) hSS ?_
  refine wpAnyH_take (i := 3) (v := .slice va vn vc) rfl (by decide +kernel) (by decide +kernel) (by decide +kernel) (fun _ _ _ h => h) (.inl ⟨by first | rfl | (go_simp; done), fun X hX => by have hx4 := cell_of_block (o := 4) hX rfl; have hx5 := cell_of_block (o := 5) hX rfl; clear hX; first | (go_simp; done) | (go_simp; rfl)⟩) hSS ?_
  refine wpAnyH_take (i := 5) (v := .pointer (some ⟨S, 0, none⟩)) rfl (by decide +kernel) (by decide +kernel) (by decide +kernel) (fun _ _ _ h => h) (.inl ⟨by first | rfl | (go_simp; done), fun X hX => by have hx4 := cell_of_block (o := 4) hX rfl; have hx5 := cell_of_block (o := 5) hX rfl; clear hX; first | (go_simp; done) | (go_simp; rfl)⟩) hSS ?_
  refine wpAnyH_take (i := 6) (v := .pointer (some ⟨S, 0, none⟩)) rfl (by decide +kernel) (by decide +kernel) (by decide +kernel) (fun _ _ _ h => h) (.inl ⟨by first | rfl | (go_simp; done), fun X hX => by have hx4 := cell_of_block (o := 4) hX rfl; have hx5 := cell_of_block (o := 5) hX rfl; clear hX; first | (go_simp; done) | (go_simp; rfl)⟩) hSS ?_
  refine wpAnyH_take (i := 7) (v := .pointer (some ⟨S, 5, none⟩)) rfl (by decide +kernel) (by decide +kernel) (by decide +kernel) (fun _ _ _ h => h) (.inl ⟨by first | rfl | (go_simp; done), fun X hX => by have hx4 := cell_of_block (o := 4) hX rfl; have hx5 := cell_of_block (o := 5) hX rfl; clear hX; first | (go_simp; done) | (go_simp; rfl)⟩) hSS ?_
  refine wpAnyH_take (i := 8) (v := .int .i64 gen) rfl (by decide +kernel) (by decide +kernel) (by decide +kernel) (fun _ _ _ h => h) (.inl ⟨by first | rfl | (go_simp; done), fun X hX => by have hx4 := cell_of_block (o := 4) hX rfl; have hx5 := cell_of_block (o := 5) hX rfl; clear hX; first | (go_simp; done) | (go_simp; rfl)⟩) hSS ?_
  refine anyH_call (i := 4) (by decide +kernel) rfl (by first | rfl | (go_simp; done)) (by go_simp) KC.out ?_
  rintro e w2 ⟨u, rfl, ho, hb2, _⟩
  have hS2 : w2.heap[S]? = some (.cells #[.pointer (some ⟨D, 0, none⟩), .int .i64 f0, .int .i64 f1, .int .i64 last, .slice va vn vc, .int .i64 gen, .bool failed] 87 (0, 0)) := (hb2.block _ HLT.out).trans hSS
  refine ⟨_, rfl, hS2, ?_⟩
  obtain ⟨ua, un, uc, rfl⟩ : ∃ a n c, u = .slice a n c := by
    rcases ho.form with ⟨rfl, _⟩ | ⟨g, c, rfl, _⟩
    · exact ⟨_, _, _, rfl⟩
    · exact ⟨_, _, _, rfl⟩
  refine wpAnyH_take (i := 9) (v := .slice ua un uc) rfl (by decide +kernel) (by decide +kernel) (by decide +kernel) (fun _ _ _ h => h) (.inl ⟨by first | rfl | (go_simp; done), fun X hX => by clear hX; first | (go_simp; done) | (go_simp; rfl)⟩) hS2 ?_
  refine wpAnyH_take (i := 10) (v := .int .i64 gen) rfl (by decide +kernel) (by decide +kernel) (by decide +kernel) (fun _ _ _ h => h) (.inl ⟨by first | rfl | (go_simp; done), fun X hX => by clear hX; first | (go_simp; done) | (go_simp; rfl)⟩) hS2 ?_
  refine wpAnyH_done (by decide +kernel) ?_ _
  have HO := Lib.hid ho
  have HB := Lib.hid ((Below.refl w.heap.size w).drew.trans hb2)
  clear hS2 hSS hb2 ho hb
  go_simp
  go_wp2_with fail
  go_ret2
  exact ⟨_, rfl, HO.out, HB.out⟩
set_option maxRecDepth 100000 in
theorem slot_sn {w : World} {S D : Nat} {F : Nat → Prop} {st : SS} (h : Sn w S D F st) :
    Calls Tryd.prog 35 #[.pointer (some ⟨S, 0, none⟩)] w fun e w' => e = .returned (.int .i64 (if st.last = -1 then -1 else if st.last = 0 then st.f0 else st.f1)) ∧ Below w.heap.size w w' := by
  have K := Lib.hid (there_syes h.made)
  obtain ⟨_, _, hlst, hln, v, hb, ht⟩ := h
  clear ht
  obtain ⟨f0, f1, last, text, gen, failed⟩ := st
  unfold snCells at hb
  simp only at hb hlst ⊢
  rcases (by omega : last = -1 ∨ last = 0 ∨ last = 1) with rfl | rfl | rfl
  · have c3 := cell_of_block (o := 3) hb rfl
    rw [if_pos rfl]
    clear hb
    go_enter Tryd.func35, Tryd.ntmps35
    go_wp2_with fail
    refine K.out.mono ?_
    rintro e w' ⟨rfl, rfl⟩
    go_wp2_with fail
    go_ret
    exact ⟨rfl, Below.refl _ _⟩
  · have c1 := cell_of_block (o := 1) hb rfl
    have c3 := cell_of_block (o := 3) hb rfl
    rw [if_neg (by decide), if_pos rfl]
    clear hb
    go_enter Tryd.func35, Tryd.ntmps35
    go_wp2_with fail
    refine K.out.mono ?_
    rintro e w' ⟨rfl, rfl⟩
    go_upto_region 3 with fail
    go_quiet (fail)
    have HBq := Lib.hid (below_drewN (Below.refl w.heap.size w) nq)
    go_wp2_with fail
    go_ret
    exact ⟨rfl, HBq.out⟩
  · have c2 := cell_of_block (o := 2) hb rfl
    have c3 := cell_of_block (o := 3) hb rfl
    rw [if_neg (by decide), if_neg (by decide)]
    clear hb
    go_enter Tryd.func35, Tryd.ntmps35
    go_wp2_with fail
    refine K.out.mono ?_
    rintro e w' ⟨rfl, rfl⟩
    go_upto_region 3 with fail
    go_quiet (fail)
    have HBq := Lib.hid (below_drewN (Below.refl w.heap.size w) nq)
    go_wp2_with fail
    go_ret
    exact ⟨rfl, HBq.out⟩
end
section
open Go.ChangeShapes Go.WideShapes Go.ChangeAt Go.RowKit
attribute [local go_sem ↓] Go.wp_at_zero Go.wp_at_succ comesTo_value_eq comesTo_skip_eq comesTo_enter_eq

/-- a file looked at -/
def stepS (st : SS) (i : Int) (xs : List Int) : SS :=
  match onlyF xs with
  | none => st
  | some r => if st.gen < r.1 then { st with last := i, text := r.2, gen := r.1 } else st
def openS (ds : DS) (f0 f1 : Int) : SS := stepS (stepS ⟨f0, f1, -1, [], 0, false⟩ 0 (ds.b f0.toNat)) 1 (ds.b f1.toNat)
theorem only_good {zs : List Int} (hz : ∀ x ∈ zs, 0 ≤ x ∧ x ≤ 255) {r : JRec} (h : onlyF zs = some r) : GoodR r := by
  unfold onlyF at h
  split at h
  · exact parse_good zs.length zs (Nat.le_refl _) hz r (by
      cases hp : (parseF zs).1 with
      | nil => rw [hp] at h; cases h
      | cons x l => rw [hp] at h; simp at h; subst h; exact List.mem_cons_self)
  · cases h
def SOpenEnd (w : World) (D : Nat) (ds : DS) (f0 f1 : Int) (e : Ending) (w' : World) : Prop :=
  Below w.heap.size w w' ∧
    ((f0 = f1 ∧ e = .returned (.tuple #[.pointer none, .int .i64 2])) ∨
     (f0 ≠ f1 ∧ wrongF ds.down f0 ≠ 0 ∧ e = .returned (.tuple #[.pointer none, .int .i64 (wrongF ds.down f0)])) ∨
     (f0 ≠ f1 ∧ wrongF ds.down f0 = 0 ∧ wrongF ds.down f1 ≠ 0 ∧ e = .returned (.tuple #[.pointer none, .int .i64 (wrongF ds.down f1)])) ∨
     (f0 ≠ f1 ∧ wrongF ds.down f0 = 0 ∧ wrongF ds.down f1 = 0 ∧ ∃ S, e = .returned (.tuple #[.pointer (some ⟨S, 0, none⟩), .int .i64 0]) ∧ Sn w' S D (fun j => w.heap.size ≤ j) (openS ds f0 f1)))
/-- no disk -/
theorem sopen_no {w : World} (f0 f1 : Int) (hf : f0 ≠ f1) : Calls Tryd.prog 29 #[.pointer none, .int .i64 f0, .int .i64 f1] w fun e w' => e = .returned (.tuple #[.pointer none, .int .i64 1]) ∧ Below w.heap.size w w' := by
  have hd : (f0 == f1) = false := by simpa using hf
  have hA := below_alloc (Below.refl _ w) (.cells #[.pointer none, .int .i64 f0, .int .i64 f1, .int .i64 (-1), .slice none 0 0, .int .i64 0, .bool false] 87)
  have nS := World.alloc_heap_new w (.cells #[.pointer none, .int .i64 f0, .int .i64 f1, .int .i64 (-1), .slice none 0 0, .int .i64 0, .bool false] 87)
  have KR := Lib.hid (fun W : World => read_no (w := W) (v := .pointer none) (.inl rfl) (.int .i64 f0))
  have c1 := cell_of_block (o := 1) nS rfl
  have c2 := cell_of_block (o := 2) nS rfl
  have HA := Lib.hid hA
  have hix : ∀ W : World, Sem.run Tryd.prog (Instr.index 85 (.agg #[.int .i64 f0, .int .i64 f1]) (.int .i64 0)) W = .ok (.int .i64 f0) W := fun W => by kernel_rfl
  clear nS hA hf
  go_enter Tryd.func29, Tryd.ntmps29
  go_upto_region 4 with fail
  generalize w.alloc (.cells #[.pointer none, .int .i64 f0, .int .i64 f1, .int .i64 (-1), .slice none 0 0, .int .i64 0, .bool false] 87) = W0 at *
  go_wp2_with fail
  clear c1 c2 hd
  go_loopw [28] (fun i wr => i = .int .i64 0 ∧ wr = W0) (fun i _ => 2 - (intOf i).toNat)
  case atStart => exact ⟨rfl, rfl⟩
  case round =>
    obtain ⟨rfl, rfl⟩ := hrel
    go_wp2_with fail
    refine (KR.out _).mono ?_
    rintro e w' ⟨rfl, rfl⟩
    go_wp2_with fail
    go_ret2
    exact ⟨rfl, HA.out⟩
/-- what is known behind so many files -/
def stN (ds : DS) (f0 f1 : Int) : Nat → SS
  | 0 => ⟨f0, f1, -1, [], 0, false⟩
  | 1 => stepS ⟨f0, f1, -1, [], 0, false⟩ 0 (ds.b f0.toNat)
  | _ => openS ds f0 f1
theorem stN_succ (ds : DS) (f0 f1 : Int) (k : Nat) (hk : k < 2) : stN ds f0 f1 (k + 1) = stepS (stN ds f0 f1 k) k (ds.b (if k = 0 then f0 else f1).toNat) := by
  rcases (by omega : k = 0 ∨ k = 1) with rfl | rfl <;> rfl
theorem stepS_files (st : SS) (i : Int) (xs : List Int) : (stepS st i xs).f0 = st.f0 ∧ (stepS st i xs).f1 = st.f1 ∧ (stepS st i xs).failed = st.failed := by
  unfold stepS
  split
  · exact ⟨rfl, rfl, rfl⟩
  · split <;> exact ⟨rfl, rfl, rfl⟩
theorem stN_files (ds : DS) (f0 f1 : Int) : ∀ k, (stN ds f0 f1 k).f0 = f0 ∧ (stN ds f0 f1 k).f1 = f1 ∧ (stN ds f0 f1 k).failed = false
  | 0 => ⟨rfl, rfl, rfl⟩
  | 1 => stepS_files _ _ _
  | k + 2 => by
    have h1 := stepS_files (stepS ⟨f0, f1, -1, [], 0, false⟩ 0 (ds.b f0.toNat)) 1 (ds.b f1.toNat)
    have h2 := stepS_files ⟨f0, f1, -1, [], 0, false⟩ 0 (ds.b f0.toNat)
    exact ⟨h1.1.trans h2.1, h1.2.1.trans h2.2.1, h1.2.2.trans h2.2.2⟩
set_option maxRecDepth 100000 in
set_option maxHeartbeats 4000000 in
theorem sopen_any {w : World} {D : Nat} {G : Nat → Prop} {ds : DS} (h : Dk w D G ds) (hE : ErrAt w) (f0 f1 : Int) :
    Calls Tryd.prog 29 #[.pointer (some ⟨D, 0, none⟩), .int .i64 f0, .int .i64 f1] w fun e w' => SOpenEnd w D ds f0 f1 e w' := by
  by_cases hf : f0 = f1
  · subst hf
    have hd : (f0 == f0) = true := by simp
    clear h hE
    go_enter Tryd.func29, Tryd.ntmps29
    go_wp2_with fail
    go_ret2
    exact ⟨Below.refl _ _, .inl ⟨rfl, rfl⟩⟩
  have hd : (f0 == f1) = false := by simpa using hf
  have hA := below_alloc (Below.refl _ w) (.cells #[.pointer (some ⟨D, 0, none⟩), .int .i64 f0, .int .i64 f1, .int .i64 (-1), .slice none 0 0, .int .i64 0, .bool false] 87)
  have nS := World.alloc_heap_new w (.cells #[.pointer (some ⟨D, 0, none⟩), .int .i64 f0, .int .i64 f1, .int .i64 (-1), .slice none 0 0, .int .i64 0, .bool false] 87)
  have HF := Lib.hid hf
  have HD := Lib.hid h
  have HE := Lib.hid hE
  have HA := Lib.hid hA
  have c1 := cell_of_block (o := 1) nS rfl
  have c2 := cell_of_block (o := 2) nS rfl
  have HS0 := Lib.hid (show Sn (w.alloc (.cells #[.pointer (some ⟨D, 0, none⟩), .int .i64 f0, .int .i64 f1, .int .i64 (-1), .slice none 0 0, .int .i64 0, .bool false] 87)) w.heap.size D (fun j => w.heap.size ≤ j) (stN ds f0 f1 0) from ⟨Nat.le_refl _, ⟨by simp [stN], by simp [stN]⟩, ⟨by simp [stN], by simp [stN]⟩, by simp [stN], _, nS, TxtF.nil⟩)
  have HFT := Lib.hid h.fits
  clear h hE hA nS hf
  go_enter Tryd.func29, Tryd.ntmps29
  go_upto_region 4 with fail
  generalize w.alloc (.cells #[.pointer (some ⟨D, 0, none⟩), .int .i64 f0, .int .i64 f1, .int .i64 (-1), .slice none 0 0, .int .i64 0, .bool false] 87) = W0 at *
  go_wp2_with fail
  clear c1 c2 hd
  go_loopw [28] (fun i wr => ∃ k : Nat, k ≤ 2 ∧ i = .int .i64 k ∧ Sn wr w.heap.size D (fun j => w.heap.size ≤ j) (stN ds f0 f1 k) ∧ Below w.heap.size w wr ∧ (1 ≤ k → wrongF ds.down f0 = 0) ∧ (2 ≤ k → wrongF ds.down f1 = 0)) (fun i _ => 2 - (intOf i).toNat)
  case atStart => exact ⟨0, by decide, rfl, HS0.out, HA.out, fun h => by omega, fun h => by omega⟩
  case round =>
    obtain ⟨k, hk, rfl, hs, hb, hk1, hk2⟩ := hrel
    have HSN := Lib.hid hs
    have HB := Lib.hid hb
    have HK := Lib.hid (And.intro hk1 hk2)
    clear hs hk1 hk2 HS0
    by_cases hlt : k < 2
    case neg =>
      obtain rfl : k = 2 := by omega
      clear hb
      go_wp2_with fail
      go_ret2
      exact ⟨HB.out, .inr (.inr (.inr ⟨HF.out, HK.out.1 (by decide), HK.out.2 (by decide), _, rfl, HSN.out⟩))⟩
    case pos =>
    have hdl : decide ((k : Int) < 2) = true := decide_eq_true (by omega)
    have hix : ∀ W : World, Sem.run Tryd.prog (Instr.index 85 (.agg #[.int .i64 f0, .int .i64 f1]) (.int .i64 k)) W = .ok (.int .i64 (if k = 0 then f0 else f1)) W := fun W => by
      rcases (by omega : k = 0 ∨ k = 1) with rfl | rfl
      · kernel_rfl
      · kernel_rfl
    have KR := Lib.hid (read_dk (HD.out.below hb) (if k = 0 then f0 else f1))
    obtain ⟨f, hfk⟩ : ∃ f, f = (if k = 0 then f0 else f1) := ⟨_, rfl⟩
    rw [← hfk] at hix KR
    have HFK := Lib.hid hfk
    have hwk : IntKind.i64.wrap ((k : Int) + 1) = ((k + 1 : Nat) : Int) := by rw [IntKind.wrap_i64]; omega
    have HKL := Lib.hid hlt
    clear hb hfk
    by_cases hw : wrongF ds.down f = 0
    case neg =>
      obtain ⟨code, hcode⟩ : ∃ c, c = wrongF ds.down f := ⟨_, rfl⟩
      have HC := Lib.hid hcode
      have HW := Lib.hid hw
      have hb1 : (code == 0) = false := by rw [hcode]; simpa using hw
      have hb2 : (code != 0) = true := by rw [bne, hb1]; rfl
      rw [← hcode] at KR
      clear hcode hw
      go_wp2_with fail
      refine KR.out.mono ?_
      rintro e w1 ⟨u, rfl, ho, hb3, _⟩
      obtain ⟨ua, un, uc, rfl⟩ : ∃ a n c, u = .slice a n c := by
        rcases ho.form with ⟨rfl, _⟩ | ⟨g, c, rfl, _⟩
        · exact ⟨_, _, _, rfl⟩
        · exact ⟨_, _, _, rfl⟩
      have HB3 := Lib.hid hb3
      clear ho hb3 KR
      go_wp2_with fail
      go_ret2
      have hBB := HB.out.trans (HB3.out.mono HB.out.size)
      have hC := HC.out
      have hW := HW.out
      have hF := HFK.out
      rcases (by have := HKL.out; omega : k = 0 ∨ k = 1) with rfl | rfl
      · rw [if_pos rfl] at hF
        subst hF
        exact ⟨hBB, .inr (.inl ⟨HF.out, hW, by rw [← hC]; rfl⟩)⟩
      · rw [if_neg (by decide)] at hF
        subst hF
        exact ⟨hBB, .inr (.inr (.inl ⟨HF.out, HK.out.1 (by decide), hW, by rw [← hC]; rfl⟩))⟩
    case pos =>
    have HW := Lib.hid hw
    unfold ReadEnd at KR
    rw [hw, if_pos rfl] at KR
    obtain ⟨xs, hxs⟩ : ∃ xs, xs = ds.b f.toNat := ⟨_, rfl⟩
    rw [← hxs] at KR
    have hxl : xs.length ≤ 1048576 := by rw [hxs]; exact HFT.out _ (wrongF_ok hw)
    have HXS := Lib.hid hxs
    have HXL := Lib.hid hxl
    clear hw hxs hxl
    go_wp2_with fail
    refine KR.out.mono ?_
    rintro e w1 ⟨u, rfl, ho, hb3, _⟩
    have hBB := HB.out.trans (hb3.mono HB.out.size)
    obtain ⟨ua, uc, rfl⟩ : ∃ a c, u = .slice a xs.length c := by
      rcases ho.form with ⟨rfl, rfl⟩ | ⟨g, c, rfl, _⟩
      · exact ⟨_, _, rfl⟩
      · exact ⟨_, _, rfl⟩
    have KO := Lib.hid (only_any ho.at ho.capLe (by have := HXL.out; omega) (HE.out.below hBB))
    have HBB := Lib.hid hBB
    have HS1 := Lib.hid (HSN.out.below hb3)
    have HX8 := Lib.hid ho.byte
    clear ho hb3 hBB KR
    go_wp2_with fail
    refine KO.out.mono ?_
    rintro e w2 ⟨ra, rn, rc, rfl, hal, hb4⟩
    have hB4 := HBB.out.trans (hb4.mono HBB.out.size)
    have hbA := below_alloc (Below.refl _ w2) (.cells #[.int .i64 (onlyG xs).1, .slice ra rn rc] 24)
    have nR := World.alloc_heap_new w2 (.cells #[.int .i64 (onlyG xs).1, .slice ra rn rc] 24)
    have hB5 := hB4.trans (hbA.mono hB4.size)
    have HB5 := Lib.hid hB5
    have HS2 := Lib.hid ((HS1.out.below hb4).below hbA)
    have HAL := Lib.hid (And.intro (hal.below hbA) hb4.size)
    have HNR := Lib.hid nR
    have HSZ := Lib.hid (And.intro HBB.out.size (And.intro hb4.size hbA.size))
    obtain ⟨gr, hgr⟩ : ∃ g, g = (onlyG xs).1 := ⟨_, rfl⟩
    have HGR := Lib.hid hgr
    rw [← hgr] at HB5 HS2 HAL HNR HSZ ⊢
    clear hal hb4 hB4 hbA nR hB5 hgr KO
    go_upto_region 11 with fail
    generalize w2.alloc (.cells #[.int .i64 gr, .slice ra rn rc] 24) = W5 at *
    have hsucc := stN_succ ds f0 f1 k HKL.out
    rw [← HFK.out, ← HXS.out] at hsucc
    have HSUC := Lib.hid hsucc
    clear hsucc
    obtain ⟨hm, hgi, hli, hln, v, hbS, ht⟩ := HS2.out
    obtain ⟨st, hst⟩ : ∃ st, st = stN ds f0 f1 k := ⟨_, rfl⟩
    rw [← hst] at HSUC hbS hgi hli hln ht
    have HST := Lib.hid hst
    have HTT := Lib.hid ht
    unfold snCells at hbS
    have r0 := cell_of_block (o := 0) HNR.out rfl
    have r1 := cell_of_block (o := 1) HNR.out rfl
    have c5 := cell_of_block (o := 5) hbS rfl
    cases ho : onlyF xs with
    | none =>
      have hgn : stN ds f0 f1 (k + 1) = st := by rw [HSUC.out]; unfold stepS; rw [ho]
      have HGN := Lib.hid hgn
      simp only [Option.isSome_none]
      clear hgn ho hm hgi hli hln hbS ht hst
      go_quiet (fail)
      have HBq := Lib.hid (below_drewN (Below.refl W5.heap.size W5) nq)
      go_wp2_with fail
      go_roundw
      case rel =>
        have hq := HBq.out
        have hkk := HK.out
        have hkl := HKL.out
        refine ⟨k + 1, by omega, by go_num, by rw [HGN.out, HST.out]; exact HS2.out.below hq, HB5.out.trans (hq.mono HB5.out.size), fun _ => ?_, fun h2 => ?_⟩
        · rcases (by omega : k = 0 ∨ k = 1) with rfl | rfl
          · have := HFK.out; rw [if_pos rfl] at this; rw [← this]; exact HW.out
          · exact hkk.1 (by decide)
        · have hk1 : k = 1 := by omega
          have := HFK.out; rw [if_neg (by omega)] at this; rw [← this]; exact HW.out
      case measure => have := HKL.out; simp [intOf]; omega
    | some r =>
      have hgr : gr = r.1 := by rw [HGR.out]; unfold onlyG; rw [ho]; rfl
      have hrg := only_good HX8.out ho
      have hal := HAL.out.1
      rw [show (onlyG xs).2 = r.2 by unfold onlyG; rw [ho]; rfl] at hal
      simp only [Option.isSome_some]
      by_cases hgt : st.gen < gr
      case neg =>
        have hgn : stN ds f0 f1 (k + 1) = st := by rw [HSUC.out]; unfold stepS; rw [ho]; simp only; rw [if_neg (by rw [← hgr]; exact hgt)]
        have HGN := Lib.hid hgn
        have hdg : decide (gr > st.gen) = false := decide_eq_false (by omega)
        have hdg2 : decide (st.gen < gr) = false := decide_eq_false hgt
        clear hgn ho hm hgi hli hln hbS ht hst hgr hrg hal hgt
        go_quiet (fail)
        have HBq := Lib.hid (below_drewN (Below.refl W5.heap.size W5) nq)
        go_wp2_with fail
        go_roundw
        case rel =>
          have hq := HBq.out
          have hkk := HK.out
          have hkl := HKL.out
          refine ⟨k + 1, by omega, by go_num, by rw [HGN.out, HST.out]; exact HS2.out.below hq, HB5.out.trans (hq.mono HB5.out.size), fun _ => ?_, fun h2 => ?_⟩
          · rcases (by omega : k = 0 ∨ k = 1) with rfl | rfl
            · have := HFK.out; rw [if_pos rfl] at this; rw [← this]; exact HW.out
            · exact hkk.1 (by decide)
          · have hk1 : k = 1 := by omega
            have := HFK.out; rw [if_neg (by omega)] at this; rw [← this]; exact HW.out
        case measure => have := HKL.out; simp [intOf]; omega
      case pos =>
        have hgn : stN ds f0 f1 (k + 1) = { st with last := (k : Int), text := r.2, gen := r.1 } := by rw [HSUC.out]; unfold stepS; rw [ho]; simp only; rw [if_pos (by rw [← hgr]; exact hgt)]
        have HGN := Lib.hid hgn
        have hdg : decide (gr > st.gen) = true := decide_eq_true (by omega)
        have hdg2 : decide (st.gen < gr) = true := decide_eq_true hgt
        have hfl := stN_files ds f0 f1 k
        rw [← hst] at hfl
        have HALR := Lib.hid hal
        have HRG := Lib.hid (And.intro hrg (And.intro hgr (And.intro hgi hgt)))
        have HFL := Lib.hid hfl
        obtain ⟨z0, z1, z2, z3, z4, z5⟩ := st
        simp only at hbS hdg hdg2 c5 HFL HRG hgi hli hfl
        have hwb := hbS
        have HWB := Lib.hid hwb
        have hltS := (Array.getElem?_eq_some_iff.1 hbS).1
        have HLS := Lib.hid hltS
        clear hgn ho hm hgi hli hln ht hst hgr hrg hal hgt hfl hwb
        go_quiet (fail)
        have HBq := Lib.hid (below_drewN (Below.refl W5.heap.size W5) nq)
        have hbS6 : (W5.drewN nq).heap[w.heap.size]? = _ := (HBq.out.block _ hltS).trans hbS
        have nR6 := (HBq.out.block _ (Array.getElem?_eq_some_iff.1 HNR.out).1).trans HNR.out
        have HS6 := Lib.hid hbS6
        clear r0 r1 c5 hbS
        generalize W5.drewN nq = W6 at *
        have r0 := cell_of_block (o := 0) nR6 rfl
        have r1 := cell_of_block (o := 1) nR6 rfl
        have c3 := cell_of_block (o := 3) hbS6 rfl
        have c4 := cell_of_block (o := 4) hbS6 rfl
        have c5 := cell_of_block (o := 5) hbS6 rfl
        have q3 := free_of_block 3 hbS6
        have q4 := free_of_block 4 hbS6
        have q5 := free_of_block 5 hbS6
        clear hbS6 nR6 hltS
        go_upto_region 12 with fail
        go_region
        have hw7 := (((wrote_refl HS6.out).set 3 (.int .i64 (k : Int))).set 4 (.slice ra rn rc)).set 5 (.int .i64 gr)
        have HW7 := Lib.hid hw7
        clear r0 r1 c3 c4 c5 q3 q4 q5 hw7
        generalize ((W6.setCell ⟨w.heap.size, 3, none⟩ (.int .i64 (k : Int))).setCell ⟨w.heap.size, 4, none⟩ (.slice ra rn rc)).setCell ⟨w.heap.size, 5, none⟩ (.int .i64 gr) = W7 at *
        go_wp2_with fail
        go_roundw
        case rel =>
          have hq := HBq.out
          have hkk := HK.out
          have hkl := HKL.out
          have hb6 := HB5.out.trans (hq.mono HB5.out.size)
          have hb7 : Below w.heap.size w W7 := HW7.out.below hb6 (Nat.le_refl _)
          have hb8 : Below w.heap.size w W7.drew := hb7.drew
          have hal6 := HALR.out.below hq
          have hs3 := HSZ.out
          have hls := HS1.out.lt
          have hfl := HFL.out
          have hsnew : Sn W7 w.heap.size D (fun j => w.heap.size ≤ j) { (⟨z0, z1, z2, z3, z4, z5⟩ : SS) with last := (k : Int), text := r.2, gen := r.1 } := by
            refine ⟨Nat.le_refl _, ⟨by show 0 ≤ r.1; have := HRG.out; omega, HRG.out.1.gen.2⟩, ⟨by show -1 ≤ (k : Int); omega, by show (k : Int) ≤ 1; omega⟩, HRG.out.1.len, .slice ra rn rc, ?_, ?_⟩
            · unfold snCells
              simp only
              rw [← HRG.out.2.1]
              exact HW7.out.there
            · have h9 := hal6.of_block (w' := W7) fun g cs m hg hB => HW7.out.rest g (fun e => by omega)
              refine (TxtF.of_alone h9).more fun j _ hj => ⟨by omega, by omega⟩
          refine ⟨k + 1, by omega, by go_num, by rw [HGN.out]; exact hsnew.below (Below.refl _ _).drew, hb8, fun _ => ?_, fun h2 => ?_⟩
          · rcases (by omega : k = 0 ∨ k = 1) with rfl | rfl
            · have := HFK.out; rw [if_pos rfl] at this; rw [← this]; exact HW.out
            · exact hkk.1 (by decide)
          · have hk1 : k = 1 := by omega
            have := HFK.out; rw [if_neg (by omega)] at this; rw [← this]; exact HW.out
        case measure => have := HKL.out; simp [intOf]; omega
end
section
open Go.ChangeShapes Go.WideShapes Go.ChangeAt Go.RowKit
attribute [local go_sem ↓] Go.wp_at_zero Go.wp_at_succ comesTo_value_eq comesTo_skip_eq comesTo_enter_eq

def writeF (ds : DS) (f : Int) (r : JRec) : DS × Int :=
  if 65536 < r.2.length then (ds, 3)
  else if (callF 2 ds f []).2 ≠ 0 then ((callF 2 ds f []).1, (callF 2 ds f []).2)
  else if (callF 0 (callF 2 ds f []).1 f (frameF r)).2 ≠ 0 then ((callF 0 (callF 2 ds f []).1 f (frameF r)).1, (callF 0 (callF 2 ds f []).1 f (frameF r)).2)
  else ((callF 1 (callF 0 (callF 2 ds f []).1 f (frameF r)).1 f []).1, (callF 1 (callF 0 (callF 2 ds f []).1 f (frameF r)).1 f []).2)
def WriteEnd (w : World) (D : Nat) (G : Nat → Prop) (x : DS × Int) (e : Ending) (w' : World) : Prop :=
  e = .returned (.int .i64 x.2) ∧ Dk w' D (fun j => G j ∨ w.heap.size ≤ j) x.1 ∧ Fr G w w'
set_option maxRecDepth 100000 in
set_option maxHeartbeats 4000000 in
theorem write_sn {w : World} {S D : Nat} {G : Nat → Prop} {ds : DS} (c0 : w.cell? ⟨S, 0, none⟩ = some (.pointer (some ⟨D, 0, none⟩))) (hSG : ¬ G S) (hd : Dk w D G ds) (hGb : ∀ j, G j → j < w.heap.size) (f : Int) (g : Int) (hg : -9223372036854775808 ≤ g ∧ g ≤ 9223372036854775807) (ra : Option Addr) (rn rc : Nat) (bs : List Int) (hT : TxtAt w (.slice ra rn rc) bs) :
    Calls Tryd.prog 72 #[.pointer (some ⟨S, 0, none⟩), .int .i64 f, .agg #[.int .i64 g, .slice ra rn rc]] w fun e w' => WriteEnd w D G (writeF ds f (g, bs)) e w' := by
  have hS := World.block_lt_of_cell? w _ c0
  have hb0 := below_alloc (Below.refl _ w) (.cells #[.int .i64 g, .slice ra rn rc] 24)
  have n0 := World.alloc_heap_new w (.cells #[.int .i64 g, .slice ra rn rc] 24)
  have KF := Lib.hid (frame_any g hg (hT.below hb0))
  have HD0 := Lib.hid (hd.below hb0)
  have x0 := cell_of_block (o := 0) n0 rfl
  have x1 := cell_of_block (o := 1) n0 rfl
  have HB0 := Lib.hid hb0
  have HGB := Lib.hid hGb
  have HSG := Lib.hid (And.intro hSG hS)
  have HC0 := Lib.hid ((hb0.cell (p := ⟨S, 0, none⟩) hS).trans c0)
  have HGR := Lib.hid (fun (hl : bs.length ≤ 65536) => show GoodR (g, bs) from ⟨hg, hl, fun x hx => by
      obtain ⟨k, hk, rfl⟩ := List.getElem_of_mem hx
      have := hT.bytes8 k hk
      simpa [List.getD, List.getElem?_eq_getElem hk] using this⟩)
  clear hd hGb hSG hS c0 hb0 n0 hT
  go_enter Tryd.func72, Tryd.ntmps72
  go_upto_region 1 with fail
  generalize w.alloc (.cells #[.int .i64 g, .slice ra rn rc] 24) = W0 at *
  go_wp2_with fail
  refine KF.out.mono ?_
  rintro e W1 ⟨u, rfl, ho, hb1⟩
  clear x0 x1 KF
  simp only at ho
  have HBW := Lib.hid (HB0.out.trans (hb1.mono HB0.out.size))
  have HD1 := Lib.hid (HD0.out.below hb1)
  have HC1 := Lib.hid ((hb1.cell (p := ⟨S, 0, none⟩) (Nat.lt_of_lt_of_le HSG.out.2 HB0.out.size)).trans HC0.out)
  by_cases hl : bs.length ≤ 65536
  case neg =>
    rw [if_neg hl] at ho ⊢
    obtain ⟨ua, un, uc, rfl⟩ : ∃ a n c, u = .slice a n c := by
      rcases ho.form with ⟨rfl, _⟩ | ⟨g, c, rfl, _⟩
      · exact ⟨_, _, _, rfl⟩
      · exact ⟨_, _, _, rfl⟩
    have HW := Lib.hid (show writeF ds f (g, bs) = (ds, 3) from by unfold writeF; rw [if_pos (by simp only; omega)])
    clear ho hb1 hl
    go_wp2_with fail
    go_ret
    unfold WriteEnd
    rw [HW.out]
    exact ⟨rfl, HD1.out.more fun j hj => .inl hj, Fr.of_below HBW.out⟩
  case pos =>
  rw [if_pos hl] at ho ⊢
  have HL := Lib.hid hl
  have hfl : (frameF (g, bs)).length ≤ 65554 := by have := body_len (HGR.out hl); rw [frame_len]; omega
  obtain ⟨xs, hxs⟩ : ∃ xs, xs = frameF (g, bs) := ⟨_, rfl⟩
  rw [← hxs] at ho hfl
  obtain ⟨un, hun⟩ : ∃ un, un = xs.length := ⟨_, rfl⟩
  obtain ⟨ua, uc, rfl⟩ : ∃ a c, u = .slice a un c := by
    rcases ho.form with ⟨rfl, rfl⟩ | ⟨g, c, rfl, _⟩
    · rw [hun]; exact ⟨_, _, rfl⟩
    · rw [hun]; exact ⟨_, _, rfl⟩
  have HUN := Lib.hid hun
  have HXS := Lib.hid hxs
  have HFL := Lib.hid hfl
  have HO := Lib.hid ho
  have HS1 := Lib.hid (And.intro HB0.out.size hb1.size)
  have c0 := HC1.out
  have KR := Lib.hid (reset_dk HD1.out f)
  clear ho hb1 hl hfl hxs hun
  go_wp2_with fail
  refine KR.out.mono ?_
  rintro e w2 ⟨rfl, hd2, hf2⟩
  have hs1 := HS1.out
  have c02 : w2.cell? ⟨S, 0, none⟩ = some (.pointer (some ⟨D, 0, none⟩)) := (World.cell?_of_block (a := ⟨S, 0, none⟩) (hf2.block S (by have := HSG.out.2; omega) HSG.out.1)).trans HC1.out
  have HF2 := Lib.hid (show Fr G w w2 from (Fr.of_below HBW.out).trans hf2 (fun j hj => .inl hj))
  have HD2 := Lib.hid hd2.bound
  have hT2 : TxtAt w2 (.slice ua un uc) xs := (OwnTxt.of_block HO.out fun k hk => hf2.block k (ownBlock_lt HO.out hk) (fun hg => by have := HGB.out k hg; have := HO.out.blockGe hk; omega)).at
  have HO2 := Lib.hid (show OwnTxt w2 W0.heap.size (.slice ua un uc) xs from OwnTxt.of_block HO.out fun k hk => hf2.block k (ownBlock_lt HO.out hk) (fun hg => by have := HGB.out k hg; have := HO.out.blockGe hk; omega))
  have HS2 := Lib.hid hf2.size
  have HUB := Lib.hid (fun k (hk : (Value.slice ua un uc).ownBlock = some k) => And.intro (HO.out.blockGe hk) (ownBlock_lt HO.out hk))
  obtain ⟨y, hy⟩ : ∃ y, y = callF 2 ds f [] := ⟨_, rfl⟩
  rw [← hy] at hd2 HD2 ⊢
  obtain ⟨d1, k1⟩ := y
  simp only at hd2 HD2 ⊢
  have HY := Lib.hid hy
  clear c0 hd2 hf2 hT2 hy KR hs1
  by_cases hk1 : k1 = 0
  case neg =>
    have hb : (k1 == 0) = false := by simpa using hk1
    have hb2 : (k1 != 0) = true := by simp [hk1]
    have HW := Lib.hid (show writeF ds f (g, bs) = (d1, k1) from by
      unfold writeF
      rw [if_neg (by simp only; have := HL.out; omega), ← HY.out, if_pos hk1])
    clear hk1
    go_wp2_with fail
    go_ret
    unfold WriteEnd
    rw [HW.out]
    have h1 := HS1.out
    exact ⟨rfl, HD2.out.more fun j hj => hj.1.imp id (fun h => by omega), HF2.out⟩
  case pos =>
  subst hk1
  have KA := Lib.hid (append_dk HD2.out f ua un uc xs HUN.out (fun w' hf => (OwnTxt.of_block HO2.out fun k hk => hf.block k (by have := HUB.out k hk; have := HS2.out; omega) (fun hg => by have h1 := HUB.out k hk; have h2 := HS1.out; rcases hg.1 with h | h; have := HGB.out k h; omega; omega)).at) (by have := HFL.out; omega))
  go_wp2_with fail
  refine KA.out.mono ?_
  rintro e w3 ⟨rfl, hd3, hf3⟩
  have hG2S : ¬ ((G S ∨ W1.heap.size ≤ S) ∧ S < w2.heap.size) := fun h => by
    have h1 := HS1.out
    rcases h.1 with h | h
    · exact HSG.out.1 h
    · have := HSG.out.2; omega
  have c03 : w3.cell? ⟨S, 0, none⟩ = some (.pointer (some ⟨D, 0, none⟩)) := (World.cell?_of_block (a := ⟨S, 0, none⟩) (hf3.block S (by have h1 := HS1.out; have h2 := HS2.out; have := HSG.out.2; omega) hG2S)).trans c02
  have HF3 := Lib.hid (show Fr G w w3 from HF2.out.trans (F := G) (hf3.sub' (H := fun j => G j ∨ w.heap.size ≤ j) (fun j hj => hj.1.imp id (fun h => by have h1 := HS1.out; omega))) (fun j hj => hj))
  have HD3 := Lib.hid hd3.bound
  have HS3 := Lib.hid hf3.size
  obtain ⟨y, hy⟩ : ∃ y, y = callF 0 d1 f xs := ⟨_, rfl⟩
  rw [← hy] at hd3 HD3 ⊢
  obtain ⟨d2, k2⟩ := y
  simp only at hd3 HD3 ⊢
  have HY2 := Lib.hid hy
  clear c02 hd3 hf3 hy KA hG2S
  by_cases hk2 : k2 = 0
  case neg =>
    have hb : (k2 == 0) = false := by simpa using hk2
    have hb2 : (k2 != 0) = true := by simp [hk2]
    have HW := Lib.hid (show writeF ds f (g, bs) = (d2, k2) from by
      unfold writeF
      rw [if_neg (by simp only; have := HL.out; omega), ← HY.out, if_neg (by simp), ← HXS.out]
      simp only
      rw [← HY2.out, if_pos hk2])
    clear hk2
    go_wp2_with fail
    go_ret
    unfold WriteEnd
    rw [HW.out]
    have h1 := HS1.out
    have h2 := HS2.out
    exact ⟨rfl, HD3.out.more fun j hj => by
      rcases hj.1 with h | h
      · exact h.1.imp id (fun h => by omega)
      · exact .inr (by omega), HF3.out⟩
  case pos =>
  subst hk2
  have KS := Lib.hid (sync_dk HD3.out f)
  go_wp2_with fail
  refine KS.out.mono ?_
  rintro e w4 ⟨rfl, hd4, hf4⟩
  have HF4 := Lib.hid (show Fr G w w4 from HF3.out.trans (F := G) (hf4.sub' (H := fun j => G j ∨ w.heap.size ≤ j) (fun j hj => by
    have h1 := HS1.out
    have h2 := HS2.out
    rcases hj.1 with h | h
    · exact h.1.imp id (fun h => by omega)
    · exact .inr (by omega))) (fun j hj => hj))
  have HD4 := Lib.hid hd4
  have HW := Lib.hid (show writeF ds f (g, bs) = ((callF 1 d2 f []).1, (callF 1 d2 f []).2) from by
      unfold writeF
      rw [if_neg (by simp only; have := HL.out; omega), ← HY.out, if_neg (by simp), ← HXS.out]
      simp only
      rw [← HY2.out, if_neg (by simp)])
  clear c03 hd4 hf4 KS
  go_wp2_with fail
  go_ret
  unfold WriteEnd
  rw [HW.out]
  have h1 := HS1.out
  have h2 := HS2.out
  have h3 := HS3.out
  exact ⟨rfl, HD4.out.more fun j hj => by
    rcases hj with h | h
    · rcases h.1 with h | h
      · exact h.1.imp id (fun h => by omega)
      · exact .inr (by omega)
    · exact .inr (by omega), HF4.out⟩
end
end Go.Proofs.YtomhfnaekjmjnaaDoor
namespace Go.Proofs.YtomhfnaekjmjnaaDoor
set_option linter.unusedVariables false
open Go.ChangeShapes Go.WideShapes Go.ChangeAt Go.RowKit
attribute [local go_sem ↓] Go.wp_at_zero Go.wp_at_succ comesTo_value_eq comesTo_skip_eq comesTo_enter_eq

/-- a store in a region by Ap.wp_region_K, ahead of the number js too -/
theorem anyK_storeS {P : Program} {md : Region.Mode} {ops : Array Oper} {Q : Exit → Act → World → Prop} {S1 S2 : World → Prop} {js fuel : Nat} {listed : Array Bool} {a : Act} {w : World} {i : Nat} {oi : Oper} {w' : World} (hr : Region.ready md ops listed = [i]) (hi : ops[i]? = some oi) (hg : oi.guard = none)
    (h : (execOp a.eval oi).run P w = .ok .skip w') (hS : S1 w' ∧ ((listed.setIfInBounds i true).getD js true = false → S2 w')) (hR : Ap.wpAnyK P md ops Q S1 S2 js fuel (listed.setIfInBounds i true) (a.put oi.dst undef) w') :
    Ap.wpAnyK P md ops Q S1 S2 js (fuel + 1) listed a w := by
  refine Ap.wpAnyK_all hr (by simp) fun k hk => ?_
  obtain rfl : k = i := by simpa using hk
  unfold wpOp
  simp only [hi, Region.wanted, hg, if_true]
  refine .inl ?_
  unfold Oper.wp
  rw [h]
  exact ⟨hS, hR⟩
set_option maxRecDepth 100000 in
set_option maxHeartbeats 1000000 in
theorem save1_bad {w : World} {S Bb Bs Bt Bx : Nat} {code : Int} {x0 x1 x2 x3 x5 : Value} {x4 x6 : Value} (hcode : code ≠ 0) (cb : w.cell? ⟨Bb, 0, none⟩ = some (.int .i64 code)) (cs : w.cell? ⟨Bs, 0, none⟩ = some (.pointer (some ⟨S, 0, none⟩))) (hBS : Bs ≠ S)
    (hS : w.heap[S]? = some (.cells #[x0, x1, x2, x3, x4, x5, x6] 87 (0, 0))) (u : FrameMode) :
    CallsD Tryd.prog 71 #[.pointer (some ⟨Bb, 0, none⟩), .pointer (some ⟨Bs, 0, none⟩), .pointer (some ⟨Bt, 0, none⟩), .pointer (some ⟨Bx, 0, none⟩)] u w fun e u' w' => u' = u ∧ (e = .returned (.tuple #[]) ∧ WroteTo S 87 #[x0, x1, x2, x3, x4, x5, .bool true] w w') := by
  have hb : (code == 0) = false := by simpa using hcode
  have hb2 : (code != 0) = true := by simp [hcode]
  have hw := (wrote_refl hS).set 6 (.bool true)
  have c6 := cell_of_block (o := 6) hS rfl
  have f6 := free_of_block 6 hS
  have HW := Lib.hid hw
  have cs' : (w.setCell ⟨S, 6, none⟩ (.bool true)).cell? ⟨Bs, 0, none⟩ = some (.pointer (some ⟨S, 0, none⟩)) := (World.cell?_of_block (a := ⟨Bs, 0, none⟩) (hw.rest Bs hBS)).trans cs
  have c6' := cell_of_block (o := 6) hw.there rfl
  clear hcode hw hS
  go_enter_d Tryd.func71, Tryd.ntmps71
  go_wp2
  go_end0
  exact ⟨rfl, HW.out⟩
set_option maxRecDepth 100000 in
set_option maxHeartbeats 4000000 in
theorem save1_ok {w : World} {S Bb Bs Bt Bx : Nat} {x0 x1 x2 x3 x4 x6 : Value} {gen turn : Int} {ad : Option Addr} {n c : Nat} {bs : List Int} (hlen : bs.length ≤ 65536) (cb : w.cell? ⟨Bb, 0, none⟩ = some (.int .i64 0)) (cs : w.cell? ⟨Bs, 0, none⟩ = some (.pointer (some ⟨S, 0, none⟩))) (ct : w.cell? ⟨Bt, 0, none⟩ = some (.int .i64 turn)) (cx : w.cell? ⟨Bx, 0, none⟩ = some (.slice ad n c)) (hBS : Bs ≠ S) (hBt : Bt ≠ S) (hBx : Bx ≠ S)
    (hS : w.heap[S]? = some (.cells #[x0, x1, x2, x3, x4, .int .i64 gen, x6] 87 (0, 0))) (hg : 0 ≤ gen ∧ gen < 4611686018427387904) (hT : ∀ w', WroteTo S 87 #[x0, x1, x2, x3, x4, .int .i64 gen, .bool false] w w' → TxtAt w' (.slice ad n c) bs) (u : FrameMode) :
    CallsD Tryd.prog 71 #[.pointer (some ⟨Bb, 0, none⟩), .pointer (some ⟨Bs, 0, none⟩), .pointer (some ⟨Bt, 0, none⟩), .pointer (some ⟨Bx, 0, none⟩)] u w fun e u' w' => u' = u ∧ (e = .returned (.tuple #[]) ∧ ∃ v, OwnTxt w' w.heap.size v bs ∧ w'.heap[S]? = some (.cells #[x0, x1, x2, .int .i64 turn, v, .int .i64 (gen + 1), .bool false] 87 (0, 0)) ∧ Fr (fun j => j = S) w w') := by
  have hmx : Tryd.prog.follows .mixedOrders = true := by kernel_rfl
  have hlS := (Array.getElem?_eq_some_iff.1 hS).1
  have hw := (wrote_refl hS).set 6 (.bool false)
  have c6 := cell_of_block (o := 6) hS rfl
  have f6 := free_of_block 6 hS
  have HW := Lib.hid hw
  have HT := Lib.hid hT
  have cs' : (w.setCell ⟨S, 6, none⟩ (.bool false)).cell? ⟨Bs, 0, none⟩ = some (.pointer (some ⟨S, 0, none⟩)) := (World.cell?_of_block (a := ⟨Bs, 0, none⟩) (hw.rest Bs hBS)).trans cs
  have ct' : (w.setCell ⟨S, 6, none⟩ (.bool false)).cell? ⟨Bt, 0, none⟩ = some (.int .i64 turn) := (World.cell?_of_block (a := ⟨Bt, 0, none⟩) (hw.rest Bt hBt)).trans ct
  have cx' : (w.setCell ⟨S, 6, none⟩ (.bool false)).cell? ⟨Bx, 0, none⟩ = some (.slice ad n c) := (World.cell?_of_block (a := ⟨Bx, 0, none⟩) (hw.rest Bx hBx)).trans cx
  have c6' := cell_of_block (o := 6) hw.there rfl
  have HLT := Lib.hid (show Bs < w.heap.size ∧ Bt < w.heap.size ∧ Bx < w.heap.size from ⟨World.block_lt_of_cell? w _ cs, World.block_lt_of_cell? w _ ct, World.block_lt_of_cell? w _ cx⟩)
  have HNE := Lib.hid (And.intro hBS (And.intro hBt hBx))
  have HG := Lib.hid hg
  have HCC := Lib.hid (And.intro cs' (And.intro ct' cx'))
  have HLEN := Lib.hid (And.intro hlen hlS)
  clear hw hS hT hBS hBt hBx hg hlen hlS ct cx
  go_enter_d Tryd.func71, Tryd.ntmps71
  go_upto_region 2 with fail
  have mS := HW.out.there
  have hs0 := HW.out.size
  have KC := Lib.hid (clone_bytes ((HT.out _ HW.out).below (Below.refl _ _).drew) (by have := HLEN.out; omega))
  clear cs' ct' cx' c6 f6 c6' cb
  have cs1 := (World.cell?_of_block (a := ⟨Bs, 0, none⟩) (HW.out.rest Bs HNE.out.1)).trans cs
  generalize w.setCell ⟨S, 6, none⟩ (.bool false) = w1 at *
  refine Ap.wp_region_K (S1 := fun X : World => X.cell? ⟨Bs, 0, none⟩ = some (.pointer (some ⟨S, 0, none⟩)) ∧ X.cell? ⟨Bt, 0, none⟩ = some (.int .i64 turn) ∧ X.cell? ⟨Bx, 0, none⟩ = some (.slice ad n c)) (S2 := fun X : World => X.cell? ⟨S, 5, none⟩ = some (.int .i64 gen)) (js := 19) hmx ?_
  change Ap.wpAnyK _ _ _ _ _ _ _ 20 _ _ w1.drew
  have hSS : (fun X : World => X.cell? ⟨Bs, 0, none⟩ = some (.pointer (some ⟨S, 0, none⟩)) ∧ X.cell? ⟨Bt, 0, none⟩ = some (.int .i64 turn) ∧ X.cell? ⟨Bx, 0, none⟩ = some (.slice ad n c)) w1.drew ∧ (fun X : World => X.cell? ⟨S, 5, none⟩ = some (.int .i64 gen)) w1.drew := ⟨HCC.out, cell_of_block (o := 5) mS rfl⟩
  clear cs cs1
  refine Ap.wpAnyK_take1 (i := 0) (v := .pointer (some ⟨S, 0, none⟩)) rfl (by decide) (by decide +kernel) (by decide +kernel) (by decide +kernel) (fun _ _ _ h => h) (.inl ⟨by first | rfl | (go_simp; done), fun X hX => by have hx1 := hX.1; have hx2 := hX.2.1; have hx3 := hX.2.2; clear hX; first | (go_simp; done) | (go_simp; rfl)⟩) hSS ?_
  refine Ap.wpAnyK_take1 (i := 1) (v := .pointer (some ⟨S, 0, none⟩)) rfl (by decide) (by decide +kernel) (by decide +kernel) (by decide +kernel) (fun _ _ _ h => h) (.inl ⟨by first | rfl | (go_simp; done), fun X hX => by have hx1 := hX.1; have hx2 := hX.2.1; have hx3 := hX.2.2; clear hX; first | (go_simp; done) | (go_simp; rfl)⟩) hSS ?_
  refine Ap.wpAnyK_take1 (i := 2) (v := .pointer (some ⟨S, 0, none⟩)) rfl (by decide) (by decide +kernel) (by decide +kernel) (by decide +kernel) (fun _ _ _ h => h) (.inl ⟨by first | rfl | (go_simp; done), fun X hX => by have hx1 := hX.1; have hx2 := hX.2.1; have hx3 := hX.2.2; clear hX; first | (go_simp; done) | (go_simp; rfl)⟩) hSS ?_
  refine Ap.wpAnyK_take1 (i := 3) (v := .int .i64 turn) rfl (by decide) (by decide +kernel) (by decide +kernel) (by decide +kernel) (fun _ _ _ h => h) (.inl ⟨by first | rfl | (go_simp; done), fun X hX => by have hx1 := hX.1; have hx2 := hX.2.1; have hx3 := hX.2.2; clear hX; first | (go_simp; done) | (go_simp; rfl)⟩) hSS ?_
  refine Ap.wpAnyK_take1 (i := 4) (v := .slice ad n c) rfl (by decide) (by decide +kernel) (by decide +kernel) (by decide +kernel) (fun _ _ _ h => h) (.inl ⟨by first | rfl | (go_simp; done), fun X hX => by have hx1 := hX.1; have hx2 := hX.2.1; have hx3 := hX.2.2; clear hX; first | (go_simp; done) | (go_simp; rfl)⟩) hSS ?_
  refine Ap.wpAnyK_take1 (i := 6) (v := .pointer (some ⟨S, 0, none⟩)) rfl (by decide) (by decide +kernel) (by decide +kernel) (by decide +kernel) (fun _ _ _ h => h) (.inl ⟨by first | rfl | (go_simp; done), fun X hX => by have hx1 := hX.1; have hx2 := hX.2.1; have hx3 := hX.2.2; clear hX; first | (go_simp; done) | (go_simp; rfl)⟩) hSS ?_
  refine Ap.wpAnyK_take1 (i := 7) (v := .pointer (some ⟨S, 0, none⟩)) rfl (by decide) (by decide +kernel) (by decide +kernel) (by decide +kernel) (fun _ _ _ h => h) (.inl ⟨by first | rfl | (go_simp; done), fun X hX => by have hx1 := hX.1; have hx2 := hX.2.1; have hx3 := hX.2.2; clear hX; first | (go_simp; done) | (go_simp; rfl)⟩) hSS ?_
  refine Ap.wpAnyK_take1 (i := 8) (v := .pointer (some ⟨S, 5, none⟩)) rfl (by decide) (by decide +kernel) (by decide +kernel) (by decide +kernel) (fun _ _ _ h => h) (.inl ⟨by first | rfl | (go_simp; done), fun X hX => by have hx1 := hX.1; have hx2 := hX.2.1; have hx3 := hX.2.2; clear hX; first | (go_simp; done) | (go_simp; rfl)⟩) hSS ?_
  refine Ap.wpAnyK_take2 (i := 9) (v := .int .i64 gen) rfl (by decide) (by decide +kernel) (by decide +kernel) (by decide +kernel) rfl (by decide +kernel) (by decide +kernel) (fun _ _ _ h => h) (.inl ⟨by first | rfl | (go_simp; done), fun X hX => by have hx1 := hX.2; clear hX; first | (go_simp; done) | (go_simp; rfl)⟩) hSS ?_
  have hwg : IntKind.i64.wrap (gen + 1) = gen + 1 := by have := HG.out; rw [IntKind.wrap_i64]; omega
  have hwg2 : wrap64 (gen + 1) = gen + 1 := by have := HG.out; unfold wrap64; omega
  refine Ap.wpAnyK_take1 (i := 10) (v := .int .i64 (gen + 1)) rfl (by decide) (by decide +kernel) (by decide +kernel) (by decide +kernel) (fun _ _ _ h => h) (.inl ⟨by first | rfl | (go_simp; done), fun X hX => by have hx1 := hX.1; have hx2 := hX.2.1; have hx3 := hX.2.2; clear hX; first | (go_simp; done) | (go_simp; rfl)⟩) hSS ?_
  clear hwg hwg2
  refine Ap.anyK_call (i := 5) (by decide +kernel) rfl rfl (by go_simp) KC.out ?_
  rintro e w2 ⟨u, rfl, ho, hb2, _⟩
  have hb2 : Below w1.heap.size w1 w2 := (Below.refl w1.heap.size w1).drew.trans hb2
  have ho : OwnTxt w2 w1.heap.size u bs := ho
  obtain ⟨ua, un, uc, rfl⟩ : ∃ a n c, u = .slice a n c := by
    rcases ho.form with ⟨rfl, _⟩ | ⟨g, c, rfl, _⟩
    · exact ⟨_, _, _, rfl⟩
    · exact ⟨_, _, _, rfl⟩
  have hlS := HLEN.out.2
  have hlt := HLT.out
  have m2 := (hb2.block S (by omega)).trans mS
  have hSS2 : (fun X : World => X.cell? ⟨Bs, 0, none⟩ = some (.pointer (some ⟨S, 0, none⟩)) ∧ X.cell? ⟨Bt, 0, none⟩ = some (.int .i64 turn) ∧ X.cell? ⟨Bx, 0, none⟩ = some (.slice ad n c)) w2 ∧ (fun X : World => X.cell? ⟨S, 5, none⟩ = some (.int .i64 gen)) w2 :=
    ⟨⟨(hb2.cell (p := ⟨Bs, 0, none⟩) (by show Bs < _; omega)).trans hSS.1.1, (hb2.cell (p := ⟨Bt, 0, none⟩) (by show Bt < _; omega)).trans hSS.1.2.1, (hb2.cell (p := ⟨Bx, 0, none⟩) (by show Bx < _; omega)).trans hSS.1.2.2⟩, cell_of_block (o := 5) m2 rfl⟩
  refine ⟨_, rfl, ⟨hSS2.1, fun _ => hSS2.2⟩, ?_⟩
  refine Ap.anyK_val1 (i := 11) (v := .pointer (some ⟨S, 0, none⟩)) (w' := w2) (by decide +kernel) rfl rfl (by first | (go_simp; done) | (go_simp; rfl)) hSS2 ?_
  refine Ap.anyK_val1 (i := 12) (v := .pointer (some ⟨S, 3, none⟩)) (w' := w2) (by decide +kernel) rfl rfl (by first | (go_simp; done) | (go_simp; rfl)) hSS2 ?_
  have c3 := cell_of_block (o := 3) m2 rfl
  have f3 := free_of_block 3 m2
  have hw3 := (wrote_refl m2).set 3 (.int .i64 turn)
  have hSS3 : (fun X : World => X.cell? ⟨Bs, 0, none⟩ = some (.pointer (some ⟨S, 0, none⟩)) ∧ X.cell? ⟨Bt, 0, none⟩ = some (.int .i64 turn) ∧ X.cell? ⟨Bx, 0, none⟩ = some (.slice ad n c)) (w2.setCell ⟨S, 3, none⟩ (.int .i64 turn)) ∧ (fun X : World => X.cell? ⟨S, 5, none⟩ = some (.int .i64 gen)) (w2.setCell ⟨S, 3, none⟩ (.int .i64 turn)) :=
    ⟨⟨(World.cell?_of_block (a := ⟨Bs, 0, none⟩) (hw3.rest Bs HNE.out.1)).trans hSS2.1.1, (World.cell?_of_block (a := ⟨Bt, 0, none⟩) (hw3.rest Bt HNE.out.2.1)).trans hSS2.1.2.1, (World.cell?_of_block (a := ⟨Bx, 0, none⟩) (hw3.rest Bx HNE.out.2.2)).trans hSS2.1.2.2⟩, cell_of_block (o := 5) hw3.there rfl⟩
  refine anyK_storeS (i := 13) (w' := w2.setCell ⟨S, 3, none⟩ (.int .i64 turn)) (by decide +kernel) rfl rfl (by first | (go_simp; done) | (go_simp; rfl)) ⟨hSS3.1, fun _ => hSS3.2⟩ ?_
  refine Ap.anyK_val1 (i := 14) (v := .pointer (some ⟨S, 0, none⟩)) (w' := w2.setCell ⟨S, 3, none⟩ (.int .i64 turn)) (by decide +kernel) rfl rfl (by first | (go_simp; done) | (go_simp; rfl)) hSS3 ?_
  refine Ap.anyK_val1 (i := 15) (v := .pointer (some ⟨S, 4, none⟩)) (w' := w2.setCell ⟨S, 3, none⟩ (.int .i64 turn)) (by decide +kernel) rfl rfl (by first | (go_simp; done) | (go_simp; rfl)) hSS3 ?_
  have HB2 := Lib.hid hb2
  have HO2 := Lib.hid ho
  have HW3 := Lib.hid hw3
  have m3 := hw3.there
  clear c3 f3 hSS hSS2 hb2 ho m2 mS hw3 hlS hlt
  generalize w2.setCell ⟨S, 3, none⟩ (.int .i64 turn) = w3 at *
  have c4 := cell_of_block (o := 4) m3 rfl
  have f4 := free_of_block 4 m3
  have hw4 := (wrote_refl m3).set 4 (.slice ua un uc)
  have hSS4 : (fun X : World => X.cell? ⟨Bs, 0, none⟩ = some (.pointer (some ⟨S, 0, none⟩)) ∧ X.cell? ⟨Bt, 0, none⟩ = some (.int .i64 turn) ∧ X.cell? ⟨Bx, 0, none⟩ = some (.slice ad n c)) (w3.setCell ⟨S, 4, none⟩ (.slice ua un uc)) ∧ (fun X : World => X.cell? ⟨S, 5, none⟩ = some (.int .i64 gen)) (w3.setCell ⟨S, 4, none⟩ (.slice ua un uc)) :=
    ⟨⟨(World.cell?_of_block (a := ⟨Bs, 0, none⟩) (hw4.rest Bs HNE.out.1)).trans hSS3.1.1, (World.cell?_of_block (a := ⟨Bt, 0, none⟩) (hw4.rest Bt HNE.out.2.1)).trans hSS3.1.2.1, (World.cell?_of_block (a := ⟨Bx, 0, none⟩) (hw4.rest Bx HNE.out.2.2)).trans hSS3.1.2.2⟩, cell_of_block (o := 5) hw4.there rfl⟩
  refine anyK_storeS (i := 16) (w' := w3.setCell ⟨S, 4, none⟩ (.slice ua un uc)) (by decide +kernel) rfl rfl (by first | (go_simp; done) | (go_simp; rfl)) ⟨hSS4.1, fun _ => hSS4.2⟩ ?_
  have HW4 := Lib.hid hw4
  have m4 := hw4.there
  clear c4 f4 hSS3 m3 hw4
  generalize w3.setCell ⟨S, 4, none⟩ (.slice ua un uc) = w4 at *
  refine Ap.anyK_val1 (i := 17) (v := .pointer (some ⟨S, 0, none⟩)) (w' := w4) (by decide +kernel) rfl rfl (by first | (go_simp; done) | (go_simp; rfl)) hSS4 ?_
  refine Ap.anyK_val1 (i := 18) (v := .pointer (some ⟨S, 5, none⟩)) (w' := w4) (by decide +kernel) rfl rfl (by first | (go_simp; done) | (go_simp; rfl)) hSS4 ?_
  have c5 := cell_of_block (o := 5) m4 rfl
  have f5 := free_of_block 5 m4
  have hw5 := (wrote_refl m4).set 5 (.int .i64 (gen + 1))
  refine anyK_storeS (i := 19) (w' := w4.setCell ⟨S, 5, none⟩ (.int .i64 (gen + 1))) (by decide +kernel) rfl rfl (by first | (go_simp; done) | (go_simp; rfl)) ⟨⟨(World.cell?_of_block (a := ⟨Bs, 0, none⟩) (hw5.rest Bs HNE.out.1)).trans hSS4.1.1, (World.cell?_of_block (a := ⟨Bt, 0, none⟩) (hw5.rest Bt HNE.out.2.1)).trans hSS4.1.2.1, (World.cell?_of_block (a := ⟨Bx, 0, none⟩) (hw5.rest Bx HNE.out.2.2)).trans hSS4.1.2.2⟩, fun h => absurd h (by decide +kernel)⟩ ?_
  refine Ap.wpAnyK_done (by decide +kernel) ?_ _
  have HW5 := Lib.hid hw5
  clear c5 f5 hSS4 m4 hw5
  generalize w4.setCell ⟨S, 5, none⟩ (.int .i64 (gen + 1)) = w5 at *
  go_simp
  go_wp2
  go_end0
  have hrest : ∀ j, j ≠ S → w5.heap[j]? = w2.heap[j]? := fun j hj => (HW5.out.rest j hj).trans ((HW4.out.rest j hj).trans (HW3.out.rest j hj))
  have hs1 := HW.out.size
  have hs2 := HB2.out.size
  have hs3 := HW3.out.size
  have hs4 := HW4.out.size
  have hs5 := HW5.out.size
  have hlS := HLEN.out.2
  refine ⟨rfl, .slice ua un uc, (HO2.out.base (B' := w.heap.size) (by omega)).of_block fun k hk => hrest k (by have := HO2.out.blockGe hk; omega), HW5.out.there, ⟨HW5.out.os.trans (HW4.out.os.trans (HW3.out.os.trans (HB2.out.os.trans HW.out.os))), HW5.out.tape.trans (HW4.out.tape.trans (HW3.out.tape.trans (HB2.out.tape.trans HW.out.tape))), HW5.out.output.trans (HW4.out.output.trans (HW3.out.output.trans (HB2.out.output.trans HW.out.output))), by omega, fun j hj hn => (hrest j hn).trans ((HB2.out.block j (by omega)).trans (HW.out.rest j hn))⟩⟩
end Go.Proofs.YtomhfnaekjmjnaaDoor
namespace Go.Proofs.YtomhfnaekjmjnaaDoor
set_option linter.unusedVariables false
open Go.ChangeShapes Go.WideShapes Go.ChangeAt Go.RowKit
attribute [local go_sem ↓] Go.wp_at_zero Go.wp_at_succ comesTo_value_eq comesTo_skip_eq comesTo_enter_eq

def saveF (st : SS) (ds : DS) (bs : List Int) : SS × DS × Int :=
  if (writeF ds (if st.last = 0 then st.f1 else st.f0) (st.gen + 1, bs)).2 ≠ 0 then ({ st with failed := true }, (writeF ds (if st.last = 0 then st.f1 else st.f0) (st.gen + 1, bs)).1, (writeF ds (if st.last = 0 then st.f1 else st.f0) (st.gen + 1, bs)).2)
  else ({ st with last := if st.last = 0 then 1 else 0, text := bs, gen := st.gen + 1, failed := false }, (writeF ds (if st.last = 0 then st.f1 else st.f0) (st.gen + 1, bs)).1, 0)
/-- what saving leaves -/
def SaveEnd (w : World) (S D : Nat) (H : Nat → Prop) (x : SS × DS × Int) (e : Ending) (w' : World) : Prop :=
  e = .returned (.int .i64 x.2.2) ∧ SD w' S D (fun j => H j ∨ w.heap.size ≤ j) x.1 x.2.1 ∧ Fr H w w'
theorem leaves_congr {P : Program} {fn : Func} {t1 t2 : Array Value} {R : Ending → World → Prop} (ht : ∀ w, (results fn t1).run P w = (results fn t2).run P w) : ∀ (ds : List Deferred) (u : FrameMode) (w : World), Leaves P fn t1 R ds u w → Leaves P fn t2 R ds u w
  | [], .returning, w, h => by
    obtain ⟨v, h1, h2⟩ := h
    exact ⟨v, (ht w).symm.trans h1, h2⟩
  | [], .panicking chain, w, h => h
  | [], .run, _, h => h
  | d :: ds, u, w, h => by
    obtain ⟨h1, fv, cap, f, args, h2, h3, h4⟩ := h
    refine ⟨h1, fv, cap, f, args, h2, h3, h4.mono fun e u' w' he => ?_⟩
    cases e with
    | returned v => exact leaves_congr ht ds _ w' he
    | panicked chain => exact leaves_congr ht ds _ w' he
    | outgrown => exact he
theorem leaves_put {a : Act} {d : Tmp} {v : Value} {R : Ending → World → Prop} {u : FrameMode} {w : World} (hd : d ≠ 4) (h : Leaves Tryd.prog Tryd.f57 (a.put (some d) v).tmps R (a.put (some d) v).defers u w) : Leaves Tryd.prog Tryd.f57 a.tmps R a.defers u w := by
  refine leaves_congr (fun w => ?_) _ _ _ h
  simp [results, Tryd.results57, Act.put, Array.getElem?_setIfInBounds_ne hd]
set_option maxRecDepth 100000 in
set_option maxHeartbeats 8000000 in
theorem save_sd {w : World} {S D : Nat} {H : Nat → Prop} {f0 f1 last gen : Int} {text : List Int} {ds : DS} (h : SD w S D H ⟨f0, f1, last, text, gen, false⟩ ds) (hgen : gen < 4611686018427387904) (ad : Option Addr) (n c : Nat) (bs : List Int) (hX : ∀ w', Fr H w w' → TxtAt w' (.slice ad n c) bs) (hlen : bs.length ≤ 65536) :
    Calls Tryd.prog 57 #[.pointer (some ⟨S, 0, none⟩), .slice ad n c] w fun e w' => SaveEnd w S D H (saveF ⟨f0, f1, last, text, gen, false⟩ ds bs) e w' := by
  have hmx : Tryd.prog.follows .mixedOrders = true := by kernel_rfl
  have hmf : ∀ (fn : Fn) (first cap : Array Value) (w : World), (Instr.makeFunc fn first cap).run Tryd.prog w = .ok (.func fn first cap) w := fun _ _ _ _ => rfl
  obtain ⟨F, G, hs, hd, hFG, hH⟩ := h
  have hsl := hs.lt
  obtain ⟨hm, hgi, hli, hln, tv, hb, ht⟩ := hs
  unfold snCells at hb
  simp only at hb hgi hli hln ht
  have hA1 := below_alloc (Below.refl _ w) (.cells #[.pointer (some ⟨S, 0, none⟩)] 66)
  have hA2 := below_alloc hA1 (.cells #[.slice ad n c] 22)
  have hA3 := below_alloc hA2 (.cells #[.int .i64 0] 25)
  have hA4 := below_alloc hA3 (.cells #[.int .i64 0] 3)
  have b1 := Boxed.new w 66 (.pointer (some ⟨S, 0, none⟩))
  have b2 := Boxed.new (w.alloc (.cells #[.pointer (some ⟨S, 0, none⟩)] 66)) 22 (.slice ad n c)
  have b3 := Boxed.new ((w.alloc (.cells #[.pointer (some ⟨S, 0, none⟩)] 66)).alloc (.cells #[.slice ad n c] 22)) 25 (.int .i64 0)
  have b4 := Boxed.new (((w.alloc (.cells #[.pointer (some ⟨S, 0, none⟩)] 66)).alloc (.cells #[.slice ad n c] 22)).alloc (.cells #[.int .i64 0] 25)) 3 (.int .i64 0)
  rw [World.size_alloc] at b2
  rw [World.size_alloc, World.size_alloc] at b3
  rw [World.size_alloc, World.size_alloc, World.size_alloc] at b4
  replace b1 := ((b1.alloc (.cells #[.slice ad n c] 22)).alloc (.cells #[.int .i64 0] 25)).alloc (.cells #[.int .i64 0] 3)
  replace b2 := (b2.alloc (.cells #[.int .i64 0] 25)).alloc (.cells #[.int .i64 0] 3)
  replace b3 := b3.alloc (.cells #[.int .i64 0] 3)
  have hsz : ((((w.alloc (.cells #[.pointer (some ⟨S, 0, none⟩)] 66)).alloc (.cells #[.slice ad n c] 22)).alloc (.cells #[.int .i64 0] 25)).alloc (.cells #[.int .i64 0] 3)).heap.size = w.heap.size + 4 := by simp
  have HSG := Lib.hid (hFG S hm)
  have HSL := Lib.hid hsl
  have HGB := Lib.hid (fun j (hj : G j) => (hH j (.inr hj)).2)
  have HHH := Lib.hid hH
  have HFG := Lib.hid hFG
  have HM := Lib.hid hm
  have HG := Lib.hid (And.intro hgi.1 hgen)
  have HLI := Lib.hid (And.intro hli hln)
  have HX := Lib.hid hX
  have HLEN := Lib.hid hlen
  have HTX := Lib.hid ht
  have HD := Lib.hid hd
  have HMS := Lib.hid hb
  have HBA := Lib.hid hA4
  have hmS1 := (hA4.block S hsl).trans hb
  have HB1 := Lib.hid b1
  have HB2 := Lib.hid b2
  have HB3 := Lib.hid b3
  have HB4 := Lib.hid b4
  have HSZ1 := Lib.hid hsz
  have c1 := b1.cell
  have c3 := cell_of_block (o := 3) hmS1 rfl
  have HM1 := Lib.hid hmS1
  clear hgi hli hln ht hb hd hFG hH hm hA1 hA2 hA3 hA4 b1 b2 b3 b4 hsz hX hlen hgen hsl hmS1
  go_enter_defers Tryd.func57, Tryd.ntmps57
  go_upto_region 2 with fail
  generalize (((w.alloc (.cells #[.pointer (some ⟨S, 0, none⟩)] 66)).alloc (.cells #[.slice ad n c] 22)).alloc (.cells #[.int .i64 0] 25)).alloc (.cells #[.int .i64 0] 3) = W1 at *
  have hlS := (Array.getElem?_eq_some_iff.1 HM1.out).1
  have HSZ := HSZ1
  have HFA0 : ∀ (W2 w3 w4 w' : World) (cs : Array Value) (T : TypeId) (cs' : Array Value), (∀ j, j < w.heap.size → W2.heap[j]? = w.heap[j]?) → w.heap.size ≤ W2.heap.size → W2.os = w.os ∧ W2.tape = w.tape ∧ W2.output = w.output → Fr G W2 w3 → WroteTo (w.heap.size + 2) T cs w3 w4 → Fr (fun j => j = S) w4 w' → Fr H w w' := fun W2 w3 w4 w' cs T cs' h0 hs ho h1 h2 h3 =>
    ⟨h3.os.trans (h2.os.trans (h1.os.trans ho.1)), h3.tape.trans (h2.tape.trans (h1.tape.trans ho.2.1)), h3.output.trans (h2.output.trans (h1.output.trans ho.2.2)), by have := h1.size; have := h2.size; have := h3.size; omega, fun j hj hn => (h3.block j (by have := h1.size; have := h2.size; omega) (fun e => by subst e; exact hn (HHH.out _ (.inl HM.out)).1)).trans ((h2.rest j (by omega)).trans ((h1.block j (by omega) (fun hg => hn (HHH.out _ (.inr hg)).1)).trans (h0 j hj)))⟩
  have HFAL := Lib.hid HFA0
  clear HFA0 hlS
  by_cases hl0 : last = 0
  · have hd0 : (last == 0) = true := by simpa using hl0
    have HL0 := Lib.hid hl0
    have c4 := HB4.out.cell
    have f4 := HB4.out.frozen
    have hw2 := (wrote_refl (show W1.heap[w.heap.size + 3]? = some (.cells #[.int .i64 0] 3 (0, 0)) from HB4.out)).set 0 (.int .i64 1)
    have hbs : Boxed (W1.setCell ⟨w.heap.size + 3, 0, none⟩ (.int .i64 1)) w.heap.size 66 (.pointer (some ⟨S, 0, none⟩)) := (hw2.rest _ (by omega)).trans HB1.out
    have hbx : Boxed (W1.setCell ⟨w.heap.size + 3, 0, none⟩ (.int .i64 1)) (w.heap.size + 1) 22 (.slice ad n c) := (hw2.rest _ (by omega)).trans HB2.out
    have hbb : Boxed (W1.setCell ⟨w.heap.size + 3, 0, none⟩ (.int .i64 1)) (w.heap.size + 2) 25 (.int .i64 0) := (hw2.rest _ (by omega)).trans HB3.out
    have hbt : Boxed (W1.setCell ⟨w.heap.size + 3, 0, none⟩ (.int .i64 1)) (w.heap.size + 3) 3 (.int .i64 1) := hw2.there
    have hmS := (hw2.rest S (by have := HSL.out; omega)).trans HM1.out
    have HB2W := Lib.hid (show Below w.heap.size w (W1.setCell ⟨w.heap.size + 3, 0, none⟩ (.int .i64 1)) from hw2.below HBA.out (by omega))
    have HSZ2 := Lib.hid hw2.size
    have hT2 := HX.out _ (Fr.of_below HB2W.out)
    have HD2 := Lib.hid (HD.out.below HB2W.out)
    clear hl0 hw2
    go_upto_region 4 with fail
    clear c1 c3 c4 f4 hd0
    generalize W1.setCell ⟨w.heap.size + 3, 0, none⟩ (.int .i64 1) = W2 at *
    have HSZ := Lib.hid (show W2.heap.size = w.heap.size + 4 from HSZ2.out.trans HSZ1.out)
    have HFA := Lib.hid (fun (w3 w4 w' : World) (cs : Array Value) (T : TypeId) (h1 : Fr G W2 w3) (h2 : WroteTo (w.heap.size + 2) T cs w3 w4) (h3 : Fr (fun j => j = S) w4 w') => HFAL.out W2 w3 w4 w' cs T #[] (fun j hj => HB2W.out.block j hj) HB2W.out.size ⟨HB2W.out.os, HB2W.out.tape, HB2W.out.output⟩ h1 h2 h3)
    have HT2 := Lib.hid hT2
    clear hT2
    go_upto_region 5 with fail
    refine wp_region_held (S := fun X => X.cell? ⟨w.heap.size, 0, none⟩ = some (.pointer (some ⟨S, 0, none⟩)) ∧ X.cell? ⟨w.heap.size + 1, 0, none⟩ = some (.slice ad n c) ∧ X.cell? ⟨w.heap.size + 3, 0, none⟩ = some (.int .i64 1) ∧ X.heap[S]? = some (.cells #[.pointer (some ⟨D, 0, none⟩), .int .i64 f0, .int .i64 f1, .int .i64 last, tv, .int .i64 gen, .bool false] 87 (0, 0))) hmx ?_
    change wpAnyH _ _ _ _ _ 16 _ _ W2.drew
    have hSS : W2.drew.cell? ⟨w.heap.size, 0, none⟩ = some (.pointer (some ⟨S, 0, none⟩)) ∧ W2.drew.cell? ⟨w.heap.size + 1, 0, none⟩ = some (.slice ad n c) ∧ W2.drew.cell? ⟨w.heap.size + 3, 0, none⟩ = some (.int .i64 1) ∧ W2.drew.heap[S]? = some (.cells #[.pointer (some ⟨D, 0, none⟩), .int .i64 f0, .int .i64 f1, .int .i64 last, tv, .int .i64 gen, .bool false] 87 (0, 0)) := ⟨hbs.cell, hbx.cell, hbt.cell, hmS⟩
    have hwg : IntKind.i64.wrap (gen + 1) = gen + 1 := by have := HG.out; rw [IntKind.wrap_i64]; omega
    have hwg2 : wrap64 (gen + 1) = gen + 1 := by have := HG.out; unfold wrap64; omega
    refine wpAnyH_take (i := 0) (v := .pointer (some ⟨S, 0, none⟩)) rfl (by decide +kernel) (by decide +kernel) (by decide +kernel) (fun _ _ _ h => leaves_put (by decide) h) (.inl ⟨by first | rfl | (go_simp; done), fun X hX => by have hx1 := hX.1; have hx2 := hX.2.1; have hx3 := hX.2.2.1; have hm1 := cell_of_block (o := 1) hX.2.2.2 rfl; have hm2 := cell_of_block (o := 2) hX.2.2.2 rfl; have hm5 := cell_of_block (o := 5) hX.2.2.2 rfl; clear hX; first | (go_simp; done) | (go_simp; rfl)⟩) hSS ?_
    refine wpAnyH_take (i := 1) (v := .pointer (some ⟨S, 0, none⟩)) rfl (by decide +kernel) (by decide +kernel) (by decide +kernel) (fun _ _ _ h => leaves_put (by decide) h) (.inl ⟨by first | rfl | (go_simp; done), fun X hX => by have hx1 := hX.1; have hx2 := hX.2.1; have hx3 := hX.2.2.1; have hm1 := cell_of_block (o := 1) hX.2.2.2 rfl; have hm2 := cell_of_block (o := 2) hX.2.2.2 rfl; have hm5 := cell_of_block (o := 5) hX.2.2.2 rfl; clear hX; first | (go_simp; done) | (go_simp; rfl)⟩) hSS ?_
    refine wpAnyH_take (i := 2) (v := .int .i64 1) rfl (by decide +kernel) (by decide +kernel) (by decide +kernel) (fun _ _ _ h => leaves_put (by decide) h) (.inl ⟨by first | rfl | (go_simp; done), fun X hX => by have hx1 := hX.1; have hx2 := hX.2.1; have hx3 := hX.2.2.1; have hm1 := cell_of_block (o := 1) hX.2.2.2 rfl; have hm2 := cell_of_block (o := 2) hX.2.2.2 rfl; have hm5 := cell_of_block (o := 5) hX.2.2.2 rfl; clear hX; first | (go_simp; done) | (go_simp; rfl)⟩) hSS ?_
    refine wpAnyH_take (i := 3) (v := .pointer (some ⟨S, 0, none⟩)) rfl (by decide +kernel) (by decide +kernel) (by decide +kernel) (fun _ _ _ h => leaves_put (by decide) h) (.inl ⟨by first | rfl | (go_simp; done), fun X hX => by have hx1 := hX.1; have hx2 := hX.2.1; have hx3 := hX.2.2.1; have hm1 := cell_of_block (o := 1) hX.2.2.2 rfl; have hm2 := cell_of_block (o := 2) hX.2.2.2 rfl; have hm5 := cell_of_block (o := 5) hX.2.2.2 rfl; clear hX; first | (go_simp; done) | (go_simp; rfl)⟩) hSS ?_
    refine wpAnyH_take (i := 4) (v := .pointer (some ⟨S, 1, none⟩)) rfl (by decide +kernel) (by decide +kernel) (by decide +kernel) (fun _ _ _ h => leaves_put (by decide) h) (.inl ⟨by first | rfl | (go_simp; done), fun X hX => by have hx1 := hX.1; have hx2 := hX.2.1; have hx3 := hX.2.2.1; have hm1 := cell_of_block (o := 1) hX.2.2.2 rfl; have hm2 := cell_of_block (o := 2) hX.2.2.2 rfl; have hm5 := cell_of_block (o := 5) hX.2.2.2 rfl; clear hX; first | (go_simp; done) | (go_simp; rfl)⟩) hSS ?_
    refine wpAnyH_take (i := 5) (v := .pointer (some ⟨S, 2, none⟩)) rfl (by decide +kernel) (by decide +kernel) (by decide +kernel) (fun _ _ _ h => leaves_put (by decide) h) (.inl ⟨by first | rfl | (go_simp; done), fun X hX => by have hx1 := hX.1; have hx2 := hX.2.1; have hx3 := hX.2.2.1; have hm1 := cell_of_block (o := 1) hX.2.2.2 rfl; have hm2 := cell_of_block (o := 2) hX.2.2.2 rfl; have hm5 := cell_of_block (o := 5) hX.2.2.2 rfl; clear hX; first | (go_simp; done) | (go_simp; rfl)⟩) hSS ?_
    refine wpAnyH_take (i := 6) (v := .int .i64 f1) rfl (by decide +kernel) (by decide +kernel) (by decide +kernel) (fun _ _ _ h => leaves_put (by decide) h) (.inl ⟨by first | rfl | (go_simp; done), fun X hX => by have hx1 := hX.1; have hx2 := hX.2.1; have hx3 := hX.2.2.1; have hm1 := cell_of_block (o := 1) hX.2.2.2 rfl; have hm2 := cell_of_block (o := 2) hX.2.2.2 rfl; have hm5 := cell_of_block (o := 5) hX.2.2.2 rfl; clear hX; first | (go_simp; done) | (go_simp; rfl)⟩) hSS ?_
    refine wpAnyH_take (i := 7) (v := .pointer (some ⟨S, 0, none⟩)) rfl (by decide +kernel) (by decide +kernel) (by decide +kernel) (fun _ _ _ h => leaves_put (by decide) h) (.inl ⟨by first | rfl | (go_simp; done), fun X hX => by have hx1 := hX.1; have hx2 := hX.2.1; have hx3 := hX.2.2.1; have hm1 := cell_of_block (o := 1) hX.2.2.2 rfl; have hm2 := cell_of_block (o := 2) hX.2.2.2 rfl; have hm5 := cell_of_block (o := 5) hX.2.2.2 rfl; clear hX; first | (go_simp; done) | (go_simp; rfl)⟩) hSS ?_
    refine wpAnyH_take (i := 8) (v := .pointer (some ⟨S, 0, none⟩)) rfl (by decide +kernel) (by decide +kernel) (by decide +kernel) (fun _ _ _ h => leaves_put (by decide) h) (.inl ⟨by first | rfl | (go_simp; done), fun X hX => by have hx1 := hX.1; have hx2 := hX.2.1; have hx3 := hX.2.2.1; have hm1 := cell_of_block (o := 1) hX.2.2.2 rfl; have hm2 := cell_of_block (o := 2) hX.2.2.2 rfl; have hm5 := cell_of_block (o := 5) hX.2.2.2 rfl; clear hX; first | (go_simp; done) | (go_simp; rfl)⟩) hSS ?_
    refine wpAnyH_take (i := 9) (v := .pointer (some ⟨S, 5, none⟩)) rfl (by decide +kernel) (by decide +kernel) (by decide +kernel) (fun _ _ _ h => leaves_put (by decide) h) (.inl ⟨by first | rfl | (go_simp; done), fun X hX => by have hx1 := hX.1; have hx2 := hX.2.1; have hx3 := hX.2.2.1; have hm1 := cell_of_block (o := 1) hX.2.2.2 rfl; have hm2 := cell_of_block (o := 2) hX.2.2.2 rfl; have hm5 := cell_of_block (o := 5) hX.2.2.2 rfl; clear hX; first | (go_simp; done) | (go_simp; rfl)⟩) hSS ?_
    refine wpAnyH_take (i := 10) (v := .int .i64 gen) rfl (by decide +kernel) (by decide +kernel) (by decide +kernel) (fun _ _ _ h => leaves_put (by decide) h) (.inl ⟨by first | rfl | (go_simp; done), fun X hX => by have hx1 := hX.1; have hx2 := hX.2.1; have hx3 := hX.2.2.1; have hm1 := cell_of_block (o := 1) hX.2.2.2 rfl; have hm2 := cell_of_block (o := 2) hX.2.2.2 rfl; have hm5 := cell_of_block (o := 5) hX.2.2.2 rfl; clear hX; first | (go_simp; done) | (go_simp; rfl)⟩) hSS ?_
    refine wpAnyH_take (i := 11) (v := .int .i64 (gen + 1)) rfl (by decide +kernel) (by decide +kernel) (by decide +kernel) (fun _ _ _ h => leaves_put (by decide) h) (.inl ⟨by first | rfl | (go_simp; done), fun X hX => by have hx1 := hX.1; have hx2 := hX.2.1; have hx3 := hX.2.2.1; have hm1 := cell_of_block (o := 1) hX.2.2.2 rfl; have hm2 := cell_of_block (o := 2) hX.2.2.2 rfl; have hm5 := cell_of_block (o := 5) hX.2.2.2 rfl; clear hX; first | (go_simp; done) | (go_simp; rfl)⟩) hSS ?_
    refine wpAnyH_take (i := 12) (v := .slice ad n c) rfl (by decide +kernel) (by decide +kernel) (by decide +kernel) (fun _ _ _ h => leaves_put (by decide) h) (.inl ⟨by first | rfl | (go_simp; done), fun X hX => by have hx1 := hX.1; have hx2 := hX.2.1; have hx3 := hX.2.2.1; have hm1 := cell_of_block (o := 1) hX.2.2.2 rfl; have hm2 := cell_of_block (o := 2) hX.2.2.2 rfl; have hm5 := cell_of_block (o := 5) hX.2.2.2 rfl; clear hX; first | (go_simp; done) | (go_simp; rfl)⟩) hSS ?_
    refine wpAnyH_take (i := 13) (v := .agg #[.int .i64 (gen + 1), .slice ad n c]) rfl (by decide +kernel) (by decide +kernel) (by decide +kernel) (fun _ _ _ h => leaves_put (by decide) h) (.inl ⟨by first | rfl | (go_simp; done), fun X hX => by have hx1 := hX.1; have hx2 := hX.2.1; have hx3 := hX.2.2.1; have hm1 := cell_of_block (o := 1) hX.2.2.2 rfl; have hm2 := cell_of_block (o := 2) hX.2.2.2 rfl; have hm5 := cell_of_block (o := 5) hX.2.2.2 rfl; clear hX; first | (go_simp; done) | (go_simp; rfl)⟩) hSS ?_
    clear hwg hwg2
    have KW := Lib.hid (write_sn (w := W2.drew) (S := S) (D := D) (G := G) (ds := ds) (cell_of_block (o := 0) hmS rfl) HSG.out (HD2.out.below (Below.refl _ _).drew) (fun j hj => by have h1 := HGB.out j hj; have h2 := HSZ.out; show j < W2.heap.size; have h3 := Nat.lt_of_lt_of_eq (Nat.lt_of_lt_of_le h1 (Nat.le_add_right _ 4)) h2.symm; exact h3) f1 (gen + 1) (by have := HG.out; omega) ad n c bs (HT2.out.below (Below.refl _ _).drew))
    refine anyH_call (i := 14) (by decide +kernel) rfl (by first | rfl | (go_simp; done)) (by go_simp) KW.out ?_
    rintro e w3 ⟨rfl, hd3, hf3⟩
    have hsz := HSZ.out
    have hgb := HGB.out
    have hf3 : Fr G W2 w3 := drew_fr hf3
    have hd3 : Dk w3 D (fun j => G j ∨ W2.heap.size ≤ j) _ := hd3
    have hbs3 : Boxed w3 w.heap.size 66 (.pointer (some ⟨S, 0, none⟩)) := (hf3.block _ (by omega) (fun h => by have := hgb _ h; omega)).trans hbs
    have hbx3 : Boxed w3 (w.heap.size + 1) 22 (.slice ad n c) := (hf3.block _ (by omega) (fun h => by have := hgb _ h; omega)).trans hbx
    have hbb3 : Boxed w3 (w.heap.size + 2) 25 (.int .i64 0) := (hf3.block _ (by omega) (fun h => by have := hgb _ h; omega)).trans hbb
    have hbt3 : Boxed w3 (w.heap.size + 3) 3 (.int .i64 1) := (hf3.block _ (by omega) (fun h => by have := hgb _ h; omega)).trans hbt
    have hmS3 := (hf3.block S (by have := HSL.out; omega) HSG.out).trans hmS
    refine ⟨_, rfl, ⟨hbs3.cell, hbx3.cell, hbt3.cell, hmS3⟩, ?_⟩
    obtain ⟨y, hy⟩ : ∃ y, y = writeF ds f1 (gen + 1, bs) := ⟨_, rfl⟩
    rw [← hy] at hd3 ⊢
    obtain ⟨d1, k1⟩ := y
    simp only at hd3 ⊢
    have cb3 := hbb3.cell
    have fb3 := hbb3.frozen
    have hw4 := (wrote_refl (show w3.heap[w.heap.size + 2]? = some (.cells #[.int .i64 0] 25 (0, 0)) from hbb3)).set 0 (.int .i64 k1)
    have hbs4 : Boxed (w3.setCell ⟨w.heap.size + 2, 0, none⟩ (.int .i64 k1)) w.heap.size 66 (.pointer (some ⟨S, 0, none⟩)) := (hw4.rest _ (by omega)).trans hbs3
    have hbx4 : Boxed (w3.setCell ⟨w.heap.size + 2, 0, none⟩ (.int .i64 k1)) (w.heap.size + 1) 22 (.slice ad n c) := (hw4.rest _ (by omega)).trans hbx3
    have hbt4 : Boxed (w3.setCell ⟨w.heap.size + 2, 0, none⟩ (.int .i64 k1)) (w.heap.size + 3) 3 (.int .i64 1) := (hw4.rest _ (by omega)).trans hbt3
    have hmS4 := (hw4.rest S (by have := HSL.out; omega)).trans hmS3
    refine anyH_store (i := 15) (w' := w3.setCell ⟨w.heap.size + 2, 0, none⟩ (.int .i64 k1)) (by decide +kernel) rfl (by first | rfl | (go_simp; done)) (by first | (go_simp; done) | (go_simp; rfl)) ⟨hbs4.cell, hbx4.cell, hbt4.cell, hmS4⟩ ?_
    refine wpAnyH_done (by decide +kernel) ?_ _
    have HW4 := Lib.hid hw4
    have HF3 := Lib.hid hf3
    have HD3 := Lib.hid hd3
    have HY := Lib.hid hy
    have HM4 := Lib.hid hmS4
    have HBS4 := Lib.hid hbs4
    have HBX4 := Lib.hid hbx4
    have HBT4 := Lib.hid hbt4
    have cb4 := cell_of_block (o := 0) hw4.there rfl
    have HCB4 := Lib.hid cb4
    clear hSS hd3 hf3 hbs3 hbx3 hbb3 hbt3 hmS3 hy cb3 fb3 hw4 hbs4 hbx4 hbt4 hmS4 hbs hbx hbb hbt hmS KW cb4 hsz hgb
    generalize w3.setCell ⟨w.heap.size + 2, 0, none⟩ (.int .i64 k1) = w4 at *
    go_simp
    go_wp2
    refine leaves_cons (f := 71) (args := #[.pointer (some ⟨w.heap.size + 2, 0, none⟩), .pointer (some ⟨w.heap.size, 0, none⟩), .pointer (some ⟨w.heap.size + 3, 0, none⟩), .pointer (some ⟨w.heap.size + 1, 0, none⟩)]) (by simp) (by simp [go_sem]) ?_
    have hsl := HSL.out
    have hsz := HSZ.out
    have hs3 := HF3.out.size
    have hs4 := HW4.out.size
    by_cases hk : k1 = 0
    case neg =>
      refine (save1_bad hk HCB4.out HBS4.out.cell (by omega) HM4.out .returning).mono ?_
      rintro e u' w5 ⟨rfl, rfl, hw5⟩
      have hcb5 := (World.cell?_of_block (a := ⟨w.heap.size + 2, 0, none⟩) (hw5.rest _ (by show w.heap.size + 2 ≠ S; omega))).trans HCB4.out
      have hsv : saveF ⟨f0, f1, last, text, gen, false⟩ ds bs = (⟨f0, f1, last, text, gen, true⟩, d1, k1) := by
        unfold saveF
        simp only
        rw [if_pos HL0.out, ← HY.out, if_pos hk]
      have hb4 : ∀ j, j < w.heap.size → ¬ G j → w4.heap[j]? = w.heap[j]? := fun j hj hg => (HW4.out.rest j (by omega)).trans ((HF3.out.block j (by omega) hg).trans (HB2W.out.block j hj))
      have hd4 : Dk w4 D (fun j => G j ∨ W2.heap.size ≤ j) d1 := Fr.dk (G := fun j => j = w.heap.size + 2) HD3.out ⟨HW4.out.os, HW4.out.tape, HW4.out.output, Nat.le_of_eq HW4.out.size.symm, fun j _ hj => HW4.out.rest j hj⟩ (fun j hj _ e => by rcases hj with h | h; have := HGB.out j h; omega; omega)
      have hfr5 : Fr (fun j => j = S) w4 w5 := ⟨hw5.os, hw5.tape, hw5.output, Nat.le_of_eq hw5.size.symm, fun j _ hj => hw5.rest j hj⟩
      refine ⟨.int .i64 k1, ?_, ?_⟩
      · clear hb4 hd4 hfr5 hsv hw5 hk
        simp [results, Tryd.results57, go_sem]; try go_simp
      · unfold SaveEnd
        rw [hsv]
        refine ⟨rfl, SD.of (F := F) (G := fun j => G j ∨ W2.heap.size ≤ j) ⟨HM.out, ⟨HG.out.1, by show gen ≤ _; have := HG.out; omega⟩, HLI.out.1, HLI.out.2, tv, hw5.there, HTX.out.keep (by have := hw5.size; omega) fun j hj hlt => (hw5.rest j hj.2).trans (hb4 j hlt (HFG.out j hj.1))⟩ (Fr.dk hd4 hfr5 (fun j hj _ e => by rcases hj with h | h; exact HSG.out (e ▸ h); omega)) (fun j _ hj hg => by rcases hg with h | h; exact HFG.out j hj h; have := (HHH.out j (.inl hj)).2; omega) (fun j _ hj => .inl (HHH.out j (.inl hj)).1) (fun j _ hj => hj.elim (fun h => .inl (HHH.out j (.inr h)).1) (fun h => .inr (by omega))), HFA.out _ _ _ _ _ HF3.out HW4.out hfr5⟩
    case pos =>
      subst hk
      refine (save1_ok HLEN.out HCB4.out HBS4.out.cell HBT4.out.cell HBX4.out.cell (by omega) (by omega) (by omega) HM4.out HG.out (fun w' hw' => HX.out w' (HFA.out _ _ _ _ _ HF3.out HW4.out ⟨hw'.os, hw'.tape, hw'.output, Nat.le_of_eq hw'.size.symm, fun j _ hj => hw'.rest j hj⟩)) .returning).mono ?_
      rintro e u' w5 ⟨rfl, rfl, v5, ho5, hm5, hf5⟩
      have hcb5 := (World.cell?_of_block (a := ⟨w.heap.size + 2, 0, none⟩) (hf5.block _ (by show w.heap.size + 2 < w4.heap.size; omega) (by show ¬ (w.heap.size + 2 = S); omega))).trans HCB4.out
      have hsv : saveF ⟨f0, f1, last, text, gen, false⟩ ds bs = (⟨f0, f1, 1, bs, gen + 1, false⟩, d1, 0) := by
        unfold saveF
        simp only
        rw [if_pos HL0.out, ← HY.out, if_neg (by simp), if_pos HL0.out]
      have hb4 : ∀ j, j < w.heap.size → ¬ G j → w4.heap[j]? = w.heap[j]? := fun j hj hg => (HW4.out.rest j (by omega)).trans ((HF3.out.block j (by omega) hg).trans (HB2W.out.block j hj))
      have hd4 : Dk w4 D (fun j => G j ∨ W2.heap.size ≤ j) d1 := Fr.dk (G := fun j => j = w.heap.size + 2) HD3.out ⟨HW4.out.os, HW4.out.tape, HW4.out.output, Nat.le_of_eq HW4.out.size.symm, fun j _ hj => HW4.out.rest j hj⟩ (fun j hj _ e => by rcases hj with h | h; have := HGB.out j h; omega; omega)
      refine ⟨.int .i64 0, ?_, ?_⟩
      · clear hb4 hd4 hf5 hsv hm5 ho5
        simp [results, Tryd.results57, go_sem]; try go_simp
      · unfold SaveEnd
        rw [hsv]
        have hs5 := hf5.size
        refine ⟨rfl, SD.of (F := fun j => F j ∨ w4.heap.size ≤ j) (G := fun j => (G j ∨ W2.heap.size ≤ j) ∧ j < w4.heap.size) ⟨.inl HM.out, ⟨by show 0 ≤ gen + 1; have := HG.out; omega, by show gen + 1 ≤ _; have := HG.out; omega⟩, by simp only; decide, HLEN.out, v5, hm5, (TxtF.of_own ho5).more fun j _ hj => ⟨.inr hj, by omega⟩⟩ (Fr.dk hd4.bound hf5 (fun j hj _ e => by rcases hj.1 with h | h; exact HSG.out (e ▸ h); omega)) (fun j _ hj hg => by
          rcases hj with hj | hj
          · rcases hg.1 with h | h
            · exact HFG.out j hj h
            · have := (HHH.out j (.inl hj)).2; omega
          · have := hg.2; omega) (fun j _ hj => hj.elim (fun h => .inl (HHH.out j (.inl h)).1) (fun h => .inr (by omega))) (fun j _ hj => hj.1.elim (fun h => .inl (HHH.out j (.inr h)).1) (fun h => .inr (by omega))), HFA.out _ _ _ _ _ HF3.out HW4.out hf5⟩
  · have hd0 : (last == 0) = false := by simpa using hl0
    have HL0 := Lib.hid hl0
    have hbs := HB1.out
    have hbx := HB2.out
    have hbb := HB3.out
    have hbt := HB4.out
    have hmS := HM1.out
    have HB2W := HBA
    have hT2 := HX.out _ (Fr.of_below HB2W.out)
    have HD2 := Lib.hid (HD.out.below HB2W.out)
    clear hl0
    go_upto_region 4 with fail
    clear c1 c3 hd0
    have HFA := Lib.hid (fun (w3 w4 w' : World) (cs : Array Value) (T : TypeId) (h1 : Fr G W1 w3) (h2 : WroteTo (w.heap.size + 2) T cs w3 w4) (h3 : Fr (fun j => j = S) w4 w') => HFAL.out W1 w3 w4 w' cs T #[] (fun j hj => HB2W.out.block j hj) HB2W.out.size ⟨HB2W.out.os, HB2W.out.tape, HB2W.out.output⟩ h1 h2 h3)
    have HT2 := Lib.hid hT2
    clear hT2
    go_upto_region 5 with fail
    refine wp_region_held (S := fun X => X.cell? ⟨w.heap.size, 0, none⟩ = some (.pointer (some ⟨S, 0, none⟩)) ∧ X.cell? ⟨w.heap.size + 1, 0, none⟩ = some (.slice ad n c) ∧ X.cell? ⟨w.heap.size + 3, 0, none⟩ = some (.int .i64 0) ∧ X.heap[S]? = some (.cells #[.pointer (some ⟨D, 0, none⟩), .int .i64 f0, .int .i64 f1, .int .i64 last, tv, .int .i64 gen, .bool false] 87 (0, 0))) hmx ?_
    change wpAnyH _ _ _ _ _ 16 _ _ W1.drew
    have hSS : W1.drew.cell? ⟨w.heap.size, 0, none⟩ = some (.pointer (some ⟨S, 0, none⟩)) ∧ W1.drew.cell? ⟨w.heap.size + 1, 0, none⟩ = some (.slice ad n c) ∧ W1.drew.cell? ⟨w.heap.size + 3, 0, none⟩ = some (.int .i64 0) ∧ W1.drew.heap[S]? = some (.cells #[.pointer (some ⟨D, 0, none⟩), .int .i64 f0, .int .i64 f1, .int .i64 last, tv, .int .i64 gen, .bool false] 87 (0, 0)) := ⟨hbs.cell, hbx.cell, hbt.cell, hmS⟩
    have hwg : IntKind.i64.wrap (gen + 1) = gen + 1 := by have := HG.out; rw [IntKind.wrap_i64]; omega
    have hwg2 : wrap64 (gen + 1) = gen + 1 := by have := HG.out; unfold wrap64; omega
    refine wpAnyH_take (i := 0) (v := .pointer (some ⟨S, 0, none⟩)) rfl (by decide +kernel) (by decide +kernel) (by decide +kernel) (fun _ _ _ h => leaves_put (by decide) h) (.inl ⟨by first | rfl | (go_simp; done), fun X hX => by have hx1 := hX.1; have hx2 := hX.2.1; have hx3 := hX.2.2.1; have hm1 := cell_of_block (o := 1) hX.2.2.2 rfl; have hm2 := cell_of_block (o := 2) hX.2.2.2 rfl; have hm5 := cell_of_block (o := 5) hX.2.2.2 rfl; clear hX; first | (go_simp; done) | (go_simp; rfl)⟩) hSS ?_
    refine wpAnyH_take (i := 1) (v := .pointer (some ⟨S, 0, none⟩)) rfl (by decide +kernel) (by decide +kernel) (by decide +kernel) (fun _ _ _ h => leaves_put (by decide) h) (.inl ⟨by first | rfl | (go_simp; done), fun X hX => by have hx1 := hX.1; have hx2 := hX.2.1; have hx3 := hX.2.2.1; have hm1 := cell_of_block (o := 1) hX.2.2.2 rfl; have hm2 := cell_of_block (o := 2) hX.2.2.2 rfl; have hm5 := cell_of_block (o := 5) hX.2.2.2 rfl; clear hX; first | (go_simp; done) | (go_simp; rfl)⟩) hSS ?_
    refine wpAnyH_take (i := 2) (v := .int .i64 0) rfl (by decide +kernel) (by decide +kernel) (by decide +kernel) (fun _ _ _ h => leaves_put (by decide) h) (.inl ⟨by first | rfl | (go_simp; done), fun X hX => by have hx1 := hX.1; have hx2 := hX.2.1; have hx3 := hX.2.2.1; have hm1 := cell_of_block (o := 1) hX.2.2.2 rfl; have hm2 := cell_of_block (o := 2) hX.2.2.2 rfl; have hm5 := cell_of_block (o := 5) hX.2.2.2 rfl; clear hX; first | (go_simp; done) | (go_simp; rfl)⟩) hSS ?_
    refine wpAnyH_take (i := 3) (v := .pointer (some ⟨S, 0, none⟩)) rfl (by decide +kernel) (by decide +kernel) (by decide +kernel) (fun _ _ _ h => leaves_put (by decide) h) (.inl ⟨by first | rfl | (go_simp; done), fun X hX => by have hx1 := hX.1; have hx2 := hX.2.1; have hx3 := hX.2.2.1; have hm1 := cell_of_block (o := 1) hX.2.2.2 rfl; have hm2 := cell_of_block (o := 2) hX.2.2.2 rfl; have hm5 := cell_of_block (o := 5) hX.2.2.2 rfl; clear hX; first | (go_simp; done) | (go_simp; rfl)⟩) hSS ?_
    refine wpAnyH_take (i := 4) (v := .pointer (some ⟨S, 1, none⟩)) rfl (by decide +kernel) (by decide +kernel) (by decide +kernel) (fun _ _ _ h => leaves_put (by decide) h) (.inl ⟨by first | rfl | (go_simp; done), fun X hX => by have hx1 := hX.1; have hx2 := hX.2.1; have hx3 := hX.2.2.1; have hm1 := cell_of_block (o := 1) hX.2.2.2 rfl; have hm2 := cell_of_block (o := 2) hX.2.2.2 rfl; have hm5 := cell_of_block (o := 5) hX.2.2.2 rfl; clear hX; first | (go_simp; done) | (go_simp; rfl)⟩) hSS ?_
    refine wpAnyH_take (i := 5) (v := .pointer (some ⟨S, 1, none⟩)) rfl (by decide +kernel) (by decide +kernel) (by decide +kernel) (fun _ _ _ h => leaves_put (by decide) h) (.inl ⟨by first | rfl | (go_simp; done), fun X hX => by have hx1 := hX.1; have hx2 := hX.2.1; have hx3 := hX.2.2.1; have hm1 := cell_of_block (o := 1) hX.2.2.2 rfl; have hm2 := cell_of_block (o := 2) hX.2.2.2 rfl; have hm5 := cell_of_block (o := 5) hX.2.2.2 rfl; clear hX; first | (go_simp; done) | (go_simp; rfl)⟩) hSS ?_
    refine wpAnyH_take (i := 6) (v := .int .i64 f0) rfl (by decide +kernel) (by decide +kernel) (by decide +kernel) (fun _ _ _ h => leaves_put (by decide) h) (.inl ⟨by first | rfl | (go_simp; done), fun X hX => by have hx1 := hX.1; have hx2 := hX.2.1; have hx3 := hX.2.2.1; have hm1 := cell_of_block (o := 1) hX.2.2.2 rfl; have hm2 := cell_of_block (o := 2) hX.2.2.2 rfl; have hm5 := cell_of_block (o := 5) hX.2.2.2 rfl; clear hX; first | (go_simp; done) | (go_simp; rfl)⟩) hSS ?_
    refine wpAnyH_take (i := 7) (v := .pointer (some ⟨S, 0, none⟩)) rfl (by decide +kernel) (by decide +kernel) (by decide +kernel) (fun _ _ _ h => leaves_put (by decide) h) (.inl ⟨by first | rfl | (go_simp; done), fun X hX => by have hx1 := hX.1; have hx2 := hX.2.1; have hx3 := hX.2.2.1; have hm1 := cell_of_block (o := 1) hX.2.2.2 rfl; have hm2 := cell_of_block (o := 2) hX.2.2.2 rfl; have hm5 := cell_of_block (o := 5) hX.2.2.2 rfl; clear hX; first | (go_simp; done) | (go_simp; rfl)⟩) hSS ?_
    refine wpAnyH_take (i := 8) (v := .pointer (some ⟨S, 0, none⟩)) rfl (by decide +kernel) (by decide +kernel) (by decide +kernel) (fun _ _ _ h => leaves_put (by decide) h) (.inl ⟨by first | rfl | (go_simp; done), fun X hX => by have hx1 := hX.1; have hx2 := hX.2.1; have hx3 := hX.2.2.1; have hm1 := cell_of_block (o := 1) hX.2.2.2 rfl; have hm2 := cell_of_block (o := 2) hX.2.2.2 rfl; have hm5 := cell_of_block (o := 5) hX.2.2.2 rfl; clear hX; first | (go_simp; done) | (go_simp; rfl)⟩) hSS ?_
    refine wpAnyH_take (i := 9) (v := .pointer (some ⟨S, 5, none⟩)) rfl (by decide +kernel) (by decide +kernel) (by decide +kernel) (fun _ _ _ h => leaves_put (by decide) h) (.inl ⟨by first | rfl | (go_simp; done), fun X hX => by have hx1 := hX.1; have hx2 := hX.2.1; have hx3 := hX.2.2.1; have hm1 := cell_of_block (o := 1) hX.2.2.2 rfl; have hm2 := cell_of_block (o := 2) hX.2.2.2 rfl; have hm5 := cell_of_block (o := 5) hX.2.2.2 rfl; clear hX; first | (go_simp; done) | (go_simp; rfl)⟩) hSS ?_
    refine wpAnyH_take (i := 10) (v := .int .i64 gen) rfl (by decide +kernel) (by decide +kernel) (by decide +kernel) (fun _ _ _ h => leaves_put (by decide) h) (.inl ⟨by first | rfl | (go_simp; done), fun X hX => by have hx1 := hX.1; have hx2 := hX.2.1; have hx3 := hX.2.2.1; have hm1 := cell_of_block (o := 1) hX.2.2.2 rfl; have hm2 := cell_of_block (o := 2) hX.2.2.2 rfl; have hm5 := cell_of_block (o := 5) hX.2.2.2 rfl; clear hX; first | (go_simp; done) | (go_simp; rfl)⟩) hSS ?_
    refine wpAnyH_take (i := 11) (v := .int .i64 (gen + 1)) rfl (by decide +kernel) (by decide +kernel) (by decide +kernel) (fun _ _ _ h => leaves_put (by decide) h) (.inl ⟨by first | rfl | (go_simp; done), fun X hX => by have hx1 := hX.1; have hx2 := hX.2.1; have hx3 := hX.2.2.1; have hm1 := cell_of_block (o := 1) hX.2.2.2 rfl; have hm2 := cell_of_block (o := 2) hX.2.2.2 rfl; have hm5 := cell_of_block (o := 5) hX.2.2.2 rfl; clear hX; first | (go_simp; done) | (go_simp; rfl)⟩) hSS ?_
    refine wpAnyH_take (i := 12) (v := .slice ad n c) rfl (by decide +kernel) (by decide +kernel) (by decide +kernel) (fun _ _ _ h => leaves_put (by decide) h) (.inl ⟨by first | rfl | (go_simp; done), fun X hX => by have hx1 := hX.1; have hx2 := hX.2.1; have hx3 := hX.2.2.1; have hm1 := cell_of_block (o := 1) hX.2.2.2 rfl; have hm2 := cell_of_block (o := 2) hX.2.2.2 rfl; have hm5 := cell_of_block (o := 5) hX.2.2.2 rfl; clear hX; first | (go_simp; done) | (go_simp; rfl)⟩) hSS ?_
    refine wpAnyH_take (i := 13) (v := .agg #[.int .i64 (gen + 1), .slice ad n c]) rfl (by decide +kernel) (by decide +kernel) (by decide +kernel) (fun _ _ _ h => leaves_put (by decide) h) (.inl ⟨by first | rfl | (go_simp; done), fun X hX => by have hx1 := hX.1; have hx2 := hX.2.1; have hx3 := hX.2.2.1; have hm1 := cell_of_block (o := 1) hX.2.2.2 rfl; have hm2 := cell_of_block (o := 2) hX.2.2.2 rfl; have hm5 := cell_of_block (o := 5) hX.2.2.2 rfl; clear hX; first | (go_simp; done) | (go_simp; rfl)⟩) hSS ?_
    clear hwg hwg2
    have KW := Lib.hid (write_sn (w := W1.drew) (S := S) (D := D) (G := G) (ds := ds) (cell_of_block (o := 0) hmS rfl) HSG.out (HD2.out.below (Below.refl _ _).drew) (fun j hj => by have h1 := HGB.out j hj; have h2 := HSZ.out; show j < W1.heap.size; have h3 := Nat.lt_of_lt_of_eq (Nat.lt_of_lt_of_le h1 (Nat.le_add_right _ 4)) h2.symm; exact h3) f0 (gen + 1) (by have := HG.out; omega) ad n c bs (HT2.out.below (Below.refl _ _).drew))
    refine anyH_call (i := 14) (by decide +kernel) rfl (by first | rfl | (go_simp; done)) (by go_simp) KW.out ?_
    rintro e w3 ⟨rfl, hd3, hf3⟩
    have hsz := HSZ.out
    have hgb := HGB.out
    have hf3 : Fr G W1 w3 := drew_fr hf3
    have hd3 : Dk w3 D (fun j => G j ∨ W1.heap.size ≤ j) _ := hd3
    have hbs3 : Boxed w3 w.heap.size 66 (.pointer (some ⟨S, 0, none⟩)) := (hf3.block _ (by omega) (fun h => by have := hgb _ h; omega)).trans hbs
    have hbx3 : Boxed w3 (w.heap.size + 1) 22 (.slice ad n c) := (hf3.block _ (by omega) (fun h => by have := hgb _ h; omega)).trans hbx
    have hbb3 : Boxed w3 (w.heap.size + 2) 25 (.int .i64 0) := (hf3.block _ (by omega) (fun h => by have := hgb _ h; omega)).trans hbb
    have hbt3 : Boxed w3 (w.heap.size + 3) 3 (.int .i64 0) := (hf3.block _ (by omega) (fun h => by have := hgb _ h; omega)).trans hbt
    have hmS3 := (hf3.block S (by have := HSL.out; omega) HSG.out).trans hmS
    refine ⟨_, rfl, ⟨hbs3.cell, hbx3.cell, hbt3.cell, hmS3⟩, ?_⟩
    obtain ⟨y, hy⟩ : ∃ y, y = writeF ds f0 (gen + 1, bs) := ⟨_, rfl⟩
    rw [← hy] at hd3 ⊢
    obtain ⟨d1, k1⟩ := y
    simp only at hd3 ⊢
    have cb3 := hbb3.cell
    have fb3 := hbb3.frozen
    have hw4 := (wrote_refl (show w3.heap[w.heap.size + 2]? = some (.cells #[.int .i64 0] 25 (0, 0)) from hbb3)).set 0 (.int .i64 k1)
    have hbs4 : Boxed (w3.setCell ⟨w.heap.size + 2, 0, none⟩ (.int .i64 k1)) w.heap.size 66 (.pointer (some ⟨S, 0, none⟩)) := (hw4.rest _ (by omega)).trans hbs3
    have hbx4 : Boxed (w3.setCell ⟨w.heap.size + 2, 0, none⟩ (.int .i64 k1)) (w.heap.size + 1) 22 (.slice ad n c) := (hw4.rest _ (by omega)).trans hbx3
    have hbt4 : Boxed (w3.setCell ⟨w.heap.size + 2, 0, none⟩ (.int .i64 k1)) (w.heap.size + 3) 3 (.int .i64 0) := (hw4.rest _ (by omega)).trans hbt3
    have hmS4 := (hw4.rest S (by have := HSL.out; omega)).trans hmS3
    refine anyH_store (i := 15) (w' := w3.setCell ⟨w.heap.size + 2, 0, none⟩ (.int .i64 k1)) (by decide +kernel) rfl (by first | rfl | (go_simp; done)) (by first | (go_simp; done) | (go_simp; rfl)) ⟨hbs4.cell, hbx4.cell, hbt4.cell, hmS4⟩ ?_
    refine wpAnyH_done (by decide +kernel) ?_ _
    have HW4 := Lib.hid hw4
    have HF3 := Lib.hid hf3
    have HD3 := Lib.hid hd3
    have HY := Lib.hid hy
    have HM4 := Lib.hid hmS4
    have HBS4 := Lib.hid hbs4
    have HBX4 := Lib.hid hbx4
    have HBT4 := Lib.hid hbt4
    have cb4 := cell_of_block (o := 0) hw4.there rfl
    have HCB4 := Lib.hid cb4
    clear hSS hd3 hf3 hbs3 hbx3 hbb3 hbt3 hmS3 hy cb3 fb3 hw4 hbs4 hbx4 hbt4 hmS4 hbs hbx hbb hbt hmS KW cb4 hsz hgb
    generalize w3.setCell ⟨w.heap.size + 2, 0, none⟩ (.int .i64 k1) = w4 at *
    go_simp
    go_wp2
    refine leaves_cons (f := 71) (args := #[.pointer (some ⟨w.heap.size + 2, 0, none⟩), .pointer (some ⟨w.heap.size, 0, none⟩), .pointer (some ⟨w.heap.size + 3, 0, none⟩), .pointer (some ⟨w.heap.size + 1, 0, none⟩)]) (by simp) (by simp [go_sem]) ?_
    have hsl := HSL.out
    have hsz := HSZ.out
    have hs3 := HF3.out.size
    have hs4 := HW4.out.size
    by_cases hk : k1 = 0
    case neg =>
      refine (save1_bad hk HCB4.out HBS4.out.cell (by omega) HM4.out .returning).mono ?_
      rintro e u' w5 ⟨rfl, rfl, hw5⟩
      have hcb5 := (World.cell?_of_block (a := ⟨w.heap.size + 2, 0, none⟩) (hw5.rest _ (by show w.heap.size + 2 ≠ S; omega))).trans HCB4.out
      have hsv : saveF ⟨f0, f1, last, text, gen, false⟩ ds bs = (⟨f0, f1, last, text, gen, true⟩, d1, k1) := by
        unfold saveF
        simp only
        rw [if_neg HL0.out, ← HY.out, if_pos hk]
      have hb4 : ∀ j, j < w.heap.size → ¬ G j → w4.heap[j]? = w.heap[j]? := fun j hj hg => (HW4.out.rest j (by omega)).trans ((HF3.out.block j (by omega) hg).trans (HB2W.out.block j hj))
      have hd4 : Dk w4 D (fun j => G j ∨ W1.heap.size ≤ j) d1 := Fr.dk (G := fun j => j = w.heap.size + 2) HD3.out ⟨HW4.out.os, HW4.out.tape, HW4.out.output, Nat.le_of_eq HW4.out.size.symm, fun j _ hj => HW4.out.rest j hj⟩ (fun j hj _ e => by rcases hj with h | h; have := HGB.out j h; omega; omega)
      have hfr5 : Fr (fun j => j = S) w4 w5 := ⟨hw5.os, hw5.tape, hw5.output, Nat.le_of_eq hw5.size.symm, fun j _ hj => hw5.rest j hj⟩
      refine ⟨.int .i64 k1, ?_, ?_⟩
      · clear hb4 hd4 hfr5 hsv hw5 hk
        simp [results, Tryd.results57, go_sem]; try go_simp
      · unfold SaveEnd
        rw [hsv]
        refine ⟨rfl, SD.of (F := F) (G := fun j => G j ∨ W1.heap.size ≤ j) ⟨HM.out, ⟨HG.out.1, by show gen ≤ _; have := HG.out; omega⟩, HLI.out.1, HLI.out.2, tv, hw5.there, HTX.out.keep (by have := hw5.size; omega) fun j hj hlt => (hw5.rest j hj.2).trans (hb4 j hlt (HFG.out j hj.1))⟩ (Fr.dk hd4 hfr5 (fun j hj _ e => by rcases hj with h | h; exact HSG.out (e ▸ h); omega)) (fun j _ hj hg => by rcases hg with h | h; exact HFG.out j hj h; have := (HHH.out j (.inl hj)).2; omega) (fun j _ hj => .inl (HHH.out j (.inl hj)).1) (fun j _ hj => hj.elim (fun h => .inl (HHH.out j (.inr h)).1) (fun h => .inr (by omega))), HFA.out _ _ _ _ _ HF3.out HW4.out hfr5⟩
    case pos =>
      subst hk
      refine (save1_ok HLEN.out HCB4.out HBS4.out.cell HBT4.out.cell HBX4.out.cell (by omega) (by omega) (by omega) HM4.out HG.out (fun w' hw' => HX.out w' (HFA.out _ _ _ _ _ HF3.out HW4.out ⟨hw'.os, hw'.tape, hw'.output, Nat.le_of_eq hw'.size.symm, fun j _ hj => hw'.rest j hj⟩)) .returning).mono ?_
      rintro e u' w5 ⟨rfl, rfl, v5, ho5, hm5, hf5⟩
      have hcb5 := (World.cell?_of_block (a := ⟨w.heap.size + 2, 0, none⟩) (hf5.block _ (by show w.heap.size + 2 < w4.heap.size; omega) (by show ¬ (w.heap.size + 2 = S); omega))).trans HCB4.out
      have hsv : saveF ⟨f0, f1, last, text, gen, false⟩ ds bs = (⟨f0, f1, 0, bs, gen + 1, false⟩, d1, 0) := by
        unfold saveF
        simp only
        rw [if_neg HL0.out, ← HY.out, if_neg (by simp), if_neg HL0.out]
      have hb4 : ∀ j, j < w.heap.size → ¬ G j → w4.heap[j]? = w.heap[j]? := fun j hj hg => (HW4.out.rest j (by omega)).trans ((HF3.out.block j (by omega) hg).trans (HB2W.out.block j hj))
      have hd4 : Dk w4 D (fun j => G j ∨ W1.heap.size ≤ j) d1 := Fr.dk (G := fun j => j = w.heap.size + 2) HD3.out ⟨HW4.out.os, HW4.out.tape, HW4.out.output, Nat.le_of_eq HW4.out.size.symm, fun j _ hj => HW4.out.rest j hj⟩ (fun j hj _ e => by rcases hj with h | h; have := HGB.out j h; omega; omega)
      refine ⟨.int .i64 0, ?_, ?_⟩
      · clear hb4 hd4 hf5 hsv hm5 ho5
        simp [results, Tryd.results57, go_sem]; try go_simp
      · unfold SaveEnd
        rw [hsv]
        have hs5 := hf5.size
        refine ⟨rfl, SD.of (F := fun j => F j ∨ w4.heap.size ≤ j) (G := fun j => (G j ∨ W1.heap.size ≤ j) ∧ j < w4.heap.size) ⟨.inl HM.out, ⟨by show 0 ≤ gen + 1; have := HG.out; omega, by show gen + 1 ≤ _; have := HG.out; omega⟩, by simp only; decide, HLEN.out, v5, hm5, (TxtF.of_own ho5).more fun j _ hj => ⟨.inr hj, by omega⟩⟩ (Fr.dk hd4.bound hf5 (fun j hj _ e => by rcases hj.1 with h | h; exact HSG.out (e ▸ h); omega)) (fun j _ hj hg => by
          rcases hj with hj | hj
          · rcases hg.1 with h | h
            · exact HFG.out j hj h
            · have := (HHH.out j (.inl hj)).2; omega
          · have := hg.2; omega) (fun j _ hj => hj.elim (fun h => .inl (HHH.out j (.inl h)).1) (fun h => .inr (by omega))) (fun j _ hj => hj.1.elim (fun h => .inl (HHH.out j (.inr h)).1) (fun h => .inr (by omega))), HFA.out _ _ _ _ _ HF3.out HW4.out hf5⟩
end Go.Proofs.YtomhfnaekjmjnaaDoor
