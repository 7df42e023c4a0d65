/- A pair of files with a text: where it lies, what its readings answer; and of one that nobody made. No condition. The one record that bytes are; the last text, and where it is. Condition: errors.errorType reads as the program's text lays it. A pair of files, opened. Condition: errors.errorType reads as the program's text lays it. A file written anew: one record, safe. No condition but the lengths' bounds. -/
import Derived.Test.YtomhfnaekjmjnaaDoorJnA
import Derived.BigQuiet
namespace Go.Proofs.YtomhfnaekjmjnaaDoor
set_option linter.unusedVariables false
section
open Go.ChangeShapes Go.WideShapes Go.ChangeAt Go.RowKit
attribute [local go_sem ↓] Go.wp_at_zero Go.wp_at_succ comesTo_value_eq comesTo_skip_eq comesTo_enter_eq

theorem Fr.sub' {F H : Nat → Prop} {w w' : World} (h : Fr F w w') (hF : ∀ j, F j → H j) : Fr H w w' := ⟨h.os, h.tape, h.output, h.size, fun j hj hn => h.block j hj (fun hf => hn (hF j hf))⟩
/-- what it holds: the files, which has the last one (0, 1, or -1), the text, its generation, whether the disk failed -/
structure SS where
  f0 : Int
  f1 : Int
  last : Int
  text : List Int
  gen : Int
  failed : Bool
def snCells (D : Nat) (st : SS) (v : Value) : Array Value := #[.pointer (some ⟨D, 0, none⟩), .int .i64 st.f0, .int .i64 st.f1, .int .i64 st.last, v, .int .i64 st.gen, .bool st.failed]
/-- a text that lies among F's blocks -/
structure TxtF (w : World) (F : Nat → Prop) (v : Value) (xs : List Int) : Prop where
  at_ : TxtAt w v xs
  blk : ∀ ad n c p, v = .slice ad n c → ad = some p → 0 < xs.length → F p.block ∧ p.block < w.heap.size
theorem TxtAt.of_block {w w' : World} {v : Value} {xs : List Int} (h : TxtAt w v xs) (hb : ∀ ad n c p, v = .slice ad n c → ad = some p → 0 < xs.length → w'.heap[p.block]? = w.heap[p.block]?) : TxtAt w' v xs := by
  rcases h with ⟨b, o, c, e, h1, h2⟩ | ⟨h0, a, c, e, hn⟩
  · by_cases hl : 0 < xs.length
    · have hbb := hb _ _ _ _ e rfl hl
      exact .inl ⟨b, o, c, e, h1, ⟨fun k hk => (World.cell?_of_block (a := ⟨b, o + k, none⟩) hbb).trans (h2.cell k hk), h2.lo, h2.hi, h2.len⟩⟩
    · exact .inl ⟨b, o, c, e, h1, ⟨fun k hk => by omega, h2.lo, h2.hi, h2.len⟩⟩
  · exact .inr ⟨h0, a, c, e, hn⟩
theorem TxtF.keep {w w' : World} {F : Nat → Prop} {v : Value} {xs : List Int} (h : TxtF w F v xs) (hs : w.heap.size ≤ w'.heap.size) (hk : ∀ j, F j → j < w.heap.size → w'.heap[j]? = w.heap[j]?) : TxtF w' F v xs :=
  ⟨h.at_.of_block fun ad n c p e1 e2 hl => hk _ (h.blk ad n c p e1 e2 hl).1 (h.blk ad n c p e1 e2 hl).2, fun ad n c p e1 e2 hl => ⟨(h.blk ad n c p e1 e2 hl).1, Nat.lt_of_lt_of_le (h.blk ad n c p e1 e2 hl).2 hs⟩⟩
theorem TxtF.more {w : World} {F G : Nat → Prop} {v : Value} {xs : List Int} (h : TxtF w F v xs) (hG : ∀ j, j < w.heap.size → F j → G j) : TxtF w G v xs := ⟨h.at_, fun ad n c p e1 e2 hl => ⟨hG _ (h.blk ad n c p e1 e2 hl).2 (h.blk ad n c p e1 e2 hl).1, (h.blk ad n c p e1 e2 hl).2⟩⟩
theorem TxtF.nil {w : World} {F : Nat → Prop} : TxtF w F (.slice none 0 0) [] := ⟨.inr ⟨rfl, none, 0, rfl, fun _ => rfl⟩, fun ad n c p e1 e2 hl => by simp at hl⟩
theorem TxtF.of_own {w : World} {B : Nat} {v : Value} {xs : List Int} (h : OwnTxt w B v xs) : TxtF w (fun j => B ≤ j) v xs :=
  ⟨h.at, fun ad n c p e1 e2 hl => by
    subst e1
    subst e2
    exact ⟨h.blockGe (g := p.block) rfl, ownBlock_lt h (g := p.block) rfl⟩⟩
theorem TxtF.of_alone {w : World} {B : Nat} {v : Value} {xs : List Int} (h : AloneT w B v xs) : TxtF w (fun j => B ≤ j) v xs := by
  refine ⟨h.at, fun ad n c p e1 e2 hl => ?_⟩
  obtain ⟨a, cp, e, ho⟩ := h
  rw [e1] at e
  injection e with e3 e4 e5
  subst e3
  subst e2
  exact ⟨ho.blockGe (g := p.block) rfl, ownBlock_lt ho (g := p.block) rfl⟩
/-- in block S, over the disk in block D, among F's blocks -/
structure Sn (w : World) (S D : Nat) (F : Nat → Prop) (st : SS) : Prop where
  mem : F S
  gen_in : 0 ≤ st.gen ∧ st.gen ≤ 9223372036854775807
  last_in : -1 ≤ st.last ∧ st.last ≤ 1
  len : st.text.length ≤ 65536
  at_ : ∃ v, w.heap[S]? = some (.cells (snCells D st v) 87 (0, 0)) ∧ TxtF w (fun j => F j ∧ j ≠ S) v st.text
theorem Sn.lt {w : World} {S D : Nat} {F : Nat → Prop} {st : SS} (h : Sn w S D F st) : S < w.heap.size := by
  obtain ⟨_, _, _, _, v, hb, _⟩ := h
  exact (Array.getElem?_eq_some_iff.1 hb).1
theorem Sn.keep {w w' : World} {S D : Nat} {F : Nat → Prop} {st : SS} (h : Sn w S D F st) (hs : w.heap.size ≤ w'.heap.size) (hk : ∀ j, F j → j < w.heap.size → w'.heap[j]? = w.heap[j]?) : Sn w' S D F st := by
  obtain ⟨hm, hg, hl, hn, v, hb, ht⟩ := h
  exact ⟨hm, hg, hl, hn, v, (hk S hm (Array.getElem?_eq_some_iff.1 hb).1).trans hb, ht.keep hs fun j hj => hk j hj.1⟩
theorem Sn.below {w w' : World} {S D : Nat} {F : Nat → Prop} {st : SS} (h : Sn w S D F st) (hb : Below w.heap.size w w') : Sn w' S D F st := h.keep hb.size fun j _ hj => hb.block j hj
theorem Sn.bound {w : World} {S D : Nat} {F : Nat → Prop} {st : SS} (h : Sn w S D F st) : Sn w S D (fun j => F j ∧ j < w.heap.size) st := by
  have hlt := h.lt
  obtain ⟨hm, hg, hl, hn, v, hb, ht⟩ := h
  exact ⟨⟨hm, hlt⟩, hg, hl, hn, v, hb, ht.more fun j hj h => ⟨⟨h.1, hj⟩, h.2⟩⟩
/-- it and its disk, among H's blocks -/
def SD (w : World) (S D : Nat) (H : Nat → Prop) (st : SS) (ds : DS) : Prop := ∃ F G, Sn w S D F st ∧ Dk w D G ds ∧ (∀ j, F j → ¬ G j) ∧ ∀ j, F j ∨ G j → H j ∧ j < w.heap.size
theorem SD.of {w : World} {S D : Nat} {F G H : Nat → Prop} {st : SS} {ds : DS} (h : Sn w S D F st) (k : Dk w D G ds) (hFG : ∀ j, j < w.heap.size → F j → ¬ G j) (hF : ∀ j, j < w.heap.size → F j → H j) (hG : ∀ j, j < w.heap.size → G j → H j) : SD w S D H st ds :=
  ⟨_, _, h.bound, k.bound, fun j hj hg => hFG j hj.2 hj.1 hg.1, fun j hj => hj.elim (fun hj => ⟨hF j hj.2 hj.1, hj.2⟩) (fun hj => ⟨hG j hj.2 hj.1, hj.2⟩)⟩
theorem SD.fr {w w' : World} {S D : Nat} {H K : Nat → Prop} {st : SS} {ds : DS} (h : SD w S D H st ds) (hf : Fr K w w') (hK : ∀ j, j < w.heap.size → H j → ¬ K j) : SD w' S D H st ds := by
  obtain ⟨F, G, hl, hd, hFG, hH⟩ := h
  exact ⟨F, G, hl.keep hf.size fun j hj hlt => hf.block j hlt (hK j hlt (hH j (.inl hj)).1), Fr.dk hd hf (fun j hj hlt => hK j hlt (hH j (.inr hj)).1), hFG, fun j hj => ⟨(hH j hj).1, Nat.lt_of_lt_of_le (hH j hj).2 hf.size⟩⟩
theorem SD.below {w w' : World} {S D : Nat} {H : Nat → Prop} {st : SS} {ds : DS} (h : SD w S D H st ds) (hb : Below w.heap.size w w') : SD w' S D H st ds := h.fr (K := fun _ => False) (Fr.of_below hb) (fun _ _ _ => id)
theorem SD.more {w : World} {S D : Nat} {H K : Nat → Prop} {st : SS} {ds : DS} (h : SD w S D H st ds) (hK : ∀ j, j < w.heap.size → H j → K j) : SD w S D K st ds := by
  obtain ⟨F, G, hl, hd, hFG, hH⟩ := h
  exact ⟨F, G, hl, hd, hFG, fun j hj => ⟨hK j (hH j hj).2 (hH j hj).1, (hH j hj).2⟩⟩
/-- none -/
def NoSn (w : World) (v : Value) : Prop := v = .pointer none ∨ ∃ S, v = .pointer (some ⟨S, 0, none⟩) ∧ w.heap[S]? = some (.cells #[.pointer none, .int .i64 0, .int .i64 0, .int .i64 0, .slice none 0 0, .int .i64 0, .bool false] 87 (0, 0))
theorem NoSn.below {w w' : World} {v : Value} (h : NoSn w v) (hb : Below w.heap.size w w') : NoSn w' v := by
  rcases h with h | ⟨P, h, hP⟩
  · exact .inl h
  · exact .inr ⟨P, h, (hb.block _ (Array.getElem?_eq_some_iff.1 hP).1).trans hP⟩
theorem there_sno {w : World} {v : Value} (h : NoSn w v) : Calls Tryd.prog 56 #[v] w fun e w' => e = .returned (.bool false) ∧ w = w' := by
  rcases h with rfl | ⟨P, rfl, hP⟩
  · go_enter Tryd.func56, Tryd.ntmps56
    go_wp2
    go_ret
    exact ⟨rfl, rfl⟩
  · have c0 := cell_of_block (o := 0) hP rfl
    go_enter Tryd.func56, Tryd.ntmps56
    go_wp2
    go_ret
    exact ⟨rfl, rfl⟩
theorem there_syes {w : World} {P D : Nat} (h : w.cell? ⟨P, 0, none⟩ = some (.pointer (some ⟨D, 0, none⟩))) : Calls Tryd.prog 56 #[.pointer (some ⟨P, 0, none⟩)] w fun e w' => e = .returned (.bool true) ∧ w = w' := by
  go_enter Tryd.func56, Tryd.ntmps56
  go_wp2
  go_ret
  exact ⟨rfl, rfl⟩
theorem Sn.made {w : World} {P D : Nat} {F : Nat → Prop} {st : SS} (h : Sn w P D F st) : w.cell? ⟨P, 0, none⟩ = some (.pointer (some ⟨D, 0, none⟩)) := by
  obtain ⟨_, _, _, _, v, hb, _⟩ := h
  exact cell_of_block hb rfl
theorem last_no {w : World} {v : Value} (h : NoSn w v) : Calls Tryd.prog 31 #[v] w fun e w' => e = .returned (.tuple #[.slice none 0 0, .int .i64 0]) ∧ w = w' := by
  have K := Lib.hid (there_sno h)
  clear h
  go_enter Tryd.func31, Tryd.ntmps31
  go_wp2_with fail
  refine K.out.mono ?_
  rintro e w' ⟨rfl, rfl⟩
  go_wp2
  go_ret2
  exact ⟨rfl, rfl⟩
theorem slot_no {w : World} {v : Value} (h : NoSn w v) : Calls Tryd.prog 35 #[v] w fun e w' => e = .returned (.int .i64 (-1)) ∧ w = w' := by
  have K := Lib.hid (there_sno h)
  clear h
  go_enter Tryd.func35, Tryd.ntmps35
  go_wp2_with fail
  refine K.out.mono ?_
  rintro e w' ⟨rfl, rfl⟩
  go_wp2
  go_ret
  exact ⟨rfl, rfl⟩
theorem save_no {w : World} {v : Value} (h : NoSn w v) (a : Option Addr) (n c : Nat) : Calls Tryd.prog 30 #[v, .slice a n c] w fun e w' => e = .returned (.int .i64 1) ∧ w = w' := by
  have K := Lib.hid (there_sno h)
  clear h
  go_enter Tryd.func30, Tryd.ntmps30
  go_wp2_with fail
  refine K.out.mono ?_
  rintro e w' ⟨rfl, rfl⟩
  go_wp2
  go_ret
  exact ⟨rfl, rfl⟩
end
section
open Go.ChangeShapes Go.WideShapes Go.ChangeAt Go.RowKit
attribute [local go_sem ↓] Go.wp_at_zero Go.wp_at_succ comesTo_value_eq comesTo_skip_eq comesTo_enter_eq

/-- the one record that bytes are, if they are one -/
def onlyF (zs : List Int) : Option JRec := if (parseF zs).1.length = 1 ∧ (parseF zs).2 = zs.length then (parseF zs).1.head? else none
def onlyG (zs : List Int) : JRec := (onlyF zs).getD (0, [])
def OnlyEnd (w : World) (zs : List Int) (e : Ending) (w' : World) : Prop := ∃ ad n c, e = .returned (.tuple #[.agg #[.int .i64 (onlyG zs).1, .slice ad n c], .bool (onlyF zs).isSome]) ∧ AloneT w' w.heap.size (.slice ad n c) (onlyG zs).2 ∧ Below w.heap.size w w'
set_option maxRecDepth 100000 in
set_option maxHeartbeats 1000000 in
theorem only_any {w : World} {ad : Option Addr} {n c : Nat} {zs : List Int} (hT : TxtAt w (.slice ad n c) zs) (hc : n ≤ c) (hl : zs.length ≤ 1099511627775) (hE : ErrAt w) :
    Calls Tryd.prog 55 #[.slice ad n c] w fun e w' => OnlyEnd w zs e w' := by
  have hA := below_alloc (Below.refl _ w) (.cells #[.int .i64 0, .slice none 0 0] 24)
  have n0 := World.alloc_heap_new w (.cells #[.int .i64 0, .slice none 0 0] 24)
  have K := Lib.hid (parse_any (hT.below hA) hc hl (hE.below hA))
  have hn : n = zs.length := by
    rcases hT with ⟨b', o', c', e, h1, h2⟩ | ⟨rfl, a, cp, e, _⟩ <;> (cases e; rfl)
  have HA := Lib.hid hA
  have HN0 := Lib.hid n0
  have HLT := Lib.hid (Array.getElem?_eq_some_iff.1 n0).1
  have HN := Lib.hid hn
  have hLl := hl
  clear hT hE hA n0 hn hc hl
  go_enter Tryd.func55, Tryd.ntmps55
  go_upto_region 1 with fail
  generalize w.alloc (.cells #[.int .i64 0, .slice none 0 0] 24) = W0 at *
  go_wp2_with fail
  refine K.out.mono ?_
  rintro e W1 ⟨v, l, rfl, hrec, hmap, hb1⟩
  have m0 := (hb1.block _ HLT.out).trans HN0.out
  have r0 := cell_of_block (o := 0) m0 rfl
  have r1 := cell_of_block (o := 1) m0 rfl
  have f0 := free_of_block 0 m0
  have f1 := free_of_block 1 m0
  obtain ⟨q, hq⟩ : ∃ q, q = l.length := ⟨_, rfl⟩
  obtain ⟨p, hp⟩ : ∃ p, p = (parseF zs).2 := ⟨_, rfl⟩
  have hlq : (parseF zs).1.length = q := by rw [hq, ← hmap, List.length_map]
  obtain ⟨va, vc, rfl⟩ : ∃ a c, v = .slice a q c := by
    rcases hrec.form with ⟨h, rfl⟩ | ⟨g, c, rfl, _⟩
    · rw [h] at hq; exact ⟨none, 0, by rw [hq]; rfl⟩
    · exact ⟨_, _, by rw [hq]⟩
  rw [← hp]
  have HREC := Lib.hid hrec
  have HMAP := Lib.hid (And.intro hmap (And.intro hq hlq))
  have HP := Lib.hid hp
  have HB1 := Lib.hid (HA.out.trans (hb1.mono HA.out.size))
  have HM0 := Lib.hid m0
  have hno : ∀ W, Below w.heap.size w W → onlyF zs = none → OnlyEnd w zs (.returned (.tuple #[.agg #[.int .i64 0, .slice none 0 0], .bool false])) W := fun W hW h => by
    refine ⟨none, 0, 0, ?_, ?_, hW⟩
    · unfold onlyG; rw [h]; rfl
    · unfold onlyG; rw [h]; exact AloneT.nil
  have HNO := Lib.hid hno
  have hw1 := ((wrote_refl m0).set 0 (.int .i64 0)).set 1 (.slice none 0 0)
  have HW1 := Lib.hid hw1
  clear hrec hmap hb1 hq hlq hp m0 hno hw1 K
  by_cases h1 : q = 1
  case neg =>
    have hd : ((q : Int) == 1) = false := by rw [beq_eq_false_iff_ne]; omega
    have hd2 : ((q : Int) != 1) = true := by rw [bne, hd]; rfl
    have hd3 : ¬ q = 1 := h1
    have HZ := Lib.hid (show onlyF zs = none from by unfold onlyF; rw [if_neg (fun h => h1 (by rw [← HMAP.out.2.2]; exact h.1))])
    clear h1
    go_wp2_with fail
    have e0 := cell_of_block (o := 0) HW1.out.there rfl
    have e1 := cell_of_block (o := 1) HW1.out.there rfl
    clear r0 r1 f0 f1
    generalize (W1.setCell ⟨w.heap.size, 0, none⟩ (.int .i64 0)).setCell ⟨w.heap.size, 1, none⟩ (.slice none 0 0) = W2 at *
    exact bodyPost_ret (v := .tuple #[.agg #[.int .i64 0, .slice none 0 0], .bool false]) (by simp [results, Tryd.results55, go_sem]; try go_simp) rfl (HNO.out _ (HW1.out.below HB1.out (Nat.le_refl _)) HZ.out)
  case pos =>
  subst h1
  by_cases h2 : p = n
  case neg =>
    have hd : ((p : Int) == (n : Int)) = false := by rw [beq_eq_false_iff_ne]; omega
    have hd2 : ((p : Int) != (n : Int)) = true := by rw [bne, hd]; rfl
    have hd3 : ¬ p = n := h2
    have HZ := Lib.hid (show onlyF zs = none from by unfold onlyF; rw [if_neg (fun h => h2 (by rw [HP.out, HN.out]; exact h.2))])
    clear h2
    go_wp2_with fail
    have e0 := cell_of_block (o := 0) HW1.out.there rfl
    have e1 := cell_of_block (o := 1) HW1.out.there rfl
    clear r0 r1 f0 f1
    generalize (W1.setCell ⟨w.heap.size, 0, none⟩ (.int .i64 0)).setCell ⟨w.heap.size, 1, none⟩ (.slice none 0 0) = W2 at *
    exact bodyPost_ret (v := .tuple #[.agg #[.int .i64 0, .slice none 0 0], .bool false]) (by simp [results, Tryd.results55, go_sem]; try go_simp) rfl (HNO.out _ (HW1.out.below HB1.out (Nat.le_refl _)) HZ.out)
  case pos =>
  subst h2
  obtain ⟨x, hx⟩ : ∃ x, l[0]? = some x := ⟨_, List.getElem?_eq_getElem (by have := HMAP.out.2.1; omega)⟩
  have hof : onlyF zs = some x.rc := by
    unfold onlyF
    rw [if_pos ⟨HMAP.out.2.2, by rw [← HP.out, HN.out]⟩, ← HMAP.out.1]
    cases l with
    | nil => cases hx
    | cons y l => simp at hx; subst hx; rfl
  obtain ⟨g1, rfl, z1, c0, c1⟩ : ∃ g1, va = some ⟨g1, 0, none⟩ ∧ g1 < W1.heap.size ∧ W1.cell? ⟨g1, 0, none⟩ = some (.int .i64 x.g) ∧ W1.cell? ⟨g1, 1, none⟩ = some x.val := by
    rcases HREC.out.form with ⟨h, _⟩ | ⟨g', c', h1, _, h3, h4⟩
    · rw [h] at hx; cases hx
    · injection h1 with h1 _ _
      have h5 := h4 0 x hx
      exact ⟨g', h1, h3, h5.1, h5.2⟩
  have htx := HREC.out.txt x (List.mem_of_getElem? hx)
  obtain ⟨xg, xb, xa⟩ := x
  unfold RV.val at c1 htx
  simp only at c0 c1 htx
  have hw2 := ((wrote_refl HM0.out).set 0 (.int .i64 xg)).set 1 (.slice xa xb.length xb.length)
  have HOF := Lib.hid hof
  have HTX := Lib.hid htx
  have HW2 := Lib.hid hw2
  obtain ⟨xn, hxn⟩ : ∃ xn, xn = xb.length := ⟨_, rfl⟩
  have HXN := Lib.hid hxn
  rw [← hxn] at c1 HW2
  clear hof htx hw2 hx hxn
  go_wp2_with fail
  have e0 := cell_of_block (o := 0) HW2.out.there rfl
  have e1 := cell_of_block (o := 1) HW2.out.there rfl
  clear r0 r1 f0 f1 c0 c1
  generalize (W1.setCell ⟨w.heap.size, 0, none⟩ (.int .i64 xg)).setCell ⟨w.heap.size, 1, none⟩ (.slice xa xn xn) = W2 at *
  refine bodyPost_ret (v := .tuple #[.agg #[.int .i64 xg, .slice xa xn xn], .bool true]) (by simp [results, Tryd.results55, go_sem]; try go_simp) rfl ⟨xa, xn, xn, ?_, ?_, HW2.out.below HB1.out (Nat.le_refl _)⟩
  · unfold onlyG; rw [HOF.out]; rfl
  · unfold onlyG
    rw [HOF.out]
    have h5 := (HTX.out.base (B' := w.heap.size) (Nat.le_of_lt HLT.out)).of_block (w' := W2) fun g cs m hg hB => HW2.out.rest g (fun e => by
      have h6 := HM0.out
      rw [← e, hg] at h6
      cases h6)
    rw [HXN.out]
    exact h5
set_option maxRecDepth 100000 in
theorem last_sn {w : World} {S D : Nat} {F : Nat → Prop} {st : SS} (h : Sn w S D F st) :
    Calls Tryd.prog 31 #[.pointer (some ⟨S, 0, none⟩)] w fun e w' => ∃ u, e = .returned (.tuple #[u, .int .i64 st.gen]) ∧ OwnTxt w' w.heap.size u st.text ∧ Below w.heap.size w w' := by
  have hmx : Tryd.prog.follows .mixedOrders = true := by kernel_rfl
  have K := Lib.hid (there_syes h.made)
  have hlt := h.lt
  obtain ⟨_, _, _, hln, v, hb, ht⟩ := h
  obtain ⟨va, vn, vc, rfl⟩ : ∃ a n c, v = .slice a n c := by
    rcases ht.at_ with ⟨b, o, c, rfl, _⟩ | ⟨_, a, c, rfl, _⟩
    · exact ⟨_, _, _, rfl⟩
    · exact ⟨_, _, _, rfl⟩
  have KC := Lib.hid (clone_bytes (ht.at_.below (Below.refl w.heap.size w).drew) (by omega))
  obtain ⟨f0, f1, last, text, gen, failed⟩ := st
  unfold snCells at hb
  simp only at hb KC ⊢
  have HLT := Lib.hid hlt
  clear ht hln hlt
  go_enter Tryd.func31, Tryd.ntmps31
  go_wp2_with fail
  refine K.out.mono ?_
  rintro e w' ⟨rfl, rfl⟩
  go_upto_region 3 with fail
  refine wp_region_held (S := fun X => X.heap[S]? = some (.cells #[.pointer (some ⟨D, 0, none⟩), .int .i64 f0, .int .i64 f1, .int .i64 last, .slice va vn vc, .int .i64 gen, .bool failed] 87 (0, 0))) hmx ?_
  change wpAnyH _ _ _ _ _ 11 _ _ w.drew
  have hSS : w.drew.heap[S]? = some (.cells #[.pointer (some ⟨D, 0, none⟩), .int .i64 f0, .int .i64 f1, .int .i64 last, .slice va vn vc, .int .i64 gen, .bool failed] 87 (0, 0)) := hb
  refine wpAnyH_take (i := 0) (v := .pointer (some ⟨S, 0, none⟩)) rfl (by decide +kernel) (by decide +kernel) (by decide +kernel) (fun _ _ _ h => h) (.inl ⟨by first | rfl | (go_simp; done), fun X hX => by have hx4 := cell_of_block (o := 4) hX rfl; have hx5 := cell_of_block (o := 5) hX rfl; clear hX; first | (go_simp; done) | (go_simp; rfl)⟩) hSS ?_
  refine wpAnyH_take (i := 1) (v := .pointer (some ⟨S, 0, none⟩)) rfl (by decide +kernel) (by decide +kernel) (by decide +kernel) (fun _ _ _ h => h) (.inl ⟨by first | rfl | (go_simp; done), fun X hX => by have hx4 := cell_of_block (o := 4) hX rfl; have hx5 := cell_of_block (o := 5) hX rfl; clear hX; first | (go_simp; done) | (go_simp; rfl)⟩) hSS ?_
  refine wpAnyH_take (i := 2) (v := .pointer (some ⟨S, 4, none⟩)) rfl (by decide +kernel) (by decide +kernel) (by decide +kernel) (fun _ _ _ h => h) (.inl ⟨by first | rfl | (go_simp; done), fun X hX => by have hx4 := cell_of_block (o := 4) hX rfl; have hx5 := cell_of_block (o := 5) hX rfl; clear hX; first | (go_simp; done) | (go_simp; rfl)⟩) hSS ?_
  refine wpAnyH_take (i := 3) (v := .slice va vn vc) rfl (by decide +kernel) (by decide +kernel) (by decide +kernel) (fun _ _ _ h => h) (.inl ⟨by first | rfl | (go_simp; done), fun X hX => by have hx4 := cell_of_block (o := 4) hX rfl; have hx5 := cell_of_block (o := 5) hX rfl; clear hX; first | (go_simp; done) | (go_simp; rfl)⟩) hSS ?_
  refine wpAnyH_take (i := 5) (v := .pointer (some ⟨S, 0, none⟩)) rfl (by decide +kernel) (by decide +kernel) (by decide +kernel) (fun _ _ _ h => h) (.inl ⟨by first | rfl | (go_simp; done), fun X hX => by have hx4 := cell_of_block (o := 4) hX rfl; have hx5 := cell_of_block (o := 5) hX rfl; clear hX; first | (go_simp; done) | (go_simp; rfl)⟩) hSS ?_
  refine wpAnyH_take (i := 6) (v := .pointer (some ⟨S, 0, none⟩)) rfl (by decide +kernel) (by decide +kernel) (by decide +kernel) (fun _ _ _ h => h) (.inl ⟨by first | rfl | (go_simp; done), fun X hX => by have hx4 := cell_of_block (o := 4) hX rfl; have hx5 := cell_of_block (o := 5) hX rfl; clear hX; first | (go_simp; done) | (go_simp; rfl)⟩) hSS ?_
  refine wpAnyH_take (i := 7) (v := .pointer (some ⟨S, 5, none⟩)) rfl (by decide +kernel) (by decide +kernel) (by decide +kernel) (fun _ _ _ h => h) (.inl ⟨by first | rfl | (go_simp; done), fun X hX => by have hx4 := cell_of_block (o := 4) hX rfl; have hx5 := cell_of_block (o := 5) hX rfl; clear hX; first | (go_simp; done) | (go_simp; rfl)⟩) hSS ?_
  refine wpAnyH_take (i := 8) (v := .int .i64 gen) rfl (by decide +kernel) (by decide +kernel) (by decide +kernel) (fun _ _ _ h => h) (.inl ⟨by first | rfl | (go_simp; done), fun X hX => by have hx4 := cell_of_block (o := 4) hX rfl; have hx5 := cell_of_block (o := 5) hX rfl; clear hX; first | (go_simp; done) | (go_simp; rfl)⟩) hSS ?_
  refine anyH_call (i := 4) (by decide +kernel) rfl (by first | rfl | (go_simp; done)) (by go_simp) KC.out ?_
  rintro e w2 ⟨u, rfl, ho, hb2, _⟩
  have hS2 : w2.heap[S]? = some (.cells #[.pointer (some ⟨D, 0, none⟩), .int .i64 f0, .int .i64 f1, .int .i64 last, .slice va vn vc, .int .i64 gen, .bool failed] 87 (0, 0)) := (hb2.block _ HLT.out).trans hSS
  refine ⟨_, rfl, hS2, ?_⟩
  obtain ⟨ua, un, uc, rfl⟩ : ∃ a n c, u = .slice a n c := by
    rcases ho.form with ⟨rfl, _⟩ | ⟨g, c, rfl, _⟩
    · exact ⟨_, _, _, rfl⟩
    · exact ⟨_, _, _, rfl⟩
  refine wpAnyH_take (i := 9) (v := .slice ua un uc) rfl (by decide +kernel) (by decide +kernel) (by decide +kernel) (fun _ _ _ h => h) (.inl ⟨by first | rfl | (go_simp; done), fun X hX => by clear hX; first | (go_simp; done) | (go_simp; rfl)⟩) hS2 ?_
  refine wpAnyH_take (i := 10) (v := .int .i64 gen) rfl (by decide +kernel) (by decide +kernel) (by decide +kernel) (fun _ _ _ h => h) (.inl ⟨by first | rfl | (go_simp; done), fun X hX => by clear hX; first | (go_simp; done) | (go_simp; rfl)⟩) hS2 ?_
  refine wpAnyH_done (by decide +kernel) ?_ _
  have HO := Lib.hid ho
  have HB := Lib.hid ((Below.refl w.heap.size w).drew.trans hb2)
  clear hS2 hSS hb2 ho hb
  go_simp
  go_wp2_with fail
  go_ret2
  exact ⟨_, rfl, HO.out, HB.out⟩
set_option maxRecDepth 100000 in
theorem slot_sn {w : World} {S D : Nat} {F : Nat → Prop} {st : SS} (h : Sn w S D F st) :
    Calls Tryd.prog 35 #[.pointer (some ⟨S, 0, none⟩)] w fun e w' => e = .returned (.int .i64 (if st.last = -1 then -1 else if st.last = 0 then st.f0 else st.f1)) ∧ Below w.heap.size w w' := by
  have K := Lib.hid (there_syes h.made)
  obtain ⟨_, _, hlst, hln, v, hb, ht⟩ := h
  clear ht
  obtain ⟨f0, f1, last, text, gen, failed⟩ := st
  unfold snCells at hb
  simp only at hb hlst ⊢
  rcases (by omega : last = -1 ∨ last = 0 ∨ last = 1) with rfl | rfl | rfl
  · have c3 := cell_of_block (o := 3) hb rfl
    rw [if_pos rfl]
    clear hb
    go_enter Tryd.func35, Tryd.ntmps35
    go_wp2_with fail
    refine K.out.mono ?_
    rintro e w' ⟨rfl, rfl⟩
    go_wp2_with fail
    go_ret
    exact ⟨rfl, Below.refl _ _⟩
  · have c1 := cell_of_block (o := 1) hb rfl
    have c3 := cell_of_block (o := 3) hb rfl
    rw [if_neg (by decide), if_pos rfl]
    clear hb
    go_enter Tryd.func35, Tryd.ntmps35
    go_wp2_with fail
    refine K.out.mono ?_
    rintro e w' ⟨rfl, rfl⟩
    go_upto_region 3 with fail
    go_quiet (fail)
    have HBq := Lib.hid (below_drewN (Below.refl w.heap.size w) nq)
    go_wp2_with fail
    go_ret
    exact ⟨rfl, HBq.out⟩
  · have c2 := cell_of_block (o := 2) hb rfl
    have c3 := cell_of_block (o := 3) hb rfl
    rw [if_neg (by decide), if_neg (by decide)]
    clear hb
    go_enter Tryd.func35, Tryd.ntmps35
    go_wp2_with fail
    refine K.out.mono ?_
    rintro e w' ⟨rfl, rfl⟩
    go_upto_region 3 with fail
    go_quiet (fail)
    have HBq := Lib.hid (below_drewN (Below.refl w.heap.size w) nq)
    go_wp2_with fail
    go_ret
    exact ⟨rfl, HBq.out⟩
end
section
open Go.ChangeShapes Go.WideShapes Go.ChangeAt Go.RowKit
attribute [local go_sem ↓] Go.wp_at_zero Go.wp_at_succ comesTo_value_eq comesTo_skip_eq comesTo_enter_eq

/-- a file looked at -/
def stepS (st : SS) (i : Int) (xs : List Int) : SS :=
  match onlyF xs with
  | none => st
  | some r => if st.gen < r.1 then { st with last := i, text := r.2, gen := r.1 } else st
def openS (ds : DS) (f0 f1 : Int) : SS := stepS (stepS ⟨f0, f1, -1, [], 0, false⟩ 0 (ds.b f0.toNat)) 1 (ds.b f1.toNat)
theorem only_good {zs : List Int} (hz : ∀ x ∈ zs, 0 ≤ x ∧ x ≤ 255) {r : JRec} (h : onlyF zs = some r) : GoodR r := by
  unfold onlyF at h
  split at h
  · exact parse_good zs.length zs (Nat.le_refl _) hz r (by
      cases hp : (parseF zs).1 with
      | nil => rw [hp] at h; cases h
      | cons x l => rw [hp] at h; simp at h; subst h; exact List.mem_cons_self)
  · cases h
def SOpenEnd (w : World) (D : Nat) (ds : DS) (f0 f1 : Int) (e : Ending) (w' : World) : Prop :=
  Below w.heap.size w w' ∧
    ((f0 = f1 ∧ e = .returned (.tuple #[.pointer none, .int .i64 2])) ∨
     (f0 ≠ f1 ∧ wrongF ds.down f0 ≠ 0 ∧ e = .returned (.tuple #[.pointer none, .int .i64 (wrongF ds.down f0)])) ∨
     (f0 ≠ f1 ∧ wrongF ds.down f0 = 0 ∧ wrongF ds.down f1 ≠ 0 ∧ e = .returned (.tuple #[.pointer none, .int .i64 (wrongF ds.down f1)])) ∨
     (f0 ≠ f1 ∧ wrongF ds.down f0 = 0 ∧ wrongF ds.down f1 = 0 ∧ ∃ S, e = .returned (.tuple #[.pointer (some ⟨S, 0, none⟩), .int .i64 0]) ∧ Sn w' S D (fun j => w.heap.size ≤ j) (openS ds f0 f1)))
/-- no disk -/
theorem sopen_no {w : World} (f0 f1 : Int) (hf : f0 ≠ f1) : Calls Tryd.prog 29 #[.pointer none, .int .i64 f0, .int .i64 f1] w fun e w' => e = .returned (.tuple #[.pointer none, .int .i64 1]) ∧ Below w.heap.size w w' := by
  have hd : (f0 == f1) = false := by simpa using hf
  have hA := below_alloc (Below.refl _ w) (.cells #[.pointer none, .int .i64 f0, .int .i64 f1, .int .i64 (-1), .slice none 0 0, .int .i64 0, .bool false] 87)
  have nS := World.alloc_heap_new w (.cells #[.pointer none, .int .i64 f0, .int .i64 f1, .int .i64 (-1), .slice none 0 0, .int .i64 0, .bool false] 87)
  have KR := Lib.hid (fun W : World => read_no (w := W) (v := .pointer none) (.inl rfl) (.int .i64 f0))
  have c1 := cell_of_block (o := 1) nS rfl
  have c2 := cell_of_block (o := 2) nS rfl
  have HA := Lib.hid hA
  have hix : ∀ W : World, Sem.run Tryd.prog (Instr.index 85 (.agg #[.int .i64 f0, .int .i64 f1]) (.int .i64 0)) W = .ok (.int .i64 f0) W := fun W => by kernel_rfl
  clear nS hA hf
  go_enter Tryd.func29, Tryd.ntmps29
  go_upto_region 4 with fail
  generalize w.alloc (.cells #[.pointer none, .int .i64 f0, .int .i64 f1, .int .i64 (-1), .slice none 0 0, .int .i64 0, .bool false] 87) = W0 at *
  go_wp2_with fail
  clear c1 c2 hd
  go_loopw [28] (fun i wr => i = .int .i64 0 ∧ wr = W0) (fun i _ => 2 - (intOf i).toNat)
  case atStart => exact ⟨rfl, rfl⟩
  case round =>
    obtain ⟨rfl, rfl⟩ := hrel
    go_wp2_with fail
    refine (KR.out _).mono ?_
    rintro e w' ⟨rfl, rfl⟩
    go_wp2_with fail
    go_ret2
    exact ⟨rfl, HA.out⟩
/-- what is known behind so many files -/
def stN (ds : DS) (f0 f1 : Int) : Nat → SS
  | 0 => ⟨f0, f1, -1, [], 0, false⟩
  | 1 => stepS ⟨f0, f1, -1, [], 0, false⟩ 0 (ds.b f0.toNat)
  | _ => openS ds f0 f1
theorem stN_succ (ds : DS) (f0 f1 : Int) (k : Nat) (hk : k < 2) : stN ds f0 f1 (k + 1) = stepS (stN ds f0 f1 k) k (ds.b (if k = 0 then f0 else f1).toNat) := by
  rcases (by omega : k = 0 ∨ k = 1) with rfl | rfl <;> rfl
theorem stepS_files (st : SS) (i : Int) (xs : List Int) : (stepS st i xs).f0 = st.f0 ∧ (stepS st i xs).f1 = st.f1 ∧ (stepS st i xs).failed = st.failed := by
  unfold stepS
  split
  · exact ⟨rfl, rfl, rfl⟩
  · split <;> exact ⟨rfl, rfl, rfl⟩
theorem stN_files (ds : DS) (f0 f1 : Int) : ∀ k, (stN ds f0 f1 k).f0 = f0 ∧ (stN ds f0 f1 k).f1 = f1 ∧ (stN ds f0 f1 k).failed = false
  | 0 => ⟨rfl, rfl, rfl⟩
  | 1 => stepS_files _ _ _
  | k + 2 => by
    have h1 := stepS_files (stepS ⟨f0, f1, -1, [], 0, false⟩ 0 (ds.b f0.toNat)) 1 (ds.b f1.toNat)
    have h2 := stepS_files ⟨f0, f1, -1, [], 0, false⟩ 0 (ds.b f0.toNat)
    exact ⟨h1.1.trans h2.1, h1.2.1.trans h2.2.1, h1.2.2.trans h2.2.2⟩
set_option maxRecDepth 100000 in
set_option maxHeartbeats 4000000 in
theorem sopen_any {w : World} {D : Nat} {G : Nat → Prop} {ds : DS} (h : Dk w D G ds) (hE : ErrAt w) (f0 f1 : Int) :
    Calls Tryd.prog 29 #[.pointer (some ⟨D, 0, none⟩), .int .i64 f0, .int .i64 f1] w fun e w' => SOpenEnd w D ds f0 f1 e w' := by
  by_cases hf : f0 = f1
  · subst hf
    have hd : (f0 == f0) = true := by simp
    clear h hE
    go_enter Tryd.func29, Tryd.ntmps29
    go_wp2_with fail
    go_ret2
    exact ⟨Below.refl _ _, .inl ⟨rfl, rfl⟩⟩
  have hd : (f0 == f1) = false := by simpa using hf
  have hA := below_alloc (Below.refl _ w) (.cells #[.pointer (some ⟨D, 0, none⟩), .int .i64 f0, .int .i64 f1, .int .i64 (-1), .slice none 0 0, .int .i64 0, .bool false] 87)
  have nS := World.alloc_heap_new w (.cells #[.pointer (some ⟨D, 0, none⟩), .int .i64 f0, .int .i64 f1, .int .i64 (-1), .slice none 0 0, .int .i64 0, .bool false] 87)
  have HF := Lib.hid hf
  have HD := Lib.hid h
  have HE := Lib.hid hE
  have HA := Lib.hid hA
  have c1 := cell_of_block (o := 1) nS rfl
  have c2 := cell_of_block (o := 2) nS rfl
  have HS0 := Lib.hid (show Sn (w.alloc (.cells #[.pointer (some ⟨D, 0, none⟩), .int .i64 f0, .int .i64 f1, .int .i64 (-1), .slice none 0 0, .int .i64 0, .bool false] 87)) w.heap.size D (fun j => w.heap.size ≤ j) (stN ds f0 f1 0) from ⟨Nat.le_refl _, ⟨by simp [stN], by simp [stN]⟩, ⟨by simp [stN], by simp [stN]⟩, by simp [stN], _, nS, TxtF.nil⟩)
  have HFT := Lib.hid h.fits
  clear h hE hA nS hf
  go_enter Tryd.func29, Tryd.ntmps29
  go_upto_region 4 with fail
  generalize w.alloc (.cells #[.pointer (some ⟨D, 0, none⟩), .int .i64 f0, .int .i64 f1, .int .i64 (-1), .slice none 0 0, .int .i64 0, .bool false] 87) = W0 at *
  go_wp2_with fail
  clear c1 c2 hd
  go_loopw [28] (fun i wr => ∃ k : Nat, k ≤ 2 ∧ i = .int .i64 k ∧ Sn wr w.heap.size D (fun j => w.heap.size ≤ j) (stN ds f0 f1 k) ∧ Below w.heap.size w wr ∧ (1 ≤ k → wrongF ds.down f0 = 0) ∧ (2 ≤ k → wrongF ds.down f1 = 0)) (fun i _ => 2 - (intOf i).toNat)
  case atStart => exact ⟨0, by decide, rfl, HS0.out, HA.out, fun h => by omega, fun h => by omega⟩
  case round =>
    obtain ⟨k, hk, rfl, hs, hb, hk1, hk2⟩ := hrel
    have HSN := Lib.hid hs
    have HB := Lib.hid hb
    have HK := Lib.hid (And.intro hk1 hk2)
    clear hs hk1 hk2 HS0
    by_cases hlt : k < 2
    case neg =>
      obtain rfl : k = 2 := by omega
      clear hb
      go_wp2_with fail
      go_ret2
      exact ⟨HB.out, .inr (.inr (.inr ⟨HF.out, HK.out.1 (by decide), HK.out.2 (by decide), _, rfl, HSN.out⟩))⟩
    case pos =>
    have hdl : decide ((k : Int) < 2) = true := decide_eq_true (by omega)
    have hix : ∀ W : World, Sem.run Tryd.prog (Instr.index 85 (.agg #[.int .i64 f0, .int .i64 f1]) (.int .i64 k)) W = .ok (.int .i64 (if k = 0 then f0 else f1)) W := fun W => by
      rcases (by omega : k = 0 ∨ k = 1) with rfl | rfl
      · kernel_rfl
      · kernel_rfl
    have KR := Lib.hid (read_dk (HD.out.below hb) (if k = 0 then f0 else f1))
    obtain ⟨f, hfk⟩ : ∃ f, f = (if k = 0 then f0 else f1) := ⟨_, rfl⟩
    rw [← hfk] at hix KR
    have HFK := Lib.hid hfk
    have hwk : IntKind.i64.wrap ((k : Int) + 1) = ((k + 1 : Nat) : Int) := by rw [IntKind.wrap_i64]; omega
    have HKL := Lib.hid hlt
    clear hb hfk
    by_cases hw : wrongF ds.down f = 0
    case neg =>
      obtain ⟨code, hcode⟩ : ∃ c, c = wrongF ds.down f := ⟨_, rfl⟩
      have HC := Lib.hid hcode
      have HW := Lib.hid hw
      have hb1 : (code == 0) = false := by rw [hcode]; simpa using hw
      have hb2 : (code != 0) = true := by rw [bne, hb1]; rfl
      rw [← hcode] at KR
      clear hcode hw
      go_wp2_with fail
      refine KR.out.mono ?_
      rintro e w1 ⟨u, rfl, ho, hb3, _⟩
      obtain ⟨ua, un, uc, rfl⟩ : ∃ a n c, u = .slice a n c := by
        rcases ho.form with ⟨rfl, _⟩ | ⟨g, c, rfl, _⟩
        · exact ⟨_, _, _, rfl⟩
        · exact ⟨_, _, _, rfl⟩
      have HB3 := Lib.hid hb3
      clear ho hb3 KR
      go_wp2_with fail
      go_ret2
      have hBB := HB.out.trans (HB3.out.mono HB.out.size)
      have hC := HC.out
      have hW := HW.out
      have hF := HFK.out
      rcases (by have := HKL.out; omega : k = 0 ∨ k = 1) with rfl | rfl
      · rw [if_pos rfl] at hF
        subst hF
        exact ⟨hBB, .inr (.inl ⟨HF.out, hW, by rw [← hC]; rfl⟩)⟩
      · rw [if_neg (by decide)] at hF
        subst hF
        exact ⟨hBB, .inr (.inr (.inl ⟨HF.out, HK.out.1 (by decide), hW, by rw [← hC]; rfl⟩))⟩
    case pos =>
    have HW := Lib.hid hw
    unfold ReadEnd at KR
    rw [hw, if_pos rfl] at KR
    obtain ⟨xs, hxs⟩ : ∃ xs, xs = ds.b f.toNat := ⟨_, rfl⟩
    rw [← hxs] at KR
    have hxl : xs.length ≤ 1048576 := by rw [hxs]; exact HFT.out _ (wrongF_ok hw)
    have HXS := Lib.hid hxs
    have HXL := Lib.hid hxl
    clear hw hxs hxl
    go_wp2_with fail
    refine KR.out.mono ?_
    rintro e w1 ⟨u, rfl, ho, hb3, _⟩
    have hBB := HB.out.trans (hb3.mono HB.out.size)
    obtain ⟨ua, uc, rfl⟩ : ∃ a c, u = .slice a xs.length c := by
      rcases ho.form with ⟨rfl, rfl⟩ | ⟨g, c, rfl, _⟩
      · exact ⟨_, _, rfl⟩
      · exact ⟨_, _, rfl⟩
    have KO := Lib.hid (only_any ho.at ho.capLe (by have := HXL.out; omega) (HE.out.below hBB))
    have HBB := Lib.hid hBB
    have HS1 := Lib.hid (HSN.out.below hb3)
    have HX8 := Lib.hid ho.byte
    clear ho hb3 hBB KR
    go_wp2_with fail
    refine KO.out.mono ?_
    rintro e w2 ⟨ra, rn, rc, rfl, hal, hb4⟩
    have hB4 := HBB.out.trans (hb4.mono HBB.out.size)
    have hbA := below_alloc (Below.refl _ w2) (.cells #[.int .i64 (onlyG xs).1, .slice ra rn rc] 24)
    have nR := World.alloc_heap_new w2 (.cells #[.int .i64 (onlyG xs).1, .slice ra rn rc] 24)
    have hB5 := hB4.trans (hbA.mono hB4.size)
    have HB5 := Lib.hid hB5
    have HS2 := Lib.hid ((HS1.out.below hb4).below hbA)
    have HAL := Lib.hid (And.intro (hal.below hbA) hb4.size)
    have HNR := Lib.hid nR
    have HSZ := Lib.hid (And.intro HBB.out.size (And.intro hb4.size hbA.size))
    obtain ⟨gr, hgr⟩ : ∃ g, g = (onlyG xs).1 := ⟨_, rfl⟩
    have HGR := Lib.hid hgr
    rw [← hgr] at HB5 HS2 HAL HNR HSZ ⊢
    clear hal hb4 hB4 hbA nR hB5 hgr KO
    go_upto_region 11 with fail
    generalize w2.alloc (.cells #[.int .i64 gr, .slice ra rn rc] 24) = W5 at *
    have hsucc := stN_succ ds f0 f1 k HKL.out
    rw [← HFK.out, ← HXS.out] at hsucc
    have HSUC := Lib.hid hsucc
    clear hsucc
    obtain ⟨hm, hgi, hli, hln, v, hbS, ht⟩ := HS2.out
    obtain ⟨st, hst⟩ : ∃ st, st = stN ds f0 f1 k := ⟨_, rfl⟩
    rw [← hst] at HSUC hbS hgi hli hln ht
    have HST := Lib.hid hst
    have HTT := Lib.hid ht
    unfold snCells at hbS
    have r0 := cell_of_block (o := 0) HNR.out rfl
    have r1 := cell_of_block (o := 1) HNR.out rfl
    have c5 := cell_of_block (o := 5) hbS rfl
    cases ho : onlyF xs with
    | none =>
      have hgn : stN ds f0 f1 (k + 1) = st := by rw [HSUC.out]; unfold stepS; rw [ho]
      have HGN := Lib.hid hgn
      simp only [Option.isSome_none]
      clear hgn ho hm hgi hli hln hbS ht hst
      go_quiet (fail)
      have HBq := Lib.hid (below_drewN (Below.refl W5.heap.size W5) nq)
      go_wp2_with fail
      go_roundw
      case rel =>
        have hq := HBq.out
        have hkk := HK.out
        have hkl := HKL.out
        refine ⟨k + 1, by omega, by go_num, by rw [HGN.out, HST.out]; exact HS2.out.below hq, HB5.out.trans (hq.mono HB5.out.size), fun _ => ?_, fun h2 => ?_⟩
        · rcases (by omega : k = 0 ∨ k = 1) with rfl | rfl
          · have := HFK.out; rw [if_pos rfl] at this; rw [← this]; exact HW.out
          · exact hkk.1 (by decide)
        · have hk1 : k = 1 := by omega
          have := HFK.out; rw [if_neg (by omega)] at this; rw [← this]; exact HW.out
      case measure => have := HKL.out; simp [intOf]; omega
    | some r =>
      have hgr : gr = r.1 := by rw [HGR.out]; unfold onlyG; rw [ho]; rfl
      have hrg := only_good HX8.out ho
      have hal := HAL.out.1
      rw [show (onlyG xs).2 = r.2 by unfold onlyG; rw [ho]; rfl] at hal
      simp only [Option.isSome_some]
      by_cases hgt : st.gen < gr
      case neg =>
        have hgn : stN ds f0 f1 (k + 1) = st := by rw [HSUC.out]; unfold stepS; rw [ho]; simp only; rw [if_neg (by rw [← hgr]; exact hgt)]
        have HGN := Lib.hid hgn
        have hdg : decide (gr > st.gen) = false := decide_eq_false (by omega)
        have hdg2 : decide (st.gen < gr) = false := decide_eq_false hgt
        clear hgn ho hm hgi hli hln hbS ht hst hgr hrg hal hgt
        go_quiet (fail)
        have HBq := Lib.hid (below_drewN (Below.refl W5.heap.size W5) nq)
        go_wp2_with fail
        go_roundw
        case rel =>
          have hq := HBq.out
          have hkk := HK.out
          have hkl := HKL.out
          refine ⟨k + 1, by omega, by go_num, by rw [HGN.out, HST.out]; exact HS2.out.below hq, HB5.out.trans (hq.mono HB5.out.size), fun _ => ?_, fun h2 => ?_⟩
          · rcases (by omega : k = 0 ∨ k = 1) with rfl | rfl
            · have := HFK.out; rw [if_pos rfl] at this; rw [← this]; exact HW.out
            · exact hkk.1 (by decide)
          · have hk1 : k = 1 := by omega
            have := HFK.out; rw [if_neg (by omega)] at this; rw [← this]; exact HW.out
        case measure => have := HKL.out; simp [intOf]; omega
      case pos =>
        have hgn : stN ds f0 f1 (k + 1) = { st with last := (k : Int), text := r.2, gen := r.1 } := by rw [HSUC.out]; unfold stepS; rw [ho]; simp only; rw [if_pos (by rw [← hgr]; exact hgt)]
        have HGN := Lib.hid hgn
        have hdg : decide (gr > st.gen) = true := decide_eq_true (by omega)
        have hdg2 : decide (st.gen < gr) = true := decide_eq_true hgt
        have hfl := stN_files ds f0 f1 k
        rw [← hst] at hfl
        have HALR := Lib.hid hal
        have HRG := Lib.hid (And.intro hrg (And.intro hgr (And.intro hgi hgt)))
        have HFL := Lib.hid hfl
        obtain ⟨z0, z1, z2, z3, z4, z5⟩ := st
        simp only at hbS hdg hdg2 c5 HFL HRG hgi hli hfl
        have hwb := hbS
        have HWB := Lib.hid hwb
        have hltS := (Array.getElem?_eq_some_iff.1 hbS).1
        have HLS := Lib.hid hltS
        clear hgn ho hm hgi hli hln ht hst hgr hrg hal hgt hfl hwb
        go_quiet (fail)
        have HBq := Lib.hid (below_drewN (Below.refl W5.heap.size W5) nq)
        have hbS6 : (W5.drewN nq).heap[w.heap.size]? = _ := (HBq.out.block _ hltS).trans hbS
        have nR6 := (HBq.out.block _ (Array.getElem?_eq_some_iff.1 HNR.out).1).trans HNR.out
        have HS6 := Lib.hid hbS6
        clear r0 r1 c5 hbS
        generalize W5.drewN nq = W6 at *
        have r0 := cell_of_block (o := 0) nR6 rfl
        have r1 := cell_of_block (o := 1) nR6 rfl
        have c3 := cell_of_block (o := 3) hbS6 rfl
        have c4 := cell_of_block (o := 4) hbS6 rfl
        have c5 := cell_of_block (o := 5) hbS6 rfl
        have q3 := free_of_block 3 hbS6
        have q4 := free_of_block 4 hbS6
        have q5 := free_of_block 5 hbS6
        clear hbS6 nR6 hltS
        go_upto_region 12 with fail
        go_region
        have hw7 := (((wrote_refl HS6.out).set 3 (.int .i64 (k : Int))).set 4 (.slice ra rn rc)).set 5 (.int .i64 gr)
        have HW7 := Lib.hid hw7
        clear r0 r1 c3 c4 c5 q3 q4 q5 hw7
        generalize ((W6.setCell ⟨w.heap.size, 3, none⟩ (.int .i64 (k : Int))).setCell ⟨w.heap.size, 4, none⟩ (.slice ra rn rc)).setCell ⟨w.heap.size, 5, none⟩ (.int .i64 gr) = W7 at *
        go_wp2_with fail
        go_roundw
        case rel =>
          have hq := HBq.out
          have hkk := HK.out
          have hkl := HKL.out
          have hb6 := HB5.out.trans (hq.mono HB5.out.size)
          have hb7 : Below w.heap.size w W7 := HW7.out.below hb6 (Nat.le_refl _)
          have hb8 : Below w.heap.size w W7.drew := hb7.drew
          have hal6 := HALR.out.below hq
          have hs3 := HSZ.out
          have hls := HS1.out.lt
          have hfl := HFL.out
          have hsnew : Sn W7 w.heap.size D (fun j => w.heap.size ≤ j) { (⟨z0, z1, z2, z3, z4, z5⟩ : SS) with last := (k : Int), text := r.2, gen := r.1 } := by
            refine ⟨Nat.le_refl _, ⟨by show 0 ≤ r.1; have := HRG.out; omega, HRG.out.1.gen.2⟩, ⟨by show -1 ≤ (k : Int); omega, by show (k : Int) ≤ 1; omega⟩, HRG.out.1.len, .slice ra rn rc, ?_, ?_⟩
            · unfold snCells
              simp only
              rw [← HRG.out.2.1]
              exact HW7.out.there
            · have h9 := hal6.of_block (w' := W7) fun g cs m hg hB => HW7.out.rest g (fun e => by omega)
              refine (TxtF.of_alone h9).more fun j _ hj => ⟨by omega, by omega⟩
          refine ⟨k + 1, by omega, by go_num, by rw [HGN.out]; exact hsnew.below (Below.refl _ _).drew, hb8, fun _ => ?_, fun h2 => ?_⟩
          · rcases (by omega : k = 0 ∨ k = 1) with rfl | rfl
            · have := HFK.out; rw [if_pos rfl] at this; rw [← this]; exact HW.out
            · exact hkk.1 (by decide)
          · have hk1 : k = 1 := by omega
            have := HFK.out; rw [if_neg (by omega)] at this; rw [← this]; exact HW.out
        case measure => have := HKL.out; simp [intOf]; omega
end
section
open Go.ChangeShapes Go.WideShapes Go.ChangeAt Go.RowKit
attribute [local go_sem ↓] Go.wp_at_zero Go.wp_at_succ comesTo_value_eq comesTo_skip_eq comesTo_enter_eq

def writeF (ds : DS) (f : Int) (r : JRec) : DS × Int :=
  if 65536 < r.2.length then (ds, 3)
  else if (callF 2 ds f []).2 ≠ 0 then ((callF 2 ds f []).1, (callF 2 ds f []).2)
  else if (callF 0 (callF 2 ds f []).1 f (frameF r)).2 ≠ 0 then ((callF 0 (callF 2 ds f []).1 f (frameF r)).1, (callF 0 (callF 2 ds f []).1 f (frameF r)).2)
  else ((callF 1 (callF 0 (callF 2 ds f []).1 f (frameF r)).1 f []).1, (callF 1 (callF 0 (callF 2 ds f []).1 f (frameF r)).1 f []).2)
def WriteEnd (w : World) (D : Nat) (G : Nat → Prop) (x : DS × Int) (e : Ending) (w' : World) : Prop :=
  e = .returned (.int .i64 x.2) ∧ Dk w' D (fun j => G j ∨ w.heap.size ≤ j) x.1 ∧ Fr G w w'
set_option maxRecDepth 100000 in
set_option maxHeartbeats 4000000 in
theorem write_sn {w : World} {S D : Nat} {G : Nat → Prop} {ds : DS} (c0 : w.cell? ⟨S, 0, none⟩ = some (.pointer (some ⟨D, 0, none⟩))) (hSG : ¬ G S) (hd : Dk w D G ds) (hGb : ∀ j, G j → j < w.heap.size) (f : Int) (g : Int) (hg : -9223372036854775808 ≤ g ∧ g ≤ 9223372036854775807) (ra : Option Addr) (rn rc : Nat) (bs : List Int) (hT : TxtAt w (.slice ra rn rc) bs) :
    Calls Tryd.prog 72 #[.pointer (some ⟨S, 0, none⟩), .int .i64 f, .agg #[.int .i64 g, .slice ra rn rc]] w fun e w' => WriteEnd w D G (writeF ds f (g, bs)) e w' := by
  have hS := World.block_lt_of_cell? w _ c0
  have hb0 := below_alloc (Below.refl _ w) (.cells #[.int .i64 g, .slice ra rn rc] 24)
  have n0 := World.alloc_heap_new w (.cells #[.int .i64 g, .slice ra rn rc] 24)
  have KF := Lib.hid (frame_any g hg (hT.below hb0))
  have HD0 := Lib.hid (hd.below hb0)
  have x0 := cell_of_block (o := 0) n0 rfl
  have x1 := cell_of_block (o := 1) n0 rfl
  have HB0 := Lib.hid hb0
  have HGB := Lib.hid hGb
  have HSG := Lib.hid (And.intro hSG hS)
  have HC0 := Lib.hid ((hb0.cell (p := ⟨S, 0, none⟩) hS).trans c0)
  have HGR := Lib.hid (fun (hl : bs.length ≤ 65536) => show GoodR (g, bs) from ⟨hg, hl, fun x hx => by
      obtain ⟨k, hk, rfl⟩ := List.getElem_of_mem hx
      have := hT.bytes8 k hk
      simpa [List.getD, List.getElem?_eq_getElem hk] using this⟩)
  clear hd hGb hSG hS c0 hb0 n0 hT
  go_enter Tryd.func72, Tryd.ntmps72
  go_upto_region 1 with fail
  generalize w.alloc (.cells #[.int .i64 g, .slice ra rn rc] 24) = W0 at *
  go_wp2_with fail
  refine KF.out.mono ?_
  rintro e W1 ⟨u, rfl, ho, hb1⟩
  clear x0 x1 KF
  simp only at ho
  have HBW := Lib.hid (HB0.out.trans (hb1.mono HB0.out.size))
  have HD1 := Lib.hid (HD0.out.below hb1)
  have HC1 := Lib.hid ((hb1.cell (p := ⟨S, 0, none⟩) (Nat.lt_of_lt_of_le HSG.out.2 HB0.out.size)).trans HC0.out)
  by_cases hl : bs.length ≤ 65536
  case neg =>
    rw [if_neg hl] at ho ⊢
    obtain ⟨ua, un, uc, rfl⟩ : ∃ a n c, u = .slice a n c := by
      rcases ho.form with ⟨rfl, _⟩ | ⟨g, c, rfl, _⟩
      · exact ⟨_, _, _, rfl⟩
      · exact ⟨_, _, _, rfl⟩
    have HW := Lib.hid (show writeF ds f (g, bs) = (ds, 3) from by unfold writeF; rw [if_pos (by simp only; omega)])
    clear ho hb1 hl
    go_wp2_with fail
    go_ret
    unfold WriteEnd
    rw [HW.out]
    exact ⟨rfl, HD1.out.more fun j hj => .inl hj, Fr.of_below HBW.out⟩
  case pos =>
  rw [if_pos hl] at ho ⊢
  have HL := Lib.hid hl
  have hfl : (frameF (g, bs)).length ≤ 65554 := by have := body_len (HGR.out hl); rw [frame_len]; omega
  obtain ⟨xs, hxs⟩ : ∃ xs, xs = frameF (g, bs) := ⟨_, rfl⟩
  rw [← hxs] at ho hfl
  obtain ⟨un, hun⟩ : ∃ un, un = xs.length := ⟨_, rfl⟩
  obtain ⟨ua, uc, rfl⟩ : ∃ a c, u = .slice a un c := by
    rcases ho.form with ⟨rfl, rfl⟩ | ⟨g, c, rfl, _⟩
    · rw [hun]; exact ⟨_, _, rfl⟩
    · rw [hun]; exact ⟨_, _, rfl⟩
  have HUN := Lib.hid hun
  have HXS := Lib.hid hxs
  have HFL := Lib.hid hfl
  have HO := Lib.hid ho
  have HS1 := Lib.hid (And.intro HB0.out.size hb1.size)
  have c0 := HC1.out
  have KR := Lib.hid (reset_dk HD1.out f)
  clear ho hb1 hl hfl hxs hun
  go_wp2_with fail
  refine KR.out.mono ?_
  rintro e w2 ⟨rfl, hd2, hf2⟩
  have hs1 := HS1.out
  have c02 : w2.cell? ⟨S, 0, none⟩ = some (.pointer (some ⟨D, 0, none⟩)) := (World.cell?_of_block (a := ⟨S, 0, none⟩) (hf2.block S (by have := HSG.out.2; omega) HSG.out.1)).trans HC1.out
  have HF2 := Lib.hid (show Fr G w w2 from (Fr.of_below HBW.out).trans hf2 (fun j hj => .inl hj))
  have HD2 := Lib.hid hd2.bound
  have hT2 : TxtAt w2 (.slice ua un uc) xs := (OwnTxt.of_block HO.out fun k hk => hf2.block k (ownBlock_lt HO.out hk) (fun hg => by have := HGB.out k hg; have := HO.out.blockGe hk; omega)).at
  have HO2 := Lib.hid (show OwnTxt w2 W0.heap.size (.slice ua un uc) xs from OwnTxt.of_block HO.out fun k hk => hf2.block k (ownBlock_lt HO.out hk) (fun hg => by have := HGB.out k hg; have := HO.out.blockGe hk; omega))
  have HS2 := Lib.hid hf2.size
  have HUB := Lib.hid (fun k (hk : (Value.slice ua un uc).ownBlock = some k) => And.intro (HO.out.blockGe hk) (ownBlock_lt HO.out hk))
  obtain ⟨y, hy⟩ : ∃ y, y = callF 2 ds f [] := ⟨_, rfl⟩
  rw [← hy] at hd2 HD2 ⊢
  obtain ⟨d1, k1⟩ := y
  simp only at hd2 HD2 ⊢
  have HY := Lib.hid hy
  clear c0 hd2 hf2 hT2 hy KR hs1
  by_cases hk1 : k1 = 0
  case neg =>
    have hb : (k1 == 0) = false := by simpa using hk1
    have hb2 : (k1 != 0) = true := by simp [hk1]
    have HW := Lib.hid (show writeF ds f (g, bs) = (d1, k1) from by
      unfold writeF
      rw [if_neg (by simp only; have := HL.out; omega), ← HY.out, if_pos hk1])
    clear hk1
    go_wp2_with fail
    go_ret
    unfold WriteEnd
    rw [HW.out]
    have h1 := HS1.out
    exact ⟨rfl, HD2.out.more fun j hj => hj.1.imp id (fun h => by omega), HF2.out⟩
  case pos =>
  subst hk1
  have KA := Lib.hid (append_dk HD2.out f ua un uc xs HUN.out (fun w' hf => (OwnTxt.of_block HO2.out fun k hk => hf.block k (by have := HUB.out k hk; have := HS2.out; omega) (fun hg => by have h1 := HUB.out k hk; have h2 := HS1.out; rcases hg.1 with h | h; have := HGB.out k h; omega; omega)).at) (by have := HFL.out; omega))
  go_wp2_with fail
  refine KA.out.mono ?_
  rintro e w3 ⟨rfl, hd3, hf3⟩
  have hG2S : ¬ ((G S ∨ W1.heap.size ≤ S) ∧ S < w2.heap.size) := fun h => by
    have h1 := HS1.out
    rcases h.1 with h | h
    · exact HSG.out.1 h
    · have := HSG.out.2; omega
  have c03 : w3.cell? ⟨S, 0, none⟩ = some (.pointer (some ⟨D, 0, none⟩)) := (World.cell?_of_block (a := ⟨S, 0, none⟩) (hf3.block S (by have h1 := HS1.out; have h2 := HS2.out; have := HSG.out.2; omega) hG2S)).trans c02
  have HF3 := Lib.hid (show Fr G w w3 from HF2.out.trans (F := G) (hf3.sub' (H := fun j => G j ∨ w.heap.size ≤ j) (fun j hj => hj.1.imp id (fun h => by have h1 := HS1.out; omega))) (fun j hj => hj))
  have HD3 := Lib.hid hd3.bound
  have HS3 := Lib.hid hf3.size
  obtain ⟨y, hy⟩ : ∃ y, y = callF 0 d1 f xs := ⟨_, rfl⟩
  rw [← hy] at hd3 HD3 ⊢
  obtain ⟨d2, k2⟩ := y
  simp only at hd3 HD3 ⊢
  have HY2 := Lib.hid hy
  clear c02 hd3 hf3 hy KA hG2S
  by_cases hk2 : k2 = 0
  case neg =>
    have hb : (k2 == 0) = false := by simpa using hk2
    have hb2 : (k2 != 0) = true := by simp [hk2]
    have HW := Lib.hid (show writeF ds f (g, bs) = (d2, k2) from by
      unfold writeF
      rw [if_neg (by simp only; have := HL.out; omega), ← HY.out, if_neg (by simp), ← HXS.out]
      simp only
      rw [← HY2.out, if_pos hk2])
    clear hk2
    go_wp2_with fail
    go_ret
    unfold WriteEnd
    rw [HW.out]
    have h1 := HS1.out
    have h2 := HS2.out
    exact ⟨rfl, HD3.out.more fun j hj => by
      rcases hj.1 with h | h
      · exact h.1.imp id (fun h => by omega)
      · exact .inr (by omega), HF3.out⟩
  case pos =>
  subst hk2
  have KS := Lib.hid (sync_dk HD3.out f)
  go_wp2_with fail
  refine KS.out.mono ?_
  rintro e w4 ⟨rfl, hd4, hf4⟩
  have HF4 := Lib.hid (show Fr G w w4 from HF3.out.trans (F := G) (hf4.sub' (H := fun j => G j ∨ w.heap.size ≤ j) (fun j hj => by
    have h1 := HS1.out
    have h2 := HS2.out
    rcases hj.1 with h | h
    · exact h.1.imp id (fun h => by omega)
    · exact .inr (by omega))) (fun j hj => hj))
  have HD4 := Lib.hid hd4
  have HW := Lib.hid (show writeF ds f (g, bs) = ((callF 1 d2 f []).1, (callF 1 d2 f []).2) from by
      unfold writeF
      rw [if_neg (by simp only; have := HL.out; omega), ← HY.out, if_neg (by simp), ← HXS.out]
      simp only
      rw [← HY2.out, if_neg (by simp)])
  clear c03 hd4 hf4 KS
  go_wp2_with fail
  go_ret
  unfold WriteEnd
  rw [HW.out]
  have h1 := HS1.out
  have h2 := HS2.out
  have h3 := HS3.out
  exact ⟨rfl, HD4.out.more fun j hj => by
    rcases hj with h | h
    · rcases h.1 with h | h
      · exact h.1.imp id (fun h => by omega)
      · exact .inr (by omega)
    · exact .inr (by omega), HF4.out⟩
end
end Go.Proofs.YtomhfnaekjmjnaaDoor
