/- Laws that belong together: A log in memory: its block, its records; what its readings answer. No condition. The texts of a generation: Of, and a law's Texts. Condition: fewer than 998 records. A law's Texts, of a log and of none; what a parse leaves may be. Condition: fewer than 998 records. A log over a disk, plainly: what Open, Add and Clear come to; where it lies. No condition.; A log that is opened over a disk. Condition: errors.errorType reads as the program's text lays it. A log's calls over a disk: a record more; clearing it. No condition but the lengths' bounds. A record more in a log over a disk. No condition but the lengths' bounds. -/
import Derived.Test.YtomhfnaekjmjnaaDoorMai
import Derived.Test.YtomhfnaekjmjnaaDoorMal
namespace Go.Proofs.YtomhfnaekjmjnaaDoor
set_option linter.unusedVariables false
section
open Go.ChangeShapes Go.WideShapes Go.ChangeAt Go.RowKit
attribute [local go_sem ↓] Go.wp_at_zero Go.wp_at_succ comesTo_value_eq comesTo_skip_eq comesTo_enter_eq

/-- what a log holds -/
structure LS where
  f : Int
  rs : List JRec
  len : Nat
  torn : Bool
  failed : Bool
/-- records in a row, among F's blocks -/
structure RecsF (w : World) (F : Nat → Prop) (v : Value) (l : List RV) : Prop where
  rec_ : RecsJ w 0 v l
  row : ∀ g, v.ownBlock = some g → F g
  txt : ∀ x ∈ l, ∀ p, x.ad = some p → F p.block
theorem RecsF.keep {w w' : World} {F : Nat → Prop} {v : Value} {l : List RV} (h : RecsF w F v l) (hk : ∀ j, F j → j < w.heap.size → w'.heap[j]? = w.heap[j]?) : RecsF w' F v l := by
  refine ⟨⟨⟨h.rec_.row.1, ?_⟩, fun x hx => ?_⟩, h.row, h.txt⟩
  · rcases h.rec_.row.2 with hn | ⟨g, cap, cur, hv, hB, hg, rest⟩
    · exact .inl hn
    · exact .inr ⟨g, cap, cur, hv, hB, (hk g (h.row g (by rw [hv]; rfl)) (Array.getElem?_eq_some_iff.1 hg).1).trans hg, rest⟩
  · obtain ⟨ad, c, e, ho⟩ := h.rec_.txt x hx
    refine ⟨ad, c, e, ho.of_block fun g hg => ?_⟩
    have e2 : x.ad = ad := by unfold RV.val at e; cases e; rfl
    cases ad with
    | none => cases hg
    | some p =>
      simp only [Value.ownBlock, Option.some.injEq] at hg
      subst hg
      exact hk _ (h.txt x hx p e2) (ownBlock_lt ho rfl)
theorem RecsF.more {w : World} {F G : Nat → Prop} {v : Value} {l : List RV} (h : RecsF w F v l) (hG : ∀ j, F j → G j) : RecsF w G v l := ⟨h.rec_, fun g hg => hG _ (h.row g hg), fun x hx p hp => hG _ (h.txt x hx p hp)⟩
theorem RecsF.nil {w : World} {F : Nat → Prop} : RecsF w F (.slice none 0 0) [] := ⟨RecsJ.nil, fun g h => (by cases h), fun x h => (by cases h)⟩
theorem RecsF.of {w : World} {B : Nat} {v : Value} {l : List RV} (h : RecsJ w B v l) : RecsF w (fun j => B ≤ j ∧ j < w.heap.size) v l := by
  refine ⟨h.base (Nat.zero_le _), fun g hg => ⟨Ap.own_blk h.row g hg, Ap.own_lt h.row g hg⟩, fun x hx p hp => ?_⟩
  obtain ⟨ad, c, e, ho⟩ := h.txt x hx
  have e2 : x.ad = ad := by unfold RV.val at e; cases e; rfl
  rw [hp] at e2
  subst e2
  exact ⟨ho.blockGe (g := p.block) rfl, ownBlock_lt ho (g := p.block) rfl⟩
/-- a log in block P, over the disk in block D, its blocks among F -/
structure Lg (w : World) (P D : Nat) (F : Nat → Prop) (st : LS) : Prop where
  mem : F P
  good : ∀ r ∈ st.rs, GoodR r
  at_ : ∃ v l, w.heap[P]? = some (.cells #[.pointer (some ⟨D, 0, none⟩), .int .i64 st.f, v, .int .i64 st.len, .bool st.torn, .bool st.failed] 62 (0, 0)) ∧ RecsF w (fun j => F j ∧ j ≠ P) v l ∧ l.map RV.rc = st.rs
theorem Lg.keep {w w' : World} {P D : Nat} {F : Nat → Prop} {st : LS} (h : Lg w P D F st) (hk : ∀ j, F j → j < w.heap.size → w'.heap[j]? = w.heap[j]?) : Lg w' P D F st := by
  obtain ⟨hm, hgd, v, l, hb, hr, he⟩ := h
  exact ⟨hm, hgd, v, l, (hk P hm (Array.getElem?_eq_some_iff.1 hb).1).trans hb, hr.keep fun j hj => hk j hj.1, he⟩
theorem Lg.below {w w' : World} {P D : Nat} {F : Nat → Prop} {st : LS} (h : Lg w P D F st) (hb : Below w.heap.size w w') : Lg w' P D F st := h.keep fun j _ hj => hb.block j hj
theorem Lg.more {w : World} {P D : Nat} {F G : Nat → Prop} {st : LS} (h : Lg w P D F st) (hG : ∀ j, F j → G j) : Lg w P D G st := by
  obtain ⟨hm, hgd, v, l, hb, hr, he⟩ := h
  exact ⟨hG _ hm, hgd, v, l, hb, hr.more fun j hj => ⟨hG _ hj.1, hj.2⟩, he⟩
theorem Lg.lt {w : World} {P D : Nat} {F : Nat → Prop} {st : LS} (h : Lg w P D F st) : P < w.heap.size := by
  obtain ⟨_, _, v, l, hb, _⟩ := h
  exact (Array.getElem?_eq_some_iff.1 hb).1
/-- no log -/
def NoLog (w : World) (v : Value) : Prop := v = .pointer none ∨ ∃ P, v = .pointer (some ⟨P, 0, none⟩) ∧ w.heap[P]? = some (.cells #[.pointer none, .int .i64 0, .slice none 0 0, .int .i64 0, .bool false, .bool false] 62 (0, 0))
theorem NoLog.below {w w' : World} {v : Value} (h : NoLog w v) (hb : Below w.heap.size w w') : NoLog w' v := by
  rcases h with h | ⟨P, h, hP⟩
  · exact .inl h
  · exact .inr ⟨P, h, (hb.block _ (Array.getElem?_eq_some_iff.1 hP).1).trans hP⟩
theorem there_lno {w : World} {v : Value} (h : NoLog w v) : Calls Tryd.prog 48 #[v] w fun e w' => e = .returned (.bool false) ∧ w = w' := by
  rcases h with rfl | ⟨P, rfl, hP⟩
  · go_enter Tryd.func48, Tryd.ntmps48
    go_wp2
    go_ret
    exact ⟨rfl, rfl⟩
  · have c0 := cell_of_block (o := 0) hP rfl
    go_enter Tryd.func48, Tryd.ntmps48
    go_wp2
    go_ret
    exact ⟨rfl, rfl⟩
theorem there_lyes {w : World} {P D : Nat} (h : w.cell? ⟨P, 0, none⟩ = some (.pointer (some ⟨D, 0, none⟩))) : Calls Tryd.prog 48 #[.pointer (some ⟨P, 0, none⟩)] w fun e w' => e = .returned (.bool true) ∧ w = w' := by
  go_enter Tryd.func48, Tryd.ntmps48
  go_wp2
  go_ret
  exact ⟨rfl, rfl⟩
theorem Lg.made {w : World} {P D : Nat} {F : Nat → Prop} {st : LS} (h : Lg w P D F st) : w.cell? ⟨P, 0, none⟩ = some (.pointer (some ⟨D, 0, none⟩)) := by
  obtain ⟨_, _, v, l, hb, _⟩ := h
  exact cell_of_block hb rfl
theorem len_no {w : World} {v : Value} (h : NoLog w v) : Calls Tryd.prog 26 #[v] w fun e w' => e = .returned (.int .i64 0) ∧ w = w' := by
  have K := Lib.hid (there_lno h)
  clear h
  go_enter Tryd.func26, Tryd.ntmps26
  go_wp2_with fail
  refine K.out.mono ?_
  rintro e w' ⟨rfl, rfl⟩
  go_wp2
  go_ret
  exact ⟨rfl, rfl⟩
theorem torn_no {w : World} {v : Value} (h : NoLog w v) : Calls Tryd.prog 25 #[v] w fun e w' => e = .returned (.bool false) ∧ w = w' := by
  have K := Lib.hid (there_lno h)
  clear h
  go_enter Tryd.func25, Tryd.ntmps25
  go_wp2_with fail
  refine K.out.mono ?_
  rintro e w' ⟨rfl, rfl⟩
  go_wp2
  go_ret
  exact ⟨rfl, rfl⟩
theorem clear_no {w : World} {v : Value} (h : NoLog w v) : Calls Tryd.prog 27 #[v] w fun e w' => e = .returned (.int .i64 1) ∧ w = w' := by
  have K := Lib.hid (there_lno h)
  clear h
  go_enter Tryd.func27, Tryd.ntmps27
  go_wp2_with fail
  refine K.out.mono ?_
  rintro e w' ⟨rfl, rfl⟩
  go_wp2
  go_ret
  exact ⟨rfl, rfl⟩
theorem add_lno {w : World} {v : Value} (h : NoLog w v) (g : Int) (a : Option Addr) (n c : Nat) : Calls Tryd.prog 22 #[v, .agg #[.int .i64 g, .slice a n c]] w fun e w' => e = .returned (.int .i64 1) ∧ Below w.heap.size w w' := by
  have hb := below_alloc (Below.refl _ w) (.cells #[.int .i64 g, .slice a n c] 24)
  have K := Lib.hid (there_lno (h.below hb))
  have HB := Lib.hid hb
  clear h hb
  go_enter Tryd.func22, Tryd.ntmps22
  go_wp2_with fail
  refine K.out.mono ?_
  rintro e w' ⟨rfl, rfl⟩
  go_wp2
  go_ret
  exact ⟨rfl, HB.out⟩
theorem len_lg {w : World} {P D : Nat} {F : Nat → Prop} {st : LS} (h : Lg w P D F st) : Calls Tryd.prog 26 #[.pointer (some ⟨P, 0, none⟩)] w fun e w' => e = .returned (.int .i64 st.len) ∧ w = w' := by
  have K := Lib.hid (there_lyes h.made)
  obtain ⟨_, _, v, l, hb, _⟩ := h
  have c3 := cell_of_block (o := 3) hb rfl
  clear hb
  go_enter Tryd.func26, Tryd.ntmps26
  go_wp2_with fail
  refine K.out.mono ?_
  rintro e w' ⟨rfl, rfl⟩
  go_wp2
  go_ret
  exact ⟨rfl, rfl⟩
theorem torn_lg {w : World} {P D : Nat} {F : Nat → Prop} {st : LS} (h : Lg w P D F st) : Calls Tryd.prog 25 #[.pointer (some ⟨P, 0, none⟩)] w fun e w' => e = .returned (.bool st.torn) ∧ w = w' := by
  have K := Lib.hid (there_lyes h.made)
  obtain ⟨_, _, v, l, hb, _⟩ := h
  have c4 := cell_of_block (o := 4) hb rfl
  clear hb
  go_enter Tryd.func25, Tryd.ntmps25
  go_wp2_with fail
  refine K.out.mono ?_
  rintro e w' ⟨rfl, rfl⟩
  go_wp2
  go_ret
  exact ⟨rfl, rfl⟩

/-- texts in a row of strings -/
def strsJ (l : List (List Int)) : List Value := l.map fun bs => .string (strOfNums bs)
def OwnS (w : World) (B : Nat) (v : Value) (l : List (List Int)) : Prop := w.ownsRow B 9 1 v l.length (strsJ l)
theorem info_str : (Tryd.prog.info? 9).map (fun i => (i.zero, i.size, i.bytes)) = some (some (.string .empty), 1, 16) := by kernel_rfl
theorem OwnS.form {w : World} {B : Nat} {v : Value} {l : List (List Int)} (h : OwnS w B v l) : (l = [] ∧ v = .slice none 0 0) ∨ ∃ g c, v = .slice (some ⟨g, 0, none⟩) l.length c ∧ B ≤ g ∧ g < w.heap.size ∧ ∀ k, k < l.length → w.cell? ⟨g, k, none⟩ = some (.string (strOfNums (l.getD k []))) := by
  rcases h.2 with ⟨e, hl⟩ | ⟨g, cap, cur, e, hg, hc, rest⟩
  · exact .inl ⟨List.length_eq_zero_iff.1 hl, e⟩
  · refine .inr ⟨g, cap, e, hg, (Array.getElem?_eq_some_iff.1 hc).1, fun k hk => ?_⟩
    have hcl := World.ownsRow.cells (g := g) h (by rw [e]; rfl)
    have e0 := hcl k (.string (strOfNums (l.getD k []))) (by simp [strsJ, List.getElem?_map, List.getElem?_eq_getElem hk, List.getD])
    have hadd : ∀ j, (⟨g, 0, none⟩ : Addr).add j = ⟨g, j, none⟩ := fun j => by unfold Addr.add; split <;> simp_all
    rw [hadd] at e0
    exact e0
theorem OwnS.keep {w w' : World} {B : Nat} {v : Value} {l : List (List Int)} (h : OwnS w B v l) (hk : ∀ j, v.ownBlock = some j → w'.heap[j]? = w.heap[j]?) : OwnS w' B v l := Ap.own_keep h hk
/-- a text more: the closure of Texts -/
theorem texts1_any {w : World} {O B : Nat} {v : Value} {l : List (List Int)} {u : Value} {bs : List Int} (hO : Boxed w O 56 v) (hr : OwnS w B v l) (hu : TxtAt w u bs) (hOB : O < B) (hB : B ≤ w.heap.size) (hl : l.length < 998) :
    Calls Tryd.prog 54 #[u, .pointer (some ⟨O, 0, none⟩)] w fun e w' => e = .returned (.bool true) ∧ (∃ v', Boxed w' O 56 v' ∧ OwnS w' B v' (l ++ [bs])) ∧ Fr (fun j => j = O ∨ B ≤ j) w w' := by
  obtain ⟨i0, hi, hz0, hz1, hz2⟩ := info_parts info_str
  have hbA := below_alloc (Below.refl _ w) (.cells #[.string (strOfNums bs)] 9)
  have KV := Lib.hid (fun X (hX : Below w.heap.size w X) => txt_conv hu X hX)
  have hcv := KV.out w (Below.refl _ _)
  have hO1 := hO.alloc (.cells #[.string (strOfNums bs)] 9)
  have hr1 : OwnS (w.alloc (.cells #[.string (strOfNums bs)] 9)) B v l := hr.alloc _
  have c0 := hO.cell
  have HO := Lib.hid hO1
  have HR := Lib.hid hr1
  have HA := Lib.hid hbA
  have HOwn := Lib.hid (Ap.own_blk hr)
  obtain ⟨ua, un, uc, rfl⟩ : ∃ a n c, u = .slice a n c := by
    rcases hu with ⟨b, o, c, rfl, _⟩ | ⟨_, a, c, rfl, _⟩
    · exact ⟨_, _, _, rfl⟩
    · exact ⟨_, _, _, rfl⟩
  obtain ⟨va, vc, rfl⟩ : ∃ a c, v = .slice a l.length c := by
    rcases hr.form with ⟨rfl, rfl⟩ | ⟨g, c, rfl, _⟩
    · exact ⟨none, 0, rfl⟩
    · exact ⟨_, _, rfl⟩
  have hmx1 : l.length + 1 ≤ maxLen := by unfold maxLen; omega
  have hmx2 : (l.length + 1) * 16 ≤ 140737488355328 := by omega
  have hbg : B ≤ (w.alloc (.cells #[.string (strOfNums bs)] 9)).heap.size := by simp; omega
  have hds : decide (((l.length + 1 : Nat) : Int) < 1000) = true := decide_eq_true (by omega)
  have hds2 : decide ((l.length : Int) + 1 < 1000) = true := decide_eq_true (by omega)
  have HL := Lib.hid (show OwnS (w.alloc (.cells #[.string (strOfNums bs)] 9)) B (.slice va l.length vc) l from hr1)
  clear hO hr hu hbA hO1 hr1 hl
  go_enter Tryd.func54, Tryd.ntmps54
  go_wp2_with (at_builtin; go_loud (refine wpList_append_own _ rfl _ _ 56 rfl B 9 i0 (.string .empty) 1 16 Tryd.underlying56 hi hz0 hz1 hz2 rfl (by decide) (.slice va l.length vc) l.length (strsJ l) rfl HL.out ⟨w.heap.size, 0, none⟩ 1 1 (strsJ [bs]) rfl rfl (fun j u hj => by
      obtain rfl : j = 0 := by
        rcases Nat.eq_zero_or_pos j with h | h
        · exact h
        · rw [List.getElem?_eq_none (by simp [strsJ]; omega)] at hj; cases hj
      simp [strsJ] at hj
      subst hj
      exact cell_of_block (World.alloc_heap_new w _) rfl) (by intro u hu; simp [strsJ] at hu; subst hu; rfl) hmx1 hmx2 hbg ?_; intro v' w1 hown' hgrow _; obtain ⟨g', cap', rfl⟩ := ownsRow_succ hown'; have hv1 := Boxed.kept HO.out hgrow (fun e => by have := HOwn.out _ e.symm; omega); have cv1 := hv1.cell; have fv1 := hv1.frozen; have HO' := Lib.hid hown'; have HG := Lib.hid hgrow; have HV1 := Lib.hid hv1; clear hown' hgrow hv1))
  go_ret
  have hw1 := (wrote_refl HV1.out).set 0 (.slice (some ⟨g', 0, none⟩) (l.length + 1) cap')
  refine ⟨by rfl, ⟨_, hw1.there, ?_⟩, ⟨?_, ?_, ?_, ?_, ?_⟩⟩
  · unfold OwnS
    rw [List.length_append, show strsJ (l ++ [bs]) = strsJ l ++ strsJ [bs] by simp [strsJ]]
    exact Ap.own_keep HO'.out fun j hj => hw1.rest j (by have := Ap.own_blk HO'.out j hj; omega)
  · exact hw1.os.trans (HG.out.os.trans rfl)
  · exact hw1.tape.trans (HG.out.tape.trans rfl)
  · exact hw1.output.trans (HG.out.output.trans rfl)
  · have h1 := hw1.size
    have h2 := HG.out.size
    have h3 := HA.out.size
    omega
  · intro j hj hn
    have hn1 : j ≠ O := fun e => hn (.inl e)
    have hn2 : ¬ B ≤ j := fun e => hn (.inr e)
    exact (hw1.rest j hn1).trans ((HG.out.block j (by simp; omega) (fun e => by have := HOwn.out _ e.symm; omega)).trans (HA.out.block j hj))
end
section
open Go.ChangeShapes Go.WideShapes Go.ChangeAt Go.RowKit
attribute [local go_sem ↓] Go.wp_at_zero Go.wp_at_succ comesTo_value_eq comesTo_skip_eq comesTo_enter_eq

/-- the texts of a generation -/
def textsG (g : Int) (rs : List JRec) : List (List Int) := (rs.filter fun r => r.1 == g).map (·.2)
theorem textsG_len (g : Int) (rs : List JRec) : (textsG g rs).length ≤ rs.length := by unfold textsG; rw [List.length_map]; exact List.length_filter_le _ _
theorem textsG_snoc (g : Int) (rs : List JRec) (r : JRec) : textsG g (rs ++ [r]) = if r.1 = g then textsG g rs ++ [r.2] else textsG g rs := by
  unfold textsG
  rw [List.filter_append]
  by_cases h : r.1 = g
  · rw [if_pos h]; simp [h]
  · rw [if_neg h]; simp [h]
set_option maxRecDepth 100000 in
set_option maxHeartbeats 1000000 in
theorem of1_any {w : World} {O Rb Gb B : Nat} {gen : Int} {rv : Value} {l : List RV} (hO : Boxed w O 56 (.slice none 0 0)) (hR : Boxed w Rb 33 rv) (hG : Boxed w Gb 2 (.int .i64 gen)) (hrec : RecsJ w 0 rv l) (hl : l.length < 998) (hB : B = w.heap.size) (hbs : ∀ x ∈ l, x.bs.length ≤ 65536) :
    Calls Tryd.prog 70 #[.func (.func 54) #[] #[.pointer (some ⟨O, 0, none⟩)], .pointer (some ⟨Rb, 0, none⟩), .pointer (some ⟨Gb, 0, none⟩)] w fun e w' => e = .returned (.tuple #[]) ∧ (∃ v', Boxed w' O 56 v' ∧ OwnS w' B v' (textsG gen (l.map RV.rc))) ∧ Fr (fun j => j = O ∨ B ≤ j) w w' := by
  have cR := hR.cell
  have hOB : O < B := by rw [hB]; exact hO.lt
  have hRO : Rb ≠ O := fun e => by
    subst e
    have h := Option.some.inj ((show w.heap[Rb]? = _ from hO).symm.trans (show w.heap[Rb]? = _ from hR))
    cases h
  have hGO : Gb ≠ O := fun e => by
    subst e
    have h := Option.some.inj ((show w.heap[Gb]? = _ from hO).symm.trans (show w.heap[Gb]? = _ from hG))
    cases h
  obtain ⟨ra, rc, rfl⟩ : ∃ a c, rv = .slice a l.length c := by
    rcases hrec.form with ⟨rfl, rfl⟩ | ⟨g, c, rfl, _⟩
    · exact ⟨none, 0, rfl⟩
    · exact ⟨_, _, rfl⟩
  have HRec := Lib.hid hrec
  have HGb := Lib.hid hG
  have HO := Lib.hid hO
  have HB := Lib.hid hB
  have HL := Lib.hid hl
  have HGlt := Lib.hid hG.lt
  clear hO hR hG hrec hB hl
  go_enter Tryd.func70, Tryd.ntmps70
  go_wp2_with fail
  go_loopw [8] (fun i wr => ∃ k : Nat, k ≤ l.length ∧ i = .int .i64 k ∧ (∃ v', Boxed wr O 56 v' ∧ OwnS wr B v' (textsG gen ((l.take k).map RV.rc))) ∧ Fr (fun j => j = O ∨ B ≤ j) w wr) (fun i _ => l.length - (intOf i).toNat)
  case atStart => exact ⟨0, Nat.zero_le _, rfl, ⟨_, HO.out, ⟨rfl, .inl ⟨rfl, rfl⟩⟩⟩, Fr.refl _ _⟩
  case round =>
    obtain ⟨k, hk, rfl, ⟨v', hv', hown⟩, hfr⟩ := hrel
    have HFr := Lib.hid hfr
    have HV := Lib.hid hv'
    have HOwn := Lib.hid hown
    have hlk : (textsG gen ((l.take k).map RV.rc)).length < 998 := by
      have := textsG_len gen ((l.take k).map RV.rc)
      have := HL.out
      simp at *
      omega
    have HLK := Lib.hid hlk
    clear hfr hv' hown hlk
    by_cases hlt : k < l.length
    case pos =>
      have hd : decide (k < l.length) = true := decide_eq_true hlt
      have hd' : (k : Int) < (l.length : Int) := by omega
      have hlx := List.getElem?_eq_getElem hlt
      obtain ⟨x, hx⟩ : ∃ x, l[k]? = some x := ⟨_, hlx⟩
      have htk : (l.take (k + 1)).map RV.rc = (l.take k).map RV.rc ++ [RV.rc x] := by
        rw [List.take_add_one, hx]; simp
      have hmem : x ∈ l := List.mem_of_getElem? hx
      obtain ⟨g, c, e, hg0, hgl, hcells⟩ : ∃ g c, (Value.slice ra l.length rc) = .slice (some ⟨g, 0, none⟩) l.length c ∧ 0 ≤ g ∧ g < w.heap.size ∧ ∀ k x, l[k]? = some x → w.cell? ⟨g, k * 2, none⟩ = some (.int .i64 x.g) ∧ w.cell? ⟨g, k * 2 + 1, none⟩ = some x.val := by
        rcases HRec.out.form with ⟨e, _⟩ | h
        · subst e; simp at hlt
        · exact h
      have e2 : ra = some ⟨g, 0, none⟩ := by cases e; rfl
      subst e2
      have hgO : g ≠ O := fun e3 => by
        have h0 := hcells k x hx
        rcases HRec.out.row.2 with ⟨e4, _⟩ | ⟨g2, cap2, cur2, e4, _, hh, _⟩
        · cases e4
        · cases e4
          subst e3
          rw [show w.heap[g]? = _ from HO.out] at hh
          cases hh
      have hnb : ¬ (g = O ∨ B ≤ g) := fun h => by
        rcases h with h | h
        · exact hgO h
        · have := HB.out; omega
      have q0 := (World.cell?_of_block (a := ⟨g, k * 2, none⟩) (HFr.out.block g hgl hnb)).trans (hcells k x hx).1
      have q1 := (World.cell?_of_block (a := ⟨g, k * 2 + 1, none⟩) (HFr.out.block g hgl hnb)).trans (hcells k x hx).2
      have hGn : ¬ (Gb = O ∨ B ≤ Gb) := fun h => by
        rcases h with h | h
        · exact hGO h
        · have := HB.out; have := HGlt.out; omega
      have cG : wr.cell? ⟨Gb, 0, none⟩ = some (.int .i64 gen) := (World.cell?_of_block (a := ⟨Gb, 0, none⟩) (HFr.out.block Gb HGlt.out hGn)).trans (Boxed.cell HGb.out)
      have htx : AloneT wr 0 x.val x.bs := (HRec.out.txt x hmem).of_block fun j cs m hj _ => HFr.out.block j (Array.getElem?_eq_some_iff.1 hj).1 (fun h => by
        rcases h with h | h
        · subst h; rw [show w.heap[j]? = _ from HO.out] at hj; cases hj
        · have := HB.out; have := (Array.getElem?_eq_some_iff.1 hj).1; omega)
      have HTx := Lib.hid htx
      have HTk := Lib.hid htk
      obtain ⟨xg, xb, xa⟩ := x
      unfold RV.val at q1 HTx
      dsimp only [RV.rc] at q0 q1 HTx HTk
      have hwk : IntKind.i64.wrap ((k : Int) + 1) = ((k + 1 : Nat) : Int) := by have := HL.out; rw [IntKind.wrap_i64]; omega
      have hbA := below_alloc (Below.refl _ wr) (.cells #[.int .i64 xg, .slice xa xb.length xb.length] 24)
      have HBA := Lib.hid hbA
      have hGlt2 : Gb < wr.heap.size := Nat.lt_of_lt_of_le HGlt.out HFr.out.size
      have cG2 := (hbA.cell (p := ⟨Gb, 0, none⟩) hGlt2).trans cG
      have HBS := Lib.hid (hbs _ hmem)
      have HV2 := Lib.hid (Boxed.alloc HV.out (.cells #[.int .i64 xg, .slice xa xb.length xb.length] 24))
      have HOwn2 := Lib.hid (World.ownsRow.alloc HOwn.out (.cells #[.int .i64 xg, .slice xa xb.length xb.length] 24))
      have HFr2 := Lib.hid (HFr.out.trans (Fr.of_below (F := fun j => j = O ∨ B ≤ j) hbA) (fun j hj => .inl hj))
      have KA := Lib.hid (fun h => alone_any (HTx.out.below hbA).at h)
      have hsz := HB.out
      have hszr := HFr.out.size
      clear hcells htk hmem hlx hx hgO hnb hGn hbA htx e
      by_cases hg : xg = gen
      case pos =>
        have hb : (xg == gen) = true := by simpa using hg
        have hbl : xb.length ≤ 140737488355328 := by have := HBS.out; dsimp only at this; omega
        have htg : textsG gen ((l.take (k + 1)).map RV.rc) = textsG gen ((l.take k).map RV.rc) ++ [xb] := by rw [HTk.out, textsG_snoc, if_pos hg]
        have HTG := Lib.hid htg
        have KA2 := Lib.hid (KA.out hbl)
        clear hg hbl htg KA
        go_wp2_with fail
        refine KA2.out.mono ?_
        rintro e W2 ⟨u, rfl, hal, hb2⟩
        have hv2 := (hb2.block O (Boxed.lt HV2.out)).trans HV2.out
        have ho2 := Ap.own_below HOwn2.out hb2
        have hB2 : B ≤ W2.heap.size := by have := hb2.size; have := HBA.out.size; omega
        have K1 := Lib.hid (texts1_any (w := W2) hv2 ho2 hal.at hOB hB2 HLK.out)
        have HFr3 := Lib.hid (HFr2.out.trans (Fr.of_below (F := fun j => j = O ∨ B ≤ j) hb2) (fun j hj => .inl hj))
        obtain ⟨ua, un, uc, rfl⟩ : ∃ a n c, u = .slice a n c := by
          obtain ⟨a, c, e, _⟩ := hal
          exact ⟨_, _, _, e⟩
        clear hv2 ho2 hal hb2
        go_wp2_with fail
        refine K1.out.mono ?_
        rintro e W3 ⟨rfl, ⟨v3, hv3, ho3⟩, hf3⟩
        have H3 := Lib.hid (And.intro hv3 (And.intro ho3 (HFr3.out.trans hf3 (fun j hj => .inl hj))))
        clear hv3 ho3 hf3
        go_wp2_with fail
        go_roundw
        case rel => exact ⟨k + 1, by omega, by go_num, ⟨v3, H3.out.1, by rw [HTG.out]; exact H3.out.2.1⟩, H3.out.2.2⟩
        case measure => simp [intOf]; omega
      case neg =>
        have hb : (xg == gen) = false := by simpa using hg
        have htg : textsG gen ((l.take (k + 1)).map RV.rc) = textsG gen ((l.take k).map RV.rc) := by rw [HTk.out, textsG_snoc, if_neg hg]
        clear hg
        go_wp2_with fail
        go_roundw
        case rel => exact ⟨k + 1, by omega, by go_num, ⟨v', HV2.out, by rw [htg]; exact HOwn2.out⟩, HFr2.out⟩
        case measure => simp [intOf]; omega
    case neg =>
      have hd : decide (k < l.length) = false := decide_eq_false hlt
      obtain rfl : k = l.length := by omega
      go_wp2_with fail
      go_end0
      exact ⟨rfl, ⟨v', HV.out, by have := HOwn.out; rw [List.take_length] at this; exact this⟩, HFr.out⟩
end
section
open Go.ChangeShapes Go.WideShapes Go.ChangeAt Go.RowKit
attribute [local go_sem ↓] Go.wp_at_zero Go.wp_at_succ comesTo_value_eq comesTo_skip_eq comesTo_enter_eq

def OfEnd (gen : Int) (l : List RV) (w : World) (e : Ending) (w' : World) : Prop := ∃ Rb Gb rv, e = .returned (.func (.func 70) #[] #[.pointer (some ⟨Rb, 0, none⟩), .pointer (some ⟨Gb, 0, none⟩)]) ∧ Boxed w' Rb 33 rv ∧ RecsJ w' 0 rv l ∧ Boxed w' Gb 2 (.int .i64 gen) ∧ Below w.heap.size w w'
theorem of_lno {w : World} {v : Value} (h : NoLog w v) (gen : Int) : Calls Tryd.prog 53 #[v, .int .i64 gen] w fun e w' => OfEnd gen [] w e w' := by
  have b1 := Boxed.new w 2 (.int .i64 gen)
  have b2 := Boxed.new (w.alloc (.cells #[.int .i64 gen] 2)) 33 (.slice none 0 0)
  rw [World.size_alloc] at b2
  have hb := below_alloc (below_alloc (Below.refl _ w) (.cells #[.int .i64 gen] 2)) (.cells #[.slice none 0 0] 33)
  have K := Lib.hid (there_lno (h.below hb))
  have HE := Lib.hid (And.intro (b1.alloc (.cells #[.slice none 0 0] 33)) (And.intro b2 hb))
  clear h b1 b2 hb
  go_enter Tryd.func53, Tryd.ntmps53
  go_wp2_with fail
  refine K.out.mono ?_
  rintro e w' ⟨rfl, rfl⟩
  go_wp2
  go_ret
  exact ⟨_, _, _, rfl, HE.out.2.1, RecsJ.nil, HE.out.1, HE.out.2.2⟩
theorem of_lg {w : World} {P D : Nat} {F : Nat → Prop} {st : LS} (h : Lg w P D F st) (gen : Int) : ∃ l : List RV, l.map RV.rc = st.rs ∧ ∀ X, Below w.heap.size w X → Calls Tryd.prog 53 #[.pointer (some ⟨P, 0, none⟩), .int .i64 gen] X fun e w' => OfEnd gen l X e w' := by
  obtain ⟨_, _, v, l, hP, hr, he⟩ := h
  refine ⟨l, he, fun X hX => ?_⟩
  have hPX := (hX.block _ (Array.getElem?_eq_some_iff.1 hP).1).trans hP
  have hrX := hr.rec_.below hX
  clear hP hr hX he
  have b1 := Boxed.new X 2 (.int .i64 gen)
  have hbK := below_alloc (below_alloc (Below.refl _ X) (.cells #[.int .i64 gen] 2)) (.cells #[.slice none 0 0] 33)
  have hPK := (hbK.block _ (Array.getElem?_eq_some_iff.1 hPX).1).trans hPX
  have K := Lib.hid (there_lyes (cell_of_block (o := 0) hPK rfl))
  have c2 := cell_of_block (o := 2) hPK rfl
  obtain ⟨va, vc, rfl⟩ : ∃ a c, v = .slice a l.length c := by
    rcases hrX.form with ⟨rfl, rfl⟩ | ⟨g, c, rfl, _⟩
    · exact ⟨none, 0, rfl⟩
    · exact ⟨_, _, rfl⟩
  have b2 := Boxed.new (X.alloc (.cells #[.int .i64 gen] 2)) 33 (.slice va l.length vc)
  rw [World.size_alloc] at b2
  have hb := below_alloc (below_alloc (Below.refl _ X) (.cells #[.int .i64 gen] 2)) (.cells #[.slice va l.length vc] 33)
  have HE := Lib.hid (And.intro (b1.alloc (.cells #[.slice va l.length vc] 33)) (And.intro b2 (And.intro (hrX.below hb) hb)))
  clear b1 b2 hb hPX hrX hbK hPK
  go_enter Tryd.func53, Tryd.ntmps53
  go_wp2_with fail
  refine K.out.mono ?_
  rintro e w' ⟨rfl, rfl⟩
  go_wp2
  go_ret
  exact ⟨_, _, _, rfl, HE.out.2.1, HE.out.2.2.1, HE.out.1, HE.out.2.2.2⟩
/-- what Texts leaves -/
def TextsEnd (w : World) (l : List (List Int)) (e : Ending) (w' : World) : Prop := ∃ v, e = .returned v ∧ OwnS w' w.heap.size v l ∧ Below w.heap.size w w'
theorem texts_gen {w : World} {lv : Value} {l : List RV} (gen : Int) (hOf : ∀ X, Below w.heap.size w X → Calls Tryd.prog 53 #[lv, .int .i64 gen] X fun e w' => OfEnd gen l X e w') (hl : l.length < 998) (hbs : ∀ x ∈ l, x.bs.length ≤ 65536) :
    Calls Tryd.prog 28 #[lv, .int .i64 gen] w fun e w' => TextsEnd w (textsG gen (l.map RV.rc)) e w' := by
  have hb := below_alloc (Below.refl _ w) (.cells #[.slice none 0 0] 56)
  have bO := Boxed.new w 56 (.slice none 0 0)
  have K := Lib.hid (hOf _ hb)
  have HB := Lib.hid hb
  have HO := Lib.hid bO
  have hO0 : w.heap.size < (w.alloc (.cells #[.slice none 0 0] 56)).heap.size := by simp
  clear hb bO hOf
  go_enter Tryd.func28, Tryd.ntmps28
  go_upto_region 2 with fail
  generalize w.alloc (.cells #[.slice none 0 0] 56) = W0 at *
  go_wp2_with fail
  refine K.out.mono ?_
  rintro e W1 ⟨Rb, Gb, rv, rfl, hR, hrec, hG, hb1⟩
  have hO1 : Boxed W1 w.heap.size 56 (.slice none 0 0) := (hb1.block _ hO0).trans HO.out
  have KI := Lib.hid (of1_any hO1 hR hG hrec hl rfl hbs)
  have HB1 := Lib.hid (below_next HB.out hb1)
  have hs1 := hb1.size
  have hrun : ∀ W : World, Sem.run Tryd.prog (binOp BinOp.eql 112 (.func (.func 70) #[] #[.pointer (some ⟨Rb, 0, none⟩), .pointer (some ⟨Gb, 0, none⟩)]) Value.nilFunc) W = .ok (.bool false) W := fun W => by kernel_rfl
  clear hR hrec hG hb1 hO1 K HB HO
  go_wp2_with fail
  refine KI.out.mono ?_
  rintro e W2 ⟨rfl, ⟨v, hv, ho⟩, hf⟩
  have cv := hv.cell
  have H2 := Lib.hid (And.intro ho (hf.below (B := w.heap.size) (by omega) (fun j hj => by rcases hj with h | h <;> omega)))
  obtain ⟨va, vn, vc, rfl⟩ : ∃ a n c, v = .slice a n c := by
    rcases ho.form with ⟨_, rfl⟩ | ⟨g, c, rfl, _⟩
    · exact ⟨_, _, _, rfl⟩
    · exact ⟨_, _, _, rfl⟩
  clear hv ho hf
  go_wp2_with fail
  go_ret
  have hob := H2.out.1
  refine ⟨_, rfl, ⟨hob.1, ?_⟩, HB1.out.trans H2.out.2⟩
  rcases hob.2 with h | ⟨g, cap, cur, h1, h2, h3⟩
  · exact .inl h
  · exact .inr ⟨g, cap, cur, h1, by omega, h3⟩
theorem texts_no {w : World} {v : Value} (h : NoLog w v) (gen : Int) : Calls Tryd.prog 28 #[v, .int .i64 gen] w fun e w' => TextsEnd w [] e w' :=
  texts_gen (l := []) gen (fun X hb => of_lno (h.below hb) gen) (by simp) (fun x h => (by cases h))
theorem texts_lg {w : World} {P D : Nat} {F : Nat → Prop} {st : LS} (h : Lg w P D F st) (hl : st.rs.length < 998) (gen : Int) : Calls Tryd.prog 28 #[.pointer (some ⟨P, 0, none⟩), .int .i64 gen] w fun e w' => TextsEnd w (textsG gen st.rs) e w' := by
  obtain ⟨l, he, hc⟩ := of_lg h gen
  have hgd := h.good
  rw [← he] at hgd hl ⊢
  rw [List.length_map] at hl
  exact texts_gen gen hc hl fun x hx => (hgd x.rc (List.mem_map.2 ⟨x, hx, rfl⟩)).len
/-- what is read of bytes may be -/
theorem first_good {xs : List Int} (hx : ∀ x ∈ xs, 0 ≤ x ∧ x ≤ 255) {r : JRec} {n : Nat} (h : firstF xs = some (r, n)) : GoodR r := by
  have hm : ∀ x ∈ ((xs.drop 8).take (num4 xs).toNat), 0 ≤ x ∧ x ≤ 255 := fun x hx' => hx x (List.mem_of_mem_drop (List.mem_of_mem_take hx'))
  unfold firstF at h
  split at h
  · cases h
  · split at h
    · cases h
    · split at h
      · cases h
      · split at h
        · cases h
        · rename_i hb
          simp only [Option.some.injEq, Prod.mk.injEq] at h
          obtain ⟨rfl, _⟩ := h
          refine ⟨scan_in _ 0 0 hm (by decide) (by decide), by dsimp only; omega, fun x hx' => hm x ?_⟩
          exact (scan_suffix _ 0 0).subset hx'
theorem parse_good : ∀ (k : Nat) (xs : List Int), xs.length ≤ k → (∀ x ∈ xs, 0 ≤ x ∧ x ≤ 255) → ∀ r ∈ (parseF xs).1, GoodR r := by
  intro k
  induction k with
  | zero =>
    intro xs h _ r hr
    rw [parse_none (by unfold firstF; rw [if_pos (by omega)])] at hr
    cases hr
  | succ k ih =>
    intro xs h hm r hr
    cases hf : firstF xs with
    | none => rw [parse_none hf] at hr; cases hr
    | some p =>
      obtain ⟨q, n⟩ := p
      have hp := first_pos hf
      have hd : (xs.drop n).length = xs.length - n := List.length_drop
      rw [parse_some hf] at hr
      rcases List.mem_cons.1 hr with rfl | hr
      · exact first_good hm hf
      · exact ih (xs.drop n) (by omega) (fun x hx => hm x (List.mem_of_mem_drop hx)) r hr
end
section
open Go.ChangeShapes Go.WideShapes Go.ChangeAt Go.RowKit
attribute [local go_sem ↓] Go.wp_at_zero Go.wp_at_succ comesTo_value_eq comesTo_skip_eq comesTo_enter_eq

/-- the log of a file -/
def openF (ds : DS) (f : Int) : LS := ⟨f, (parseF (ds.b f.toNat)).1, (parseF (ds.b f.toNat)).2, decide ((parseF (ds.b f.toNat)).2 < (ds.b f.toNat).length), false⟩
/-- a record more: the log, the disk, what is told -/
def addF (st : LS) (ds : DS) (r : JRec) : LS × DS × Int :=
  if st.torn = true ∨ st.failed = true then (st, ds, 16)
  else if 65536 < r.2.length then (st, ds, 3)
  else if (callF 0 ds st.f (frameF r)).2 ≠ 0 then ({ st with failed := true }, (callF 0 ds st.f (frameF r)).1, (callF 0 ds st.f (frameF r)).2)
  else if (callF 1 (callF 0 ds st.f (frameF r)).1 st.f []).2 ≠ 0 then ({ st with failed := true }, (callF 1 (callF 0 ds st.f (frameF r)).1 st.f []).1, (callF 1 (callF 0 ds st.f (frameF r)).1 st.f []).2)
  else ({ st with rs := st.rs ++ [r], len := st.len + (frameF r).length }, (callF 1 (callF 0 ds st.f (frameF r)).1 st.f []).1, 0)
/-- none are there -/
def clearF (st : LS) (ds : DS) : LS × DS × Int :=
  if (callF 2 ds st.f []).2 ≠ 0 then ({ st with failed := true }, (callF 2 ds st.f []).1, (callF 2 ds st.f []).2)
  else ({ st with rs := [], len := 0, torn := false, failed := false }, (callF 2 ds st.f []).1, 0)

theorem Lg.bound {w : World} {P D : Nat} {F : Nat → Prop} {st : LS} (h : Lg w P D F st) : Lg w P D (fun j => F j ∧ j < w.heap.size) st := by
  have hlt := h.lt
  obtain ⟨hm, hgd, v, l, hb, hr, he⟩ := h
  refine ⟨⟨hm, hlt⟩, hgd, v, l, hb, ⟨hr.rec_, fun g hg => ⟨⟨(hr.row g hg).1, Ap.own_lt hr.rec_.row g hg⟩, (hr.row g hg).2⟩, fun x hx p hp => ⟨⟨(hr.txt x hx p hp).1, ?_⟩, (hr.txt x hx p hp).2⟩⟩, he⟩
  obtain ⟨ad, c, e, ho⟩ := hr.rec_.txt x hx
  have e2 : x.ad = ad := by unfold RV.val at e; cases e; rfl
  rw [hp] at e2
  subst e2
  exact ownBlock_lt ho (g := p.block) rfl
theorem Lg.fail {w w' : World} {P D : Nat} {F : Nat → Prop} {st : LS} (h : Lg w P D F st) {cs : Array Value} (m : w.heap[P]? = some (.cells cs 62 (0, 0))) (hw : WroteTo P 62 (cs.setIfInBounds 5 (.bool true)) w w') : Lg w' P D F { st with failed := true } := by
  obtain ⟨hm, hgd, v, l, hb, hr, he⟩ := h
  rw [hb] at m
  have e : #[.pointer (some ⟨D, 0, none⟩), .int .i64 st.f, v, .int .i64 st.len, .bool st.torn, .bool st.failed] = cs := by injection m with m; injection m
  subst e
  exact ⟨hm, hgd, v, l, hw.there, hr.keep fun j hj _ => hw.rest j hj.2, he⟩
/-- a log over a disk, among H's blocks -/
def LD (w : World) (P D : Nat) (H : Nat → Prop) (st : LS) (ds : DS) : Prop := ∃ F G, Lg w P D F st ∧ Dk w D G ds ∧ (∀ j, F j → ¬ G j) ∧ ∀ j, F j ∨ G j → H j ∧ j < w.heap.size
theorem LD.of {w : World} {P D : Nat} {F G H : Nat → Prop} {st : LS} {ds : DS} (h : Lg w P D F st) (k : Dk w D G ds) (hFG : ∀ j, j < w.heap.size → F j → ¬ G j) (hF : ∀ j, j < w.heap.size → F j → H j) (hG : ∀ j, j < w.heap.size → G j → H j) : LD w P D H st ds :=
  ⟨_, _, h.bound, k.bound, fun j hj hg => hFG j hj.2 hj.1 hg.1, fun j hj => hj.elim (fun hj => ⟨hF j hj.2 hj.1, hj.2⟩) (fun hj => ⟨hG j hj.2 hj.1, hj.2⟩)⟩
theorem LD.fr {w w' : World} {P D : Nat} {H K : Nat → Prop} {st : LS} {ds : DS} (h : LD w P D H st ds) (hf : Fr K w w') (hK : ∀ j, j < w.heap.size → H j → ¬ K j) : LD w' P D H st ds := by
  obtain ⟨F, G, hl, hd, hFG, hH⟩ := h
  exact ⟨F, G, hl.keep fun j hj hlt => hf.block j hlt (hK j hlt (hH j (.inl hj)).1), Fr.dk hd hf (fun j hj hlt => hK j hlt (hH j (.inr hj)).1), hFG, fun j hj => ⟨(hH j hj).1, Nat.lt_of_lt_of_le (hH j hj).2 hf.size⟩⟩
theorem LD.below {w w' : World} {P D : Nat} {H : Nat → Prop} {st : LS} {ds : DS} (h : LD w P D H st ds) (hb : Below w.heap.size w w') : LD w' P D H st ds := h.fr (K := fun _ => False) (Fr.of_below hb) (fun _ _ _ => id)
theorem LD.more {w : World} {P D : Nat} {H K : Nat → Prop} {st : LS} {ds : DS} (h : LD w P D H st ds) (hK : ∀ j, j < w.heap.size → H j → K j) : LD w P D K st ds := by
  obtain ⟨F, G, hl, hd, hFG, hH⟩ := h
  exact ⟨F, G, hl, hd, hFG, fun j hj => ⟨hK j (hH j hj).2 (hH j hj).1, (hH j hj).2⟩⟩
end
end Go.Proofs.YtomhfnaekjmjnaaDoor
namespace Go.Proofs.YtomhfnaekjmjnaaDoor
set_option linter.unusedVariables false
section
open Go.ChangeShapes Go.WideShapes Go.ChangeAt Go.RowKit
attribute [local go_sem ↓] Go.wp_at_zero Go.wp_at_succ comesTo_value_eq comesTo_skip_eq comesTo_enter_eq

/-- what Open leaves -/
def OpenEnd (w : World) (D : Nat) (ds : DS) (f : Int) (e : Ending) (w' : World) : Prop :=
  Below w.heap.size w w' ∧ ((wrongF ds.down f ≠ 0 ∧ e = .returned (.tuple #[.pointer none, .int .i64 (wrongF ds.down f)])) ∨ (wrongF ds.down f = 0 ∧ ∃ P, e = .returned (.tuple #[.pointer (some ⟨P, 0, none⟩), .int .i64 0]) ∧ Lg w' P D (fun j => w.heap.size ≤ j) (openF ds f)))
theorem wrongF_ok {down : Bool} {f : Int} (h : wrongF down f = 0) : f.toNat < 4 := by
  unfold wrongF at h
  split at h
  · cases h
  · split at h
    · omega
    · cases h
theorem OwnTxt.capLe {w : World} {B n c : Nat} {ad : Option Addr} {xs : List Int} (h : OwnTxt w B (.slice ad n c) xs) : n ≤ c := by
  rcases h.form with ⟨e, hx⟩ | ⟨g, c', e, hc, _⟩
  · cases e; exact Nat.le_refl _
  · cases e; exact hc
theorem OwnTxt.byte {w : World} {B : Nat} {v : Value} {xs : List Int} (h : OwnTxt w B v xs) : ∀ x ∈ xs, 0 ≤ x ∧ x ≤ 255 := by
  intro x hx
  obtain ⟨k, hk, rfl⟩ := List.getElem_of_mem hx
  have := h.at.bytes8 k hk
  simpa [List.getD, List.getElem?_eq_getElem hk] using this
set_option maxRecDepth 100000 in
set_option maxHeartbeats 4000000 in
theorem open_any {w : World} {D : Nat} {F : Nat → Prop} {ds : DS} (h : Dk w D F ds) (hE : ErrAt w) (f : Int) :
    Calls Tryd.prog 20 #[.pointer (some ⟨D, 0, none⟩), .int .i64 f] w fun e w' => OpenEnd w D ds f e w' := by
  have K := Lib.hid (read_dk h f)
  have HF := Lib.hid h.fits
  have HE := Lib.hid hE
  clear h hE
  by_cases hw : wrongF ds.down f = 0
  · have HW := Lib.hid hw
    unfold ReadEnd at K
    rw [hw, if_pos rfl] at K
    obtain ⟨zs, hzs⟩ : ∃ zs, zs = ds.b f.toNat := ⟨_, rfl⟩
    have HZ := Lib.hid hzs
    have HL := Lib.hid (show zs.length ≤ 1048576 from by rw [hzs]; exact HF.out _ (wrongF_ok hw))
    rw [← hzs] at K
    clear hw hzs
    go_enter Tryd.func20, Tryd.ntmps20
    go_wp2_with fail
    refine K.out.mono ?_
    rintro e w1 ⟨u, rfl, ho, hb1, _⟩
    obtain ⟨ua, uc, rfl⟩ : ∃ a c, u = .slice a zs.length c := by
      rcases ho.form with ⟨rfl, rfl⟩ | ⟨g, c, rfl, _⟩
      · exact ⟨_, _, rfl⟩
      · exact ⟨_, _, rfl⟩
    have HO := Lib.hid ho
    have HB1 := Lib.hid hb1
    clear ho hb1 K
    go_upto_region 5 with fail
    have hA := below_alloc (Below.refl _ w1) (.cells #[.pointer (some ⟨D, 0, none⟩), .int .i64 f, .slice none 0 0, .int .i64 0, .bool false, .bool false] 62)
    have nP := World.alloc_heap_new w1 (.cells #[.pointer (some ⟨D, 0, none⟩), .int .i64 f, .slice none 0 0, .int .i64 0, .bool false, .bool false] 62)
    have HEA := HE.out.below (HB1.out.trans (hA.mono HB1.out.size))
    have KP := Lib.hid (parse_any (HO.out.at.below hA) HO.out.capLe (by have := HL.out; omega) HEA)
    have HBA := Lib.hid (HB1.out.trans (hA.mono HB1.out.size))
    have HS1 := Lib.hid hA.size
    clear hA HEA
    generalize w1.alloc (.cells #[.pointer (some ⟨D, 0, none⟩), .int .i64 f, .slice none 0 0, .int .i64 0, .bool false, .bool false] 62) = W0 at *
    go_wp2_with fail
    refine KP.out.mono ?_
    rintro e W1 ⟨v, l, rfl, hrec, hmap, hb2⟩
    have mP := (hb2.block _ (Array.getElem?_eq_some_iff.1 nP).1).trans nP
    have c2 := cell_of_block (o := 2) mP rfl
    have c3 := cell_of_block (o := 3) mP rfl
    have f2 := free_of_block 2 mP
    have f3 := free_of_block 3 mP
    obtain ⟨va, vc, rfl⟩ : ∃ a c, v = .slice a l.length c := by
      rcases hrec.form with ⟨rfl, rfl⟩ | ⟨g, c, rfl, _⟩
      · exact ⟨none, 0, rfl⟩
      · exact ⟨_, _, rfl⟩
    have hw2 := ((wrote_refl mP).set 2 (.slice va l.length vc)).set 3 (.int .i64 ((parseF zs).2 : Int))
    have HR := Lib.hid hrec
    have HM := Lib.hid hmap
    have HB2 := Lib.hid hb2
    have HW2 := Lib.hid hw2
    have HN := Lib.hid (Array.getElem?_eq_some_iff.1 nP).1
    clear nP hrec hmap hb2 KP
    go_upto_region 6 with fail
    clear f2 f3 c2 c3 mP
    generalize (W1.setCell ⟨w1.heap.size, 2, none⟩ (.slice va l.length vc)).setCell ⟨w1.heap.size, 3, none⟩ (.int .i64 ((parseF zs).2 : Int)) = W2 at *
    have mP := hw2.there
    simp only [List.setIfInBounds_toArray, List.set_cons_succ, List.set_cons_zero] at mP
    have c3 := cell_of_block (o := 3) mP rfl
    have c4 := cell_of_block (o := 4) mP rfl
    have f4 := free_of_block 4 mP
    obtain ⟨t, ht⟩ : ∃ t, t = decide ((parseF zs).2 < zs.length) := ⟨_, rfl⟩
    have hdc : decide (((parseF zs).2 : Int) < (zs.length : Int)) = t := by rw [ht]; exact decide_eq_decide.2 (by omega)
    have hdc2 : decide ((parseF zs).2 < zs.length) = t := ht.symm
    have HTt := Lib.hid ht
    have hw3 := (wrote_refl mP).set 4 (.bool t)
    have HW3 := Lib.hid hw3
    clear hw2 hw3 ht
    go_wp2_with fail
    go_ret2
    have hbz := HB2.out
    have hs1 := HS1.out
    have hsn := HN.out
    have hsw := HB1.out.size
    have hB3 : Below w.heap.size w _ := HW3.out.below (HW2.out.below (HBA.out.trans (HB2.out.mono (by omega))) (by omega)) (by omega)
    have hof : openF ds f = ⟨f, (parseF zs).1, (parseF zs).2, t, false⟩ := by rw [HTt.out, HZ.out]; rfl
    unfold OpenEnd
    rw [hof]
    refine ⟨hB3, .inr ⟨HW.out, _, rfl, ⟨by omega, ?_, _, l, HW3.out.there, ?_, HM.out⟩⟩⟩
    · intro r hr
      exact parse_good _ zs (Nat.le_refl _) HO.out.byte r hr
    · have h1 := RecsF.of HR.out
      have h2 : RecsF _ (fun j => W0.heap.size ≤ j ∧ j < W1.heap.size) (.slice va l.length vc) l := h1.keep (fun j hj _ => (HW3.out.rest j (by omega)).trans (HW2.out.rest j (by omega)))
      exact h2.more fun j hj => ⟨by omega, by omega⟩
  · have HW := Lib.hid hw
    have hb : (wrongF ds.down f == 0) = false := by simpa using hw
    have hb2 : (wrongF ds.down f != 0) = true := by simp [hw]
    obtain ⟨code, hcode⟩ : ∃ c, c = wrongF ds.down f := ⟨_, rfl⟩
    have HC := Lib.hid hcode
    rw [← hcode] at K hb hb2
    clear hw hcode
    go_enter Tryd.func20, Tryd.ntmps20
    go_wp2_with fail
    refine K.out.mono ?_
    rintro e w1 ⟨u, rfl, ho, hb1, _⟩
    have HB1 := Lib.hid hb1
    obtain ⟨ua, un, uc, rfl⟩ : ∃ a n c, u = .slice a n c := by
      rcases ho.form with ⟨rfl, _⟩ | ⟨g, c, rfl, _⟩
      · exact ⟨_, _, _, rfl⟩
      · exact ⟨_, _, _, rfl⟩
    clear ho hb1 K
    go_wp2_with fail
    go_ret2
    exact ⟨HB1.out, .inl ⟨HW.out, by rw [← HC.out]; rfl⟩⟩
end
section
open Go.ChangeShapes Go.WideShapes Go.ChangeAt Go.RowKit
attribute [local go_sem ↓] Go.wp_at_zero Go.wp_at_succ comesTo_value_eq comesTo_skip_eq comesTo_enter_eq

theorem eltJ : Ap.Elt Tryd.prog 33 24 2 32 :=
  ⟨Tryd.underlying33, by obtain ⟨i, hi, h0, h1, h2⟩ := info_parts info_rec; exact ⟨i, _, hi, h0, h1, h2, rfl⟩, by decide⟩
/-- what Add, what Clear leaves -/
def LogEnd (w : World) (P D : Nat) (H : Nat → Prop) (x : LS × DS × Int) (e : Ending) (w' : World) : Prop :=
  e = .returned (.int .i64 x.2.2) ∧ LD w' P D (fun j => H j ∨ w.heap.size ≤ j) x.1 x.2.1 ∧ Fr H w w'
/-- the log beside a disk that was called -/
theorem LD.called {w w' : World} {P D : Nat} {F G H : Nat → Prop} {st : LS} {ds' : DS} (h : Lg w P D F st) (hF : ∀ j, F j → H j ∧ j < w.heap.size) (hFG : ∀ j, F j → ¬ G j) (hG : ∀ j, G j → H j ∧ j < w.heap.size)
    (hd : Dk w' D (fun j => G j ∨ w.heap.size ≤ j) ds') (hf : Fr G w w') : LD w' P D (fun j => H j ∨ w.heap.size ≤ j) st ds' :=
  LD.of (h.keep fun j hj hlt => hf.block j hlt (hFG j hj)) hd (fun j _ hj hg => hg.elim (hFG j hj) (fun hg => by have := (hF j hj).2; omega)) (fun j _ hj => .inl (hF j hj).1) (fun j _ hj => hj.elim (fun hj => .inl (hG j hj).1) .inr)
theorem drew_fr {F : Nat → Prop} {w w' : World} (h : Fr F w.drew w') : Fr F w w' := (Fr.of_below (Below.refl _ _).drew).trans h (fun j hj => .inl hj)
theorem there_ld {w : World} {P D : Nat} {F : Nat → Prop} {st : LS} (h : Lg w P D F st) : Calls Tryd.prog 48 #[.pointer (some ⟨P, 0, none⟩)] w fun e w' => e = .returned (.bool true) ∧ w = w' := there_lyes h.made
set_option maxRecDepth 100000 in
set_option maxHeartbeats 4000000 in
theorem clear_ld {w : World} {P D : Nat} {H : Nat → Prop} {st : LS} {ds : DS} (h : LD w P D H st ds) :
    Calls Tryd.prog 27 #[.pointer (some ⟨P, 0, none⟩)] w fun e w' => LogEnd w P D H (clearF st ds) e w' := by
  have hmx : Tryd.prog.follows .mixedOrders = true := by kernel_rfl
  obtain ⟨F, G, hl, hd, hFG, hH⟩ := h
  have K := Lib.hid (there_ld hl)
  have hPG : ¬ G P := hFG P hl.mem
  have hPlt := hl.lt
  have HL := Lib.hid hl
  obtain ⟨hm, hgd, v, l, hP, hr, he⟩ := hl
  have HD := Lib.hid hd
  have HFG := Lib.hid hFG
  have HH := Lib.hid hH
  have HM := Lib.hid hm
  clear hgd hr he hd hFG hH hm
  obtain ⟨f, rs, ln, torn, failed⟩ := st
  simp only at hP
  have mP : w.drew.heap[P]? = _ := hP
  go_enter Tryd.func27, Tryd.ntmps27
  go_wp2_with fail
  refine K.out.mono ?_
  rintro e w' ⟨rfl, rfl⟩
  go_upto_region 3 with fail
  refine wp_region_held (S := fun X => X.cell? ⟨P, 0, none⟩ = some (.pointer (some ⟨D, 0, none⟩)) ∧ X.cell? ⟨P, 1, none⟩ = some (.int .i64 f)) hmx ?_
  change wpAnyH _ _ _ _ _ 10 _ _ w.drew
  have hSS : w.drew.cell? ⟨P, 0, none⟩ = some (.pointer (some ⟨D, 0, none⟩)) ∧ w.drew.cell? ⟨P, 1, none⟩ = some (.int .i64 f) := ⟨cell_of_block (o := 0) mP rfl, cell_of_block (o := 1) mP rfl⟩
  refine wpAnyH_take (i := 0) (v := .pointer (some ⟨P, 0, none⟩)) rfl (by decide +kernel) (by decide +kernel) (by decide +kernel) (fun _ _ _ h => h) (.inl ⟨by first | rfl | (go_simp; done), fun X hX => by have hx1 := hX.1; have hx2 := hX.2; clear hX; first | (go_simp; done) | (go_simp; rfl)⟩) hSS ?_
  refine wpAnyH_take (i := 1) (v := .pointer (some ⟨P, 0, none⟩)) rfl (by decide +kernel) (by decide +kernel) (by decide +kernel) (fun _ _ _ h => h) (.inl ⟨by first | rfl | (go_simp; done), fun X hX => by have hx1 := hX.1; have hx2 := hX.2; clear hX; first | (go_simp; done) | (go_simp; rfl)⟩) hSS ?_
  refine wpAnyH_take (i := 2) (v := .pointer (some ⟨P, 0, none⟩)) rfl (by decide +kernel) (by decide +kernel) (by decide +kernel) (fun _ _ _ h => h) (.inl ⟨by first | rfl | (go_simp; done), fun X hX => by have hx1 := hX.1; have hx2 := hX.2; clear hX; first | (go_simp; done) | (go_simp; rfl)⟩) hSS ?_
  refine wpAnyH_take (i := 3) (v := .pointer (some ⟨D, 0, none⟩)) rfl (by decide +kernel) (by decide +kernel) (by decide +kernel) (fun _ _ _ h => h) (.inl ⟨by first | rfl | (go_simp; done), fun X hX => by have hx1 := hX.1; have hx2 := hX.2; clear hX; first | (go_simp; done) | (go_simp; rfl)⟩) hSS ?_
  refine wpAnyH_take (i := 4) (v := .pointer (some ⟨P, 0, none⟩)) rfl (by decide +kernel) (by decide +kernel) (by decide +kernel) (fun _ _ _ h => h) (.inl ⟨by first | rfl | (go_simp; done), fun X hX => by have hx1 := hX.1; have hx2 := hX.2; clear hX; first | (go_simp; done) | (go_simp; rfl)⟩) hSS ?_
  refine wpAnyH_take (i := 5) (v := .pointer (some ⟨P, 0, none⟩)) rfl (by decide +kernel) (by decide +kernel) (by decide +kernel) (fun _ _ _ h => h) (.inl ⟨by first | rfl | (go_simp; done), fun X hX => by have hx1 := hX.1; have hx2 := hX.2; clear hX; first | (go_simp; done) | (go_simp; rfl)⟩) hSS ?_
  refine wpAnyH_take (i := 6) (v := .pointer (some ⟨P, 1, none⟩)) rfl (by decide +kernel) (by decide +kernel) (by decide +kernel) (fun _ _ _ h => h) (.inl ⟨by first | rfl | (go_simp; done), fun X hX => by have hx1 := hX.1; have hx2 := hX.2; clear hX; first | (go_simp; done) | (go_simp; rfl)⟩) hSS ?_
  refine wpAnyH_take (i := 7) (v := .int .i64 f) rfl (by decide +kernel) (by decide +kernel) (by decide +kernel) (fun _ _ _ h => h) (.inl ⟨by first | rfl | (go_simp; done), fun X hX => by have hx1 := hX.1; have hx2 := hX.2; clear hX; first | (go_simp; done) | (go_simp; rfl)⟩) hSS ?_
  refine anyH_call (i := 8) (by decide +kernel) rfl (by first | rfl | (go_simp; done)) (by go_simp) (reset_dk (HD.out.below (Below.refl w.heap.size w).drew) f) ?_
  rintro e w2 ⟨rfl, hd2, hf2⟩
  have m2 := (hf2.block P (by simpa using hPlt) hPG).trans mP
  refine ⟨_, rfl, ⟨cell_of_block (o := 0) m2 rfl, cell_of_block (o := 1) m2 rfl⟩, ?_⟩
  have hSS2 : w2.cell? ⟨P, 0, none⟩ = some (.pointer (some ⟨D, 0, none⟩)) ∧ w2.cell? ⟨P, 1, none⟩ = some (.int .i64 f) := ⟨cell_of_block (o := 0) m2 rfl, cell_of_block (o := 1) m2 rfl⟩
  have HQ := Lib.hid (LD.called (Lg.below (w' := w.drew) HL.out (Below.refl _ _).drew) (fun j hj => HH.out j (.inl hj)) HFG.out (fun j hj => HH.out j (.inr hj)) hd2 hf2)
  have HF2 := Lib.hid (drew_fr hf2)
  clear hd2 hf2
  by_cases hc : (callF 2 ds f []).2 = 0
  · rw [hc]
    refine wpAnyH_take (i := 9) (v := .int .i64 0) rfl (by decide +kernel) (by decide +kernel) (by decide +kernel) (fun _ _ _ h => h) (.inl ⟨by first | rfl | (go_simp; done), fun X hX => by clear hX; first | (go_simp; done) | (go_simp; rfl)⟩) hSS2 ?_
    refine wpAnyH_done (by decide +kernel) ?_ _
    have HC := Lib.hid hc
    have hw := ((((wrote_refl m2).set 2 (.slice none 0 0)).set 3 (.int .i64 0)).set 4 (.bool false)).set 5 (.bool false)
    have HW := Lib.hid hw
    have c2 := cell_of_block (o := 2) m2 rfl
    have c3 := cell_of_block (o := 3) m2 rfl
    have c4 := cell_of_block (o := 4) m2 rfl
    have c5 := cell_of_block (o := 5) m2 rfl
    have q2 := free_of_block 2 m2
    have q3 := free_of_block 3 m2
    have q4 := free_of_block 4 m2
    have q5 := free_of_block 5 m2
    clear hc hw hSS hSS2 m2 mP hP
    go_wp2_with fail
    go_ret
    unfold LogEnd clearF
    rw [if_neg (by simp [HC.out])]
    have hPH := (HH.out P (.inl HM.out)).1
    refine ⟨rfl, ?_, ?_⟩
    · obtain ⟨F2, G2, hl2, hd2, hFG2, hH2⟩ := HQ.out
      refine ⟨F2, G2, ⟨hl2.mem, fun r hr => (by cases hr), _, [], HW.out.there, RecsF.nil, rfl⟩, Fr.dk (G := fun j => j = P) hd2 ⟨HW.out.os, HW.out.tape, HW.out.output, Nat.le_of_eq HW.out.size.symm, fun j _ hj => HW.out.rest j hj⟩ (fun j hj _ e => hFG2 P hl2.mem (e ▸ hj)), hFG2, fun j hj => ⟨(hH2 j hj).1, by rw [HW.out.size]; exact (hH2 j hj).2⟩⟩
    · exact ((((Fr.set ⟨HF2.out.os, HF2.out.tape, HF2.out.output, HF2.out.size, fun j hj hn => HF2.out.block j hj (fun hg => hn (HH.out j (.inr hg)).1)⟩ hPH 2 _).set hPH 3 _).set hPH 4 _).set hPH 5 _)
  · obtain ⟨code, hcode⟩ : ∃ c, c = (callF 2 ds f []).2 := ⟨_, rfl⟩
    rw [← hcode] at hc ⊢
    have hb : (code == 0) = false := by simpa using hc
    have hb2 : (code != 0) = true := by simp [hc]
    have HC := Lib.hid (And.intro hc hcode)
    clear hc hcode
    refine wpAnyH_take (i := 9) (v := .int .i64 code) rfl (by decide +kernel) (by decide +kernel) (by decide +kernel) (fun _ _ _ h => h) (.inl ⟨by first | rfl | (go_simp; done), fun X hX => by clear hX; first | (go_simp; done) | (go_simp; rfl)⟩) hSS2 ?_
    refine wpAnyH_done (by decide +kernel) ?_ _
    have hw := (wrote_refl m2).set 5 (.bool true)
    have HM2 := Lib.hid m2
    have HW := Lib.hid hw
    have c5 := cell_of_block (o := 5) m2 rfl
    have q5 := free_of_block 5 m2
    clear hw hSS hSS2 m2 mP hP
    go_wp2_with fail
    go_ret
    unfold LogEnd clearF
    rw [if_pos (by show (callF 2 ds f []).2 ≠ 0; rw [← HC.out.2]; exact HC.out.1)]
    have hPH := (HH.out P (.inl HM.out)).1
    refine ⟨by rw [← HC.out.2]; rfl, ?_, ?_⟩
    · obtain ⟨F2, G2, hl2, hd2, hFG2, hH2⟩ := HQ.out
      have hdk := Fr.dk (G := fun j => j = P) hd2 ⟨HW.out.os, HW.out.tape, HW.out.output, Nat.le_of_eq HW.out.size.symm, fun j _ hj => HW.out.rest j hj⟩ (fun j hj _ e => hFG2 P hl2.mem (e ▸ hj))
      exact ⟨F2, G2, hl2.fail HM2.out HW.out, hdk, hFG2, fun j hj => ⟨(hH2 j hj).1, by rw [HW.out.size]; exact (hH2 j hj).2⟩⟩
    · exact Fr.set ⟨HF2.out.os, HF2.out.tape, HF2.out.output, HF2.out.size, fun j hj hn => HF2.out.block j hj (fun hg => hn (HH.out j (.inr hg)).1)⟩ hPH 5 _
end
section
open Go.ChangeShapes Go.WideShapes Go.ChangeAt Go.RowKit
attribute [local go_sem ↓] Go.wp_at_zero Go.wp_at_succ comesTo_value_eq comesTo_skip_eq comesTo_enter_eq

set_option maxRecDepth 100000 in
set_option maxHeartbeats 1000000 in
theorem add_bad {w : World} {P D : Nat} {H : Nat → Prop} {st : LS} {ds : DS} (h : LD w P D H st ds) (g : Int) (ra : Option Addr) (rn rc : Nat) (bs : List Int) (hb : st.torn = true ∨ st.failed = true) :
    Calls Tryd.prog 22 #[.pointer (some ⟨P, 0, none⟩), .agg #[.int .i64 g, .slice ra rn rc]] w fun e w' => LogEnd w P D H (addF st ds (g, bs)) e w' := by
  have hb0 := below_alloc (Below.refl _ w) (.cells #[.int .i64 g, .slice ra rn rc] 24)
  have hh := h.below hb0
  have HH := Lib.hid (hh.more (K := fun j => H j ∨ w.heap.size ≤ j) (fun j _ hj => .inl hj))
  have HF := Lib.hid (Fr.of_below (F := H) hb0)
  obtain ⟨F, G, hl, _, _, _⟩ := hh
  have K := Lib.hid (there_ld hl)
  obtain ⟨_, _, v, l, hP, _, _⟩ := hl
  obtain ⟨f, rs, ln, torn, failed⟩ := st
  simp only at hP hb
  have hr : addF ⟨f, rs, ln, torn, failed⟩ ds (g, bs) = (⟨f, rs, ln, torn, failed⟩, ds, 16) := by unfold addF; rw [if_pos hb]
  rw [hr]
  clear h hb0 hr
  cases torn with
  | true =>
    have c4 := cell_of_block (o := 4) hP rfl
    clear hb hP
    go_enter Tryd.func22, Tryd.ntmps22
    go_wp2_with fail
    refine K.out.mono ?_
    rintro e w' ⟨rfl, rfl⟩
    go_wp2_with fail
    go_ret
    exact ⟨rfl, HH.out, HF.out⟩
  | false =>
    obtain rfl : failed = true := by simpa using hb
    have c4 := cell_of_block (o := 4) hP rfl
    have c5 := cell_of_block (o := 5) hP rfl
    clear hb hP
    go_enter Tryd.func22, Tryd.ntmps22
    go_wp2_with fail
    refine K.out.mono ?_
    rintro e w' ⟨rfl, rfl⟩
    go_wp2_with fail
    go_ret
    exact ⟨rfl, HH.out, HF.out⟩
set_option maxRecDepth 100000 in
set_option maxHeartbeats 8000000 in
theorem add_good {w : World} {P D : Nat} {H : Nat → Prop} {f : Int} {rs : List JRec} {ln : Nat} {ds : DS} (h : LD w P D H ⟨f, rs, ln, false, false⟩ ds) (g : Int) (hg : -9223372036854775808 ≤ g ∧ g ≤ 9223372036854775807) (ra : Option Addr) (rn rc : Nat) (bs : List Int)
    (hX : ∀ w', Fr H w w' → TxtAt w' (.slice ra rn rc) bs) (hrl : rs.length ≤ 1099511627776) (hll : ln ≤ 1099511627776) :
    Calls Tryd.prog 22 #[.pointer (some ⟨P, 0, none⟩), .agg #[.int .i64 g, .slice ra rn rc]] w fun e w' => LogEnd w P D H (addF ⟨f, rs, ln, false, false⟩ ds (g, bs)) e w' := by
  have hmx : Tryd.prog.follows .mixedOrders = true := by kernel_rfl
  have hb0 := below_alloc (Below.refl _ w) (.cells #[.int .i64 g, .slice ra rn rc] 24)
  have n0 := World.alloc_heap_new w (.cells #[.int .i64 g, .slice ra rn rc] 24)
  have hh := h.below hb0
  have hw0 : w.heap.size < (w.alloc (.cells #[.int .i64 g, .slice ra rn rc] 24)).heap.size := by simp
  obtain ⟨F, G, hl, hd, hFG, hH0⟩ := h
  have hH : ∀ j, F j ∨ G j → H j ∧ j < w.heap.size := hH0
  replace hl := hl.below hb0
  replace hd := hd.below hb0
  have K := Lib.hid (there_ld hl)
  have HL := Lib.hid hl
  have hPG : ¬ G P := hFG P hl.mem
  have hPw : P < w.heap.size := (hH P (.inl hl.mem)).2
  have hPne : P ≠ w.heap.size := by omega
  obtain ⟨hm, hgd, v, l, hP, hr, he⟩ := hl
  simp only at hP hgd he
  have HD := Lib.hid hd
  have HFG := Lib.hid hFG
  have HH := Lib.hid hH
  have HM := Lib.hid hm
  have HGD := Lib.hid hgd
  have HR := Lib.hid hr
  have HE := Lib.hid he
  have HX := Lib.hid hX
  have HF0 := Lib.hid (Fr.of_below (F := H) hb0)
  have HRL := Lib.hid hrl
  have HLL := Lib.hid hll
  have HG := Lib.hid hg
  have hlrs : l.length = rs.length := by rw [← he, List.length_map]
  have HLR := Lib.hid hlrs
  obtain ⟨va, vc, rfl⟩ : ∃ a c, v = .slice a l.length c := by
    rcases hr.rec_.form with ⟨rfl, rfl⟩ | ⟨g, c, rfl, _⟩
    · exact ⟨none, 0, rfl⟩
    · exact ⟨_, _, rfl⟩
  have hT0 := HX.out _ HF0.out
  have KF := Lib.hid (frame_any g hg hT0)
  have HT0 := Lib.hid hT0
  have hrn : rn = bs.length := by
    rcases hT0 with ⟨b', o', c', e, h1, h2⟩ | ⟨rfl, a, cp, e, _⟩ <;> (cases e; rfl)
  have HRN := Lib.hid hrn
  have hby := HT0.out
  clear hX hll hrl hgd hr he hd hFG hH hH0 hm hb0 hh hg hT0 hrn hlrs hby
  have c4 := cell_of_block (o := 4) hP rfl
  have c5 := cell_of_block (o := 5) hP rfl
  have x0 := cell_of_block (o := 0) n0 rfl
  have x1 := cell_of_block (o := 1) n0 rfl
  go_enter Tryd.func22, Tryd.ntmps22
  go_upto_region 1 with fail
  have HW0 := Lib.hid hw0
  generalize w.alloc (.cells #[.int .i64 g, .slice ra rn rc] 24) = W0 at *
  go_wp2_with fail
  refine K.out.mono ?_
  rintro e w' ⟨rfl, rfl⟩
  go_wp2_with fail
  refine KF.out.mono ?_
  rintro e W1 ⟨u, rfl, ho, hb1⟩
  have mP := (hb1.block P (by omega)).trans hP
  have mB := (hb1.block _ hw0).trans n0
  clear hP n0 c4 c5 x0 x1 K KF
  simp only at ho
  by_cases hbl : bs.length ≤ 65536
  case neg =>
    rw [if_neg hbl] at ho ⊢
    have HQ := Lib.hid (HD.out.below hb1)
    have HF1 := Lib.hid hb1
    have HBL := Lib.hid hbl
    obtain ⟨ua, un, uc, rfl⟩ : ∃ a n c, u = .slice a n c := by
      rcases ho.form with ⟨rfl, _⟩ | ⟨g, c, rfl, _⟩
      · exact ⟨_, _, _, rfl⟩
      · exact ⟨_, _, _, rfl⟩
    clear ho hb1 hbl
    go_wp2_with fail
    go_ret
    unfold LogEnd addF
    rw [if_neg (by simp), if_pos (by simpa using HBL.out)]
    refine ⟨rfl, ⟨F, G, HL.out.below HF1.out, HQ.out, HFG.out, fun j hj => ⟨.inl (HH.out j hj).1, ?_⟩⟩, HF0.out.trans (Fr.of_below (F := H) HF1.out) (fun j hj => .inl hj)⟩
    have := (HH.out j hj).2
    have := HW0.out
    have := HF1.out.size
    omega
  case pos =>
  rw [if_pos hbl] at ho ⊢
  have HBL := Lib.hid hbl
  have hGR : GoodR (g, bs) := ⟨HG.out, hbl, fun x hx => by
      obtain ⟨k, hk, rfl⟩ := List.getElem_of_mem hx
      have := HT0.out.bytes8 k hk
      simpa [List.getD, List.getElem?_eq_getElem hk] using this⟩
  have HGR := Lib.hid hGR
  have hblen := body_len hGR
  have hfl : (frameF (g, bs)).length ≤ 65554 := by rw [frame_len]; omega
  obtain ⟨xs, hxs⟩ : ∃ xs, xs = frameF (g, bs) := ⟨_, rfl⟩
  rw [← hxs] at ho hfl
  obtain ⟨ua, uc, rfl⟩ : ∃ a c, u = .slice a xs.length c := by
    rcases ho.form with ⟨rfl, rfl⟩ | ⟨g, c, rfl, _⟩
    · exact ⟨_, _, rfl⟩
    · exact ⟨_, _, rfl⟩
  obtain ⟨un, hun⟩ : ∃ un, un = xs.length := ⟨_, rfl⟩
  rw [← hun] at ho
  have HUN := Lib.hid hun
  rw [← hun]
  have HO := Lib.hid ho
  have HB1 := Lib.hid hb1
  have HXS := Lib.hid hxs
  have HFL := Lib.hid hfl
  have hs1 := hb1.size
  have HD1 := Lib.hid (HD.out.below hb1)
  have HL1 := Lib.hid (HL.out.below hb1)
  have hKX : ∀ w', Fr G W1.drew w' → TxtAt w' (.slice ua un uc) xs := fun w' hf => (OwnTxt.of_block ho fun k hk => hf.block k (ownBlock_lt ho hk) (fun hg => by
    have h1 := (HH.out k (.inr hg)).2
    have h2 := ho.blockGe hk
    omega)).at
  have HKX := Lib.hid hKX
  have HF01 := Lib.hid (HF0.out.trans (Fr.of_below (F := H) hb1) (fun j hj => .inl hj))
  have hPz : P < W1.heap.size := by omega
  have hBz : w.heap.size < W1.heap.size := by omega
  have hGB : ¬ G w.heap.size := fun hg => by have := (HH.out _ (.inr hg)).2; omega
  have HGsub := Lib.hid (show ∀ w', Fr G W1 w' → Fr H W1 w' from fun w' hf => ⟨hf.os, hf.tape, hf.output, hf.size, fun j hj hn => hf.block j hj (fun hg => hn (HH.out j (.inr hg)).1)⟩)
  clear ho hb1 hxs hfl hbl hun hGR hblen hKX
  go_upto_region 8 with fail
  refine wp_region_held (S := fun X => X.cell? ⟨P, 0, none⟩ = some (.pointer (some ⟨D, 0, none⟩)) ∧ X.cell? ⟨P, 1, none⟩ = some (.int .i64 f)) hmx ?_
  change wpAnyH _ _ _ _ _ 11 _ _ W1.drew
  have hSS : W1.drew.cell? ⟨P, 0, none⟩ = some (.pointer (some ⟨D, 0, none⟩)) ∧ W1.drew.cell? ⟨P, 1, none⟩ = some (.int .i64 f) := ⟨cell_of_block (o := 0) mP rfl, cell_of_block (o := 1) mP rfl⟩
  refine wpAnyH_take (i := 0) (v := .pointer (some ⟨P, 0, none⟩)) rfl (by decide +kernel) (by decide +kernel) (by decide +kernel) (fun _ _ _ h => h) (.inl ⟨by first | rfl | (go_simp; done), fun X hX => by have hx1 := hX.1; have hx2 := hX.2; clear hX; first | (go_simp; done) | (go_simp; rfl)⟩) hSS ?_
  refine wpAnyH_take (i := 1) (v := .pointer (some ⟨P, 0, none⟩)) rfl (by decide +kernel) (by decide +kernel) (by decide +kernel) (fun _ _ _ h => h) (.inl ⟨by first | rfl | (go_simp; done), fun X hX => by have hx1 := hX.1; have hx2 := hX.2; clear hX; first | (go_simp; done) | (go_simp; rfl)⟩) hSS ?_
  refine wpAnyH_take (i := 2) (v := .pointer (some ⟨P, 0, none⟩)) rfl (by decide +kernel) (by decide +kernel) (by decide +kernel) (fun _ _ _ h => h) (.inl ⟨by first | rfl | (go_simp; done), fun X hX => by have hx1 := hX.1; have hx2 := hX.2; clear hX; first | (go_simp; done) | (go_simp; rfl)⟩) hSS ?_
  refine wpAnyH_take (i := 3) (v := .pointer (some ⟨D, 0, none⟩)) rfl (by decide +kernel) (by decide +kernel) (by decide +kernel) (fun _ _ _ h => h) (.inl ⟨by first | rfl | (go_simp; done), fun X hX => by have hx1 := hX.1; have hx2 := hX.2; clear hX; first | (go_simp; done) | (go_simp; rfl)⟩) hSS ?_
  refine wpAnyH_take (i := 4) (v := .pointer (some ⟨P, 0, none⟩)) rfl (by decide +kernel) (by decide +kernel) (by decide +kernel) (fun _ _ _ h => h) (.inl ⟨by first | rfl | (go_simp; done), fun X hX => by have hx1 := hX.1; have hx2 := hX.2; clear hX; first | (go_simp; done) | (go_simp; rfl)⟩) hSS ?_
  refine wpAnyH_take (i := 5) (v := .pointer (some ⟨P, 0, none⟩)) rfl (by decide +kernel) (by decide +kernel) (by decide +kernel) (fun _ _ _ h => h) (.inl ⟨by first | rfl | (go_simp; done), fun X hX => by have hx1 := hX.1; have hx2 := hX.2; clear hX; first | (go_simp; done) | (go_simp; rfl)⟩) hSS ?_
  refine wpAnyH_take (i := 6) (v := .pointer (some ⟨P, 1, none⟩)) rfl (by decide +kernel) (by decide +kernel) (by decide +kernel) (fun _ _ _ h => h) (.inl ⟨by first | rfl | (go_simp; done), fun X hX => by have hx1 := hX.1; have hx2 := hX.2; clear hX; first | (go_simp; done) | (go_simp; rfl)⟩) hSS ?_
  refine wpAnyH_take (i := 7) (v := .int .i64 f) rfl (by decide +kernel) (by decide +kernel) (by decide +kernel) (fun _ _ _ h => h) (.inl ⟨by first | rfl | (go_simp; done), fun X hX => by have hx1 := hX.1; have hx2 := hX.2; clear hX; first | (go_simp; done) | (go_simp; rfl)⟩) hSS ?_
  refine wpAnyH_take (i := 8) (v := .slice ua un uc) rfl (by decide +kernel) (by decide +kernel) (by decide +kernel) (fun _ _ _ h => h) (.inl ⟨by first | rfl | (go_simp; done), fun X hX => by have hx1 := hX.1; have hx2 := hX.2; clear hX; first | (go_simp; done) | (go_simp; rfl)⟩) hSS ?_
  refine anyH_call (i := 9) (by decide +kernel) rfl (by first | rfl | (go_simp; done)) (by go_simp) (append_dk (HD1.out.below (Below.refl W1.heap.size W1).drew) f ua un uc xs HUN.out HKX.out (by have := HFL.out; omega)) ?_
  rintro e w2 ⟨rfl, hd2, hf2⟩
  have hd2 : Dk w2 D (fun j => G j ∨ W1.heap.size ≤ j) _ := hd2
  have m2 := (hf2.block P hPz hPG).trans mP
  have b2 := (hf2.block w.heap.size hBz hGB).trans mB
  refine ⟨_, rfl, ⟨cell_of_block (o := 0) m2 rfl, cell_of_block (o := 1) m2 rfl⟩, ?_⟩
  have hSS2 : w2.cell? ⟨P, 0, none⟩ = some (.pointer (some ⟨D, 0, none⟩)) ∧ w2.cell? ⟨P, 1, none⟩ = some (.int .i64 f) := ⟨cell_of_block (o := 0) m2 rfl, cell_of_block (o := 1) m2 rfl⟩
  have hfd2 := drew_fr hf2
  have HF2 := Lib.hid (HF01.out.trans (HGsub.out _ hfd2) (fun j hj => .inl hj))
  have hs2 := hfd2.size
  clear hSS mP mB
  obtain ⟨c1, hc1⟩ : ∃ c, c = (callF 0 ds f xs).2 := ⟨_, rfl⟩
  rw [← hc1]
  obtain ⟨d1, hd1⟩ : ∃ d, d = (callF 0 ds f xs).1 := ⟨_, rfl⟩
  rw [← hd1] at hd2
  by_cases hc : c1 = 0
  case neg =>
    have hb : (c1 == 0) = false := by simpa using hc
    have hb2 : (c1 != 0) = true := by simp [hc]
    have HC := Lib.hid (And.intro hc hc1)
    have HD1e := Lib.hid hd1
    have HQ := Lib.hid ((LD.called (H := H) HL1.out (fun j hj => ⟨(HH.out j (.inl hj)).1, by have := (HH.out j (.inl hj)).2; omega⟩) HFG.out (fun j hj => ⟨(HH.out j (.inr hj)).1, by have := (HH.out j (.inr hj)).2; omega⟩) hd2 hfd2).more (K := fun j => H j ∨ w.heap.size ≤ j) (fun j _ hj => hj.elim .inl (fun h => .inr (by omega))))
    have mF := m2
    refine wpAnyH_take (i := 10) (v := .int .i64 c1) rfl (by decide +kernel) (by decide +kernel) (by decide +kernel) (fun _ _ _ h => h) (.inl ⟨by first | rfl | (go_simp; done), fun X hX => by clear hX; first | (go_simp; done) | (go_simp; rfl)⟩) hSS2 ?_
    refine wpAnyH_done (by decide +kernel) ?_ _
    have hof : addF ⟨f, rs, ln, false, false⟩ ds (g, bs) = ({ (⟨f, rs, ln, false, false⟩ : LS) with failed := true }, d1, c1) := by
      unfold addF
      rw [if_neg (by simp), if_neg (by have := HBL.out; simp; omega)]
      show (if (callF 0 ds f (frameF (g, bs))).2 ≠ 0 then _ else _) = _
      rw [← HXS.out, if_pos (by rw [← hc1]; exact hc), ← hc1, ← hd1]
    have HOF := Lib.hid hof
    have HS2 := Lib.hid hs2
    clear hc hc1 hd1 hSS2 m2 b2 hd2 hfd2 hf2 hs2 hof
    have c5 := cell_of_block (o := 5) mF rfl
    have q5 := free_of_block 5 mF
    have hw := (wrote_refl mF).set 5 (.bool true)
    have HMF := Lib.hid mF
    have HW := Lib.hid hw
    clear hw mF
    go_wp2_with fail
    go_ret
    unfold LogEnd
    rw [HOF.out]
    have hPH := (HH.out P (.inl HM.out)).1
    refine ⟨rfl, ?_, ?_⟩
    · obtain ⟨F2, G2, hl2, hd2, hFG2, hH2⟩ := HQ.out
      have hdk := Fr.dk (G := fun j => j = P) hd2 ⟨HW.out.os, HW.out.tape, HW.out.output, Nat.le_of_eq HW.out.size.symm, fun j _ hj => HW.out.rest j hj⟩ (fun j hj _ e => hFG2 P hl2.mem (e ▸ hj))
      exact ⟨F2, G2, hl2.fail HMF.out HW.out, hdk, hFG2, fun j hj => ⟨(hH2 j hj).1, by rw [HW.out.size]; exact (hH2 j hj).2⟩⟩
    · exact Fr.set HF2.out hPH 5 _
  case pos =>
  subst hc
  have HC1 := Lib.hid hc1
  have HD1e := Lib.hid hd1
  refine wpAnyH_take (i := 10) (v := .int .i64 0) rfl (by decide +kernel) (by decide +kernel) (by decide +kernel) (fun _ _ _ h => h) (.inl ⟨by first | rfl | (go_simp; done), fun X hX => by clear hX; first | (go_simp; done) | (go_simp; rfl)⟩) hSS2 ?_
  refine wpAnyH_done (by decide +kernel) ?_ _
  have HL2 := Lib.hid (HL1.out.keep (w' := w2) fun j hj _ => hfd2.block j (by have := (HH.out j (.inl hj)).2; omega) (HFG.out j hj))
  have HD2 := Lib.hid hd2.bound
  have HS2 := Lib.hid hs2
  have mP := m2
  have hPz : P < w2.heap.size := by omega
  have hG2P : ¬ ((G P ∨ W1.heap.size ≤ P) ∧ P < w2.heap.size) := fun h => by rcases h.1 with h | h; exact hPG h; omega
  have hG2B : ¬ ((G w.heap.size ∨ W1.heap.size ≤ w.heap.size) ∧ w.heap.size < w2.heap.size) := fun h => by rcases h.1 with h | h; exact hGB h; omega
  have HB2 := Lib.hid b2
  clear hc1 hd1 hSS2 hd2 hfd2 hf2 hs2 b2 m2
  go_upto_region 10 with fail
  refine wp_region_held (S := fun X => X.cell? ⟨P, 0, none⟩ = some (.pointer (some ⟨D, 0, none⟩)) ∧ X.cell? ⟨P, 1, none⟩ = some (.int .i64 f)) hmx ?_
  change wpAnyH _ _ _ _ _ 10 _ _ w2.drew
  have hSS : w2.drew.cell? ⟨P, 0, none⟩ = some (.pointer (some ⟨D, 0, none⟩)) ∧ w2.drew.cell? ⟨P, 1, none⟩ = some (.int .i64 f) := ⟨cell_of_block (o := 0) mP rfl, cell_of_block (o := 1) mP rfl⟩
  refine wpAnyH_take (i := 0) (v := .pointer (some ⟨P, 0, none⟩)) rfl (by decide +kernel) (by decide +kernel) (by decide +kernel) (fun _ _ _ h => h) (.inl ⟨by first | rfl | (go_simp; done), fun X hX => by have hx1 := hX.1; have hx2 := hX.2; clear hX; first | (go_simp; done) | (go_simp; rfl)⟩) hSS ?_
  refine wpAnyH_take (i := 1) (v := .pointer (some ⟨P, 0, none⟩)) rfl (by decide +kernel) (by decide +kernel) (by decide +kernel) (fun _ _ _ h => h) (.inl ⟨by first | rfl | (go_simp; done), fun X hX => by have hx1 := hX.1; have hx2 := hX.2; clear hX; first | (go_simp; done) | (go_simp; rfl)⟩) hSS ?_
  refine wpAnyH_take (i := 2) (v := .pointer (some ⟨P, 0, none⟩)) rfl (by decide +kernel) (by decide +kernel) (by decide +kernel) (fun _ _ _ h => h) (.inl ⟨by first | rfl | (go_simp; done), fun X hX => by have hx1 := hX.1; have hx2 := hX.2; clear hX; first | (go_simp; done) | (go_simp; rfl)⟩) hSS ?_
  refine wpAnyH_take (i := 3) (v := .pointer (some ⟨D, 0, none⟩)) rfl (by decide +kernel) (by decide +kernel) (by decide +kernel) (fun _ _ _ h => h) (.inl ⟨by first | rfl | (go_simp; done), fun X hX => by have hx1 := hX.1; have hx2 := hX.2; clear hX; first | (go_simp; done) | (go_simp; rfl)⟩) hSS ?_
  refine wpAnyH_take (i := 4) (v := .pointer (some ⟨P, 0, none⟩)) rfl (by decide +kernel) (by decide +kernel) (by decide +kernel) (fun _ _ _ h => h) (.inl ⟨by first | rfl | (go_simp; done), fun X hX => by have hx1 := hX.1; have hx2 := hX.2; clear hX; first | (go_simp; done) | (go_simp; rfl)⟩) hSS ?_
  refine wpAnyH_take (i := 5) (v := .pointer (some ⟨P, 0, none⟩)) rfl (by decide +kernel) (by decide +kernel) (by decide +kernel) (fun _ _ _ h => h) (.inl ⟨by first | rfl | (go_simp; done), fun X hX => by have hx1 := hX.1; have hx2 := hX.2; clear hX; first | (go_simp; done) | (go_simp; rfl)⟩) hSS ?_
  refine wpAnyH_take (i := 6) (v := .pointer (some ⟨P, 1, none⟩)) rfl (by decide +kernel) (by decide +kernel) (by decide +kernel) (fun _ _ _ h => h) (.inl ⟨by first | rfl | (go_simp; done), fun X hX => by have hx1 := hX.1; have hx2 := hX.2; clear hX; first | (go_simp; done) | (go_simp; rfl)⟩) hSS ?_
  refine wpAnyH_take (i := 7) (v := .int .i64 f) rfl (by decide +kernel) (by decide +kernel) (by decide +kernel) (fun _ _ _ h => h) (.inl ⟨by first | rfl | (go_simp; done), fun X hX => by have hx1 := hX.1; have hx2 := hX.2; clear hX; first | (go_simp; done) | (go_simp; rfl)⟩) hSS ?_
  refine anyH_call (i := 8) (by decide +kernel) rfl (by first | rfl | (go_simp; done)) (by go_simp) (sync_dk (HD2.out.below (Below.refl w2.heap.size w2).drew) f) ?_
  rintro e w3 ⟨rfl, hd3, hf3⟩
  have hd3 : Dk w3 D (fun j => ((G j ∨ W1.heap.size ≤ j) ∧ j < w2.heap.size) ∨ w2.heap.size ≤ j) _ := hd3
  have m3 := (hf3.block P hPz hG2P).trans mP
  have b3 := (hf3.block w.heap.size (by show w.heap.size < w2.heap.size; have := HS2.out; omega) hG2B).trans HB2.out
  refine ⟨_, rfl, ⟨cell_of_block (o := 0) m3 rfl, cell_of_block (o := 1) m3 rfl⟩, ?_⟩
  have hSS3 : w3.cell? ⟨P, 0, none⟩ = some (.pointer (some ⟨D, 0, none⟩)) ∧ w3.cell? ⟨P, 1, none⟩ = some (.int .i64 f) := ⟨cell_of_block (o := 0) m3 rfl, cell_of_block (o := 1) m3 rfl⟩
  have hfd3 := drew_fr hf3
  have hs2 := HS2.out
  have hs3 := hfd3.size
  have HF3 := Lib.hid (HF2.out.trans (Fr.trans (F := fun j => H j ∨ W1.heap.size ≤ j) (Fr.refl _ _) hfd3 (fun j hj => by rcases hj.1 with h | h; exact .inl (.inl (HH.out j (.inr h)).1); exact .inl (.inr h))) (fun j hj => by rcases hj with h | h; exact .inl h; exact .inr (by omega)))
  clear hSS mP
  obtain ⟨c2, hc2⟩ : ∃ c, c = (callF 1 d1 f []).2 := ⟨_, rfl⟩
  rw [← hc2]
  obtain ⟨d2, hd2⟩ : ∃ d, d = (callF 1 d1 f []).1 := ⟨_, rfl⟩
  rw [← hd2] at hd3
  have hL3 := HL2.out.keep (w' := w3) fun j hj _ => hfd3.block j (by have := (HH.out j (.inl hj)).2; omega) (fun h => by rcases h.1 with h | h; exact HFG.out j hj h; have := (HH.out j (.inl hj)).2; omega)
  have hQ3 : LD w3 P D (fun j => H j ∨ w.heap.size ≤ j) ⟨f, rs, ln, false, false⟩ d2 := LD.of hL3 hd3 (fun j _ hj hg => by
      have h1 := (HH.out j (.inl hj)).2
      rcases hg with hg | hg
      · rcases hg.1 with hg | hg
        · exact HFG.out j hj hg
        · omega
      · omega) (fun j _ hj => .inl (HH.out j (.inl hj)).1) (fun j _ hj => by
      rcases hj with hg | hg
      · rcases hg.1 with hg | hg
        · exact .inl (HH.out j (.inr hg)).1
        · exact .inr (by omega)
      · exact .inr (by omega))
  by_cases hc : c2 = 0
  case neg =>
    have hb : (c2 == 0) = false := by simpa using hc
    have hb2 : (c2 != 0) = true := by simp [hc]
    have HC := Lib.hid (And.intro hc hc2)
    have HQ := Lib.hid hQ3
    have HF2 := HF3
    have mF := m3
    refine wpAnyH_take (i := 9) (v := .int .i64 c2) rfl (by decide +kernel) (by decide +kernel) (by decide +kernel) (fun _ _ _ h => h) (.inl ⟨by first | rfl | (go_simp; done), fun X hX => by clear hX; first | (go_simp; done) | (go_simp; rfl)⟩) hSS3 ?_
    refine wpAnyH_done (by decide +kernel) ?_ _
    have hof : addF ⟨f, rs, ln, false, false⟩ ds (g, bs) = ({ (⟨f, rs, ln, false, false⟩ : LS) with failed := true }, d2, c2) := by
      unfold addF
      rw [if_neg (by simp), if_neg (by have := HBL.out; simp; omega)]
      show (if (callF 0 ds f (frameF (g, bs))).2 ≠ 0 then _ else _) = _
      rw [← HXS.out, if_neg (by rw [← HC1.out]; simp)]
      show (if (callF 1 (callF 0 ds f xs).1 f []).2 ≠ 0 then _ else _) = _
      rw [← HD1e.out, if_pos (by rw [← hc2]; exact hc), ← hc2, ← hd2]
    have HOF := Lib.hid hof
    clear hc hc2 hd2 hSS3 m3 b3 hd3 hfd3 hf3 hs2 hs3 hL3 hQ3 hof
    have c5 := cell_of_block (o := 5) mF rfl
    have q5 := free_of_block 5 mF
    have hw := (wrote_refl mF).set 5 (.bool true)
    have HMF := Lib.hid mF
    have HW := Lib.hid hw
    clear hw mF
    go_wp2_with fail
    go_ret
    unfold LogEnd
    rw [HOF.out]
    have hPH := (HH.out P (.inl HM.out)).1
    refine ⟨rfl, ?_, ?_⟩
    · obtain ⟨F2, G2, hl2, hd2, hFG2, hH2⟩ := HQ.out
      have hdk := Fr.dk (G := fun j => j = P) hd2 ⟨HW.out.os, HW.out.tape, HW.out.output, Nat.le_of_eq HW.out.size.symm, fun j _ hj => HW.out.rest j hj⟩ (fun j hj _ e => hFG2 P hl2.mem (e ▸ hj))
      exact ⟨F2, G2, hl2.fail HMF.out HW.out, hdk, hFG2, fun j hj => ⟨(hH2 j hj).1, by rw [HW.out.size]; exact (hH2 j hj).2⟩⟩
    · exact Fr.set HF2.out hPH 5 _
  case pos =>
  subst hc
  refine wpAnyH_take (i := 9) (v := .int .i64 0) rfl (by decide +kernel) (by decide +kernel) (by decide +kernel) (fun _ _ _ h => h) (.inl ⟨by first | rfl | (go_simp; done), fun X hX => by clear hX; first | (go_simp; done) | (go_simp; rfl)⟩) hSS3 ?_
  refine wpAnyH_done (by decide +kernel) ?_ _
  have hof : addF ⟨f, rs, ln, false, false⟩ ds (g, bs) = (⟨f, rs ++ [(g, bs)], ln + xs.length, false, false⟩, d2, 0) := by
    unfold addF
    rw [if_neg (by simp), if_neg (by have := HBL.out; simp; omega)]
    show (if (callF 0 ds f (frameF (g, bs))).2 ≠ 0 then _ else _) = _
    rw [← HXS.out, if_neg (by rw [← HC1.out]; simp)]
    show (if (callF 1 (callF 0 ds f xs).1 f []).2 ≠ 0 then _ else _) = _
    rw [← HD1e.out, if_neg (by rw [← hc2]; simp), ← hd2]
  have HOF := Lib.hid hof
  have HL3 := Lib.hid hL3
  have HD3 := Lib.hid hd3.bound
  have hTr := HX.out w3 HF3.out
  have KA := Lib.hid (alone_any (hTr.below (Below.refl w3.heap.size w3).drew) (by have := HBL.out; omega))
  have hP3 : P < w3.heap.size := by omega
  have hB3 : w.heap.size < w3.heap.size := by omega
  have hlb : l.length ≤ 1099511627776 := by have := HLR.out; have := HRL.out; omega
  have HM3 := Lib.hid m3
  clear hc2 hd2 hSS3 hd3 hfd3 hf3 hL3 hQ3 hof hTr
  go_upto_region 14 with fail
  refine Ap.wp_region_K (S1 := fun X : World => X.heap[w.heap.size]? = some (.cells #[.int .i64 g, .slice ra rn rc] 24 (0, 0))) (S2 := fun X : World => X.cell? ⟨P, 2, none⟩ = some (.slice va l.length vc)) (js := 12) hmx ?_
  change Ap.wpAnyK _ _ _ _ _ _ _ 16 _ _ w3.drew
  have hSS : (fun X : World => X.heap[w.heap.size]? = some (.cells #[.int .i64 g, .slice ra rn rc] 24 (0, 0))) w3.drew ∧ (fun X : World => X.cell? ⟨P, 2, none⟩ = some (.slice va l.length vc)) w3.drew := ⟨b3, cell_of_block (o := 2) m3 rfl⟩
  refine Ap.wpAnyK_take1 (i := 0) (v := .pointer (some ⟨P, 0, none⟩)) rfl (by decide) (by decide +kernel) (by decide +kernel) (by decide +kernel) (fun _ _ _ h => h) (.inl ⟨by first | rfl | (go_simp; done), fun X hX => by have hx0 := cell_of_block (o := 0) hX rfl; have hx1 := cell_of_block (o := 1) hX rfl; clear hX; first | (go_simp; done) | (go_simp; rfl)⟩) hSS ?_
  refine Ap.wpAnyK_take1 (i := 1) (v := .pointer (some ⟨P, 0, none⟩)) rfl (by decide) (by decide +kernel) (by decide +kernel) (by decide +kernel) (fun _ _ _ h => h) (.inl ⟨by first | rfl | (go_simp; done), fun X hX => by have hx0 := cell_of_block (o := 0) hX rfl; have hx1 := cell_of_block (o := 1) hX rfl; clear hX; first | (go_simp; done) | (go_simp; rfl)⟩) hSS ?_
  refine Ap.wpAnyK_take1 (i := 2) (v := .pointer (some ⟨P, 0, none⟩)) rfl (by decide) (by decide +kernel) (by decide +kernel) (by decide +kernel) (fun _ _ _ h => h) (.inl ⟨by first | rfl | (go_simp; done), fun X hX => by have hx0 := cell_of_block (o := 0) hX rfl; have hx1 := cell_of_block (o := 1) hX rfl; clear hX; first | (go_simp; done) | (go_simp; rfl)⟩) hSS ?_
  refine Ap.wpAnyK_take1 (i := 3) (v := .pointer (some ⟨P, 2, none⟩)) rfl (by decide) (by decide +kernel) (by decide +kernel) (by decide +kernel) (fun _ _ _ h => h) (.inl ⟨by first | rfl | (go_simp; done), fun X hX => by have hx0 := cell_of_block (o := 0) hX rfl; have hx1 := cell_of_block (o := 1) hX rfl; clear hX; first | (go_simp; done) | (go_simp; rfl)⟩) hSS ?_
  refine Ap.wpAnyK_take1 (i := 5) (v := .pointer (some ⟨w.heap.size, 0, none⟩)) rfl (by decide) (by decide +kernel) (by decide +kernel) (by decide +kernel) (fun _ _ _ h => h) (.inl ⟨by first | rfl | (go_simp; done), fun X hX => by have hx0 := cell_of_block (o := 0) hX rfl; have hx1 := cell_of_block (o := 1) hX rfl; clear hX; first | (go_simp; done) | (go_simp; rfl)⟩) hSS ?_
  refine Ap.wpAnyK_take1 (i := 6) (v := .int .i64 g) rfl (by decide) (by decide +kernel) (by decide +kernel) (by decide +kernel) (fun _ _ _ h => h) (.inl ⟨by first | rfl | (go_simp; done), fun X hX => by have hx0 := cell_of_block (o := 0) hX rfl; have hx1 := cell_of_block (o := 1) hX rfl; clear hX; first | (go_simp; done) | (go_simp; rfl)⟩) hSS ?_
  refine Ap.wpAnyK_take1 (i := 7) (v := .pointer (some ⟨w.heap.size, 1, none⟩)) rfl (by decide) (by decide +kernel) (by decide +kernel) (by decide +kernel) (fun _ _ _ h => h) (.inl ⟨by first | rfl | (go_simp; done), fun X hX => by have hx0 := cell_of_block (o := 0) hX rfl; have hx1 := cell_of_block (o := 1) hX rfl; clear hX; first | (go_simp; done) | (go_simp; rfl)⟩) hSS ?_
  refine Ap.wpAnyK_take1 (i := 8) (v := .slice ra rn rc) rfl (by decide) (by decide +kernel) (by decide +kernel) (by decide +kernel) (fun _ _ _ h => h) (.inl ⟨by first | rfl | (go_simp; done), fun X hX => by have hx0 := cell_of_block (o := 0) hX rfl; have hx1 := cell_of_block (o := 1) hX rfl; clear hX; first | (go_simp; done) | (go_simp; rfl)⟩) hSS ?_
  refine Ap.wpAnyK_take2 (i := 4) (v := .slice va l.length vc) rfl (by decide) (by decide +kernel) (by decide +kernel) (by decide +kernel) rfl (by decide +kernel) (by decide +kernel) (fun _ _ _ h => h) (.inl ⟨by first | rfl | (go_simp; done), fun X hX => by have hx1 := hX.2; clear hX; first | (go_simp; done) | (go_simp; rfl)⟩) hSS ?_
  refine Ap.anyK_call (i := 9) (by decide +kernel) rfl rfl (by go_simp) KA.out ?_
  rintro e w4 ⟨u, rfl, hu, hb4⟩
  have hb4 : Below w3.heap.size w3 w4 := (Below.refl w3.heap.size w3).drew.trans hb4
  have hu : AloneT w4 w3.heap.size u bs := hu
  have m4 := (hb4.block P hP3).trans m3
  have b4 := (hb4.block _ hB3).trans b3
  have hSS4 : (fun X : World => X.heap[w.heap.size]? = some (.cells #[.int .i64 g, .slice ra rn rc] 24 (0, 0))) w4 ∧ (fun X : World => X.cell? ⟨P, 2, none⟩ = some (.slice va l.length vc)) w4 := ⟨b4, cell_of_block (o := 2) m4 rfl⟩
  refine ⟨u, rfl, ⟨hSS4.1, fun _ => hSS4.2⟩, ?_⟩
  obtain ⟨ub, hue⟩ : ∃ ub, u = (RV.mk g bs ub).val := by
    obtain ⟨a, c, e, _⟩ := hu
    exact ⟨a, e⟩
  subst hue
  unfold RV.val
  simp only
  refine Ap.wpAnyK_take1 (i := 10) (v := .agg #[.int .i64 g, .slice ub bs.length bs.length]) rfl (by decide) (by decide +kernel) (by decide +kernel) (by decide +kernel) (fun _ _ _ h => h) (.inl ⟨by first | rfl | (go_simp; done), fun X hX => by clear hX; first | (go_simp; done) | (go_simp; rfl)⟩) hSS4 ?_
  have hb5 := below_alloc (Below.refl _ w4) (.cells #[.int .i64 g, .slice ub bs.length bs.length] 24)
  have n5 := World.alloc_heap_new w4 (.cells #[.int .i64 g, .slice ub bs.length bs.length] 24)
  have hs5 : (w4.alloc (.cells #[.int .i64 g, .slice ub bs.length bs.length] 24)).heap.size = w4.heap.size + 1 := by simp
  have hP4 : P < w4.heap.size := Nat.lt_of_lt_of_le hP3 hb4.size
  have hB4 : w.heap.size < w4.heap.size := Nat.lt_of_lt_of_le hB3 hb4.size
  have m5 := (hb5.block P hP4).trans m4
  have b5 := (hb5.block _ hB4).trans b4
  refine Ap.anyK_val1 (i := 11) (v := .slice (some ⟨w4.heap.size, 0, none⟩) 1 1) (w' := w4.alloc (.cells #[.int .i64 g, .slice ub bs.length bs.length] 24)) (by decide +kernel) rfl rfl (by first | (go_simp; done) | (go_simp; rfl)) ⟨b5, cell_of_block (o := 2) m5 rfl⟩ ?_
  obtain ⟨hm3, hgd3, v3, l3, hP3b, hr3, he3⟩ := HL3.out
  have e3 : v3 = .slice va l.length vc := by
    rw [m3] at hP3b
    injection hP3b with h1
    injection h1 with h1
    simp at h1
    exact h1.symm
  subst e3
  have hl3 : l3.length = l.length := by
    rcases hr3.rec_.form with ⟨rfl, h⟩ | ⟨g', c, h, _⟩
    · injection h with _ h2 _; rw [h2]; rfl
    · injection h with _ h2 _; exact h2.symm
  have hrow5 : (w4.alloc (.cells #[.int .i64 g, .slice ub bs.length bs.length] 24)).ownsRow 0 24 2 (.slice va l.length vc) l.length (flatJ l3) := by
    have := Ap.own_below (Ap.own_below hr3.rec_.row hb4) hb5
    rw [hl3] at this
    exact this
  obtain ⟨i0, hi0, hz0, hz1, hz2⟩ := info_parts info_rec
  obtain ⟨v6, w6, hrun, ho6, hg6, _, hw6⟩ := run_append_own_at (P := Tryd.prog) (w4.alloc (.cells #[.int .i64 g, .slice ub bs.length bs.length] 24)) 0 33 33 24 i0 _ 2 32 Tryd.underlying33 hi0 hz0 hz1 hz2 rfl (by decide) (.slice va l.length vc) l.length (flatJ l3) hrow5 ⟨w4.heap.size, 0, none⟩ 1 1 [.int .i64 g, .slice ub bs.length bs.length] rfl (fun j u hj => cells_two w4 _ _ _ j u hj) (by intro u hu; simp at hu; rcases hu with rfl | rfl <;> rfl) (by unfold maxLen; omega) (by omega) (Nat.zero_le _)
  obtain ⟨a6, c6, rfl⟩ : ∃ a c, v6 = .slice a (l.length + 1) c := by
    rcases ho6.2 with ⟨_, h⟩ | ⟨g', cap, cur, h, _⟩
    · omega
    · exact ⟨_, _, h⟩
  have hP5 : P < (w4.alloc (.cells #[.int .i64 g, .slice ub bs.length bs.length] 24)).heap.size := by omega
  have hB5 : w.heap.size < (w4.alloc (.cells #[.int .i64 g, .slice ub bs.length bs.length] 24)).heap.size := by omega
  have hrowF : ∀ k, (Value.slice va l.length vc).ownBlock = some k → F k ∧ k ≠ P := hr3.row
  have m6 := (hg6.block P hP5 (fun e => (hrowF P e.symm).2 rfl)).trans m5
  have b6 := (hg6.block _ hB5 (fun e => by have h1 := (hrowF _ e.symm).1; have h2 := (HH.out _ (.inl h1)).2; omega)).trans b5
  refine Ap.anyK_val1 (i := 12) (v := .slice a6 (l.length + 1) c6) (w' := w6) (by decide +kernel) rfl rfl (Ap.exec_app rfl (by go_simp) (by go_simp) hrun) ⟨b6, cell_of_block (o := 2) m6 rfl⟩ ?_
  have hSS6 : (fun X : World => X.heap[w.heap.size]? = some (.cells #[.int .i64 g, .slice ra rn rc] 24 (0, 0))) w6 ∧ (fun X : World => X.cell? ⟨P, 2, none⟩ = some (.slice va l.length vc)) w6 := ⟨b6, cell_of_block (o := 2) m6 rfl⟩
  refine Ap.anyK_val1 (i := 13) (v := .pointer (some ⟨P, 0, none⟩)) (w' := w6) (by decide +kernel) rfl rfl (by first | (go_simp; done) | (go_simp; rfl)) hSS6 ?_
  refine Ap.anyK_val1 (i := 14) (v := .pointer (some ⟨P, 2, none⟩)) (w' := w6) (by decide +kernel) rfl rfl (by first | (go_simp; done) | (go_simp; rfl)) hSS6 ?_
  have hw7 := (wrote_refl m6).set 2 (.slice a6 (l.length + 1) c6)
  have q2 := free_of_block 2 m6
  have z2 := cell_of_block (o := 2) m6 rfl
  have hBP : w.heap.size ≠ P := fun e => hPne e.symm
  refine Ap.anyK_store (i := 15) (w' := w6.setCell ⟨P, 2, none⟩ (.slice a6 (l.length + 1) c6)) (by decide +kernel) rfl rfl (by decide +kernel) (by first | (go_simp; done) | (go_simp; rfl)) ((hw7.rest _ hBP).trans b6) ?_
  refine Ap.wpAnyK_done (by decide +kernel) ?_ _
  have q3 := free_of_block 3 hw7.there
  have z3 : (w6.setCell ⟨P, 2, none⟩ (.slice a6 (l.length + 1) c6)).cell? ⟨P, 3, none⟩ = some (.int .i64 (ln : Int)) := cell_of_block (o := 3) hw7.there rfl
  have hw8 := hw7.set 3 (.int .i64 ((ln : Int) + (un : Int)))
  have hwr : IntKind.i64.wrap ((ln : Int) + (un : Int)) = (ln : Int) + (un : Int) := by have := HLL.out; have := HUN.out; have := HFL.out; rw [IntKind.wrap_i64]; omega
  have HU := Lib.hid hu
  have HG6 := Lib.hid hg6
  have HO6 := Lib.hid ho6
  have HW6 := Lib.hid hw6
  have HW8 := Lib.hid hw8
  have HB5 := Lib.hid (hb4.trans (hb5.mono hb4.size))
  have HT5 := Lib.hid hrow5
  have HB45 := Lib.hid hb5
  have HRW := Lib.hid hrowF
  have HR3 := Lib.hid hr3
  have HE3 := Lib.hid he3
  have HGD3 := Lib.hid hgd3
  have HS5 := Lib.hid hs5
  have HS4 := Lib.hid hb4.size
  generalize w4.alloc (.cells #[.int .i64 g, .slice ub bs.length bs.length] 24) = w5 at *
  clear hu hg6 ho6 hw6 hw7 hw8 hb4 hb5 hrow5 hrowF hr3 he3 hgd3 m3 m4 m5 m6 b3 b4 b5 b6 n5 hSS hSS4 hSS6 q2 z2 hrun hP3b KA hs5
  generalize w6.setCell ⟨P, 2, none⟩ (.slice a6 (l.length + 1) c6) = w7 at *
  go_wp2_with fail
  go_ret
  unfold LogEnd
  rw [HOF.out]
  generalize w7.setCell ⟨P, 3, none⟩ (.int .i64 ((ln : Int) + (un : Int))) = w8 at *
  have hs4 := HS4.out
  have hs5 := HS5.out
  have hblk : ∀ j, j < w3.heap.size → ¬ F j → w8.heap[j]? = w3.heap[j]? := fun j hj hn => (HW8.out.rest j (fun e => hn (e ▸ HM.out))).trans ((HG6.out.block j (by omega) (fun e => hn (HRW.out j e.symm).1)).trans (HB5.out.block j hj))
  have hfr : Fr F w3 w8 := ⟨HW8.out.os.trans (HG6.out.os.trans HB5.out.os), HW8.out.tape.trans (HG6.out.tape.trans HB5.out.tape), HW8.out.output.trans (HG6.out.output.trans HB5.out.output), by rw [HW8.out.size]; exact Nat.le_trans HB5.out.size HG6.out.size, hblk⟩
  have hty : ∀ (j : Nat) cs m, w5.heap[j]? = some (.cells cs 5 m) → w8.heap[j]? = w5.heap[j]? := fun j cs m hj => by
    have hjlt := (Array.getElem?_eq_some_iff.1 hj).1
    have hjP : j ≠ P := fun e => by
      subst e
      have h3 := HB5.out.block j hP3
      rw [hj, HM3.out] at h3
      cases h3
    refine (HW8.out.rest j hjP).trans (HG6.out.block j hjlt fun e => ?_)
    rcases HT5.out.2 with ⟨h, _⟩ | ⟨g', cap, cur, h, _, hh, _⟩
    · rw [h] at e; cases e
    · rw [h] at e
      simp only [Value.ownBlock, Option.some.injEq] at e
      subst e
      rw [hj] at hh
      cases hh
  refine ⟨rfl, ⟨fun j => F j ∨ (w3.heap.size ≤ j ∧ j < w8.heap.size), _, ⟨.inl HM.out, fun r hr => ?_, .slice a6 (l.length + 1) c6, l3 ++ [⟨g, bs, ub⟩], ?_, ⟨⟨?_, fun x hx => ?_⟩, fun k hk => ?_, fun x hx p hp => ?_⟩, ?_⟩, Fr.dk HD3.out hfr (fun j hj _ hF => ?_), fun j hj hg => ?_, fun j hj => ?_⟩, HF3.out.trans (G := F) hfr (fun j hj => .inl (HH.out j (.inl hj)).1)⟩
  · rcases List.mem_append.1 hr with hr | hr
    · exact HGD3.out r hr
    · rw [List.mem_singleton.1 hr]; exact HGR.out
  · have := HW8.out.there
    rw [HUN.out, ← Int.natCast_add] at this
    exact this
  · have h1 := HO6.out
    have h2 : w8.ownsRow 0 24 2 (.slice a6 (l.length + 1) c6) (l.length + 1) (flatJ l3 ++ [.int .i64 g, .slice ub bs.length bs.length]) := Ap.own_keep h1 fun k hk => HW8.out.rest k (fun e => by
      rcases HW6.out with h | h
      · rw [h] at hk; exact (HRW.out k hk).2 e
      · rw [h] at hk; cases hk; omega)
    rw [flatJ_append, List.length_append, hl3]
    exact h2
  · rcases List.mem_append.1 hx with hx | hx
    · exact (((HR3.out.rec_.txt x hx).below HB5.out)).of_block fun g' cs m hg' _ => hty g' cs m hg'
    · rw [List.mem_singleton.1 hx]
      have h4 := HU.out
      exact ((h4.below HB45.out).base (Nat.zero_le _)).of_block fun g' cs m hg' _ => hty g' cs m hg'
  · rcases HW6.out with h | h
    · rw [h] at hk; exact ⟨.inl (HRW.out k hk).1, (HRW.out k hk).2⟩
    · rw [h] at hk
      simp only [Option.some.injEq] at hk
      have h7 : w5.heap.size < w6.heap.size := by
        have := Ap.own_lt HO6.out w5.heap.size h
        exact this
      have h8 := HW8.out.size
      exact ⟨.inr ⟨by omega, by omega⟩, by omega⟩
  · rcases List.mem_append.1 hx with hx | hx
    · exact ⟨.inl (HR3.out.txt x hx p hp).1, (HR3.out.txt x hx p hp).2⟩
    · rw [List.mem_singleton.1 hx] at hp
      simp only at hp
      subst hp
      obtain ⟨a, c, e, ho⟩ := HU.out
      unfold RV.val at e
      simp only at e
      cases e
      have h1 := ho.blockGe (g := p.block) rfl
      have h2 := ownBlock_lt ho (g := p.block) rfl
      have h8 := HW8.out.size
      have h9 := HG6.out.size
      exact ⟨.inr ⟨h1, by omega⟩, by omega⟩
  · rw [List.map_append, HE3.out]; rfl
  · rcases hj.1 with h | h
    · rcases h.1 with h | h
      · exact HFG.out j hF h
      · have := (HH.out j (.inl hF)).2; omega
    · have := (HH.out j (.inl hF)).2; omega
  · rcases hj with hF | hF
    · rcases hg.1 with h | h
      · rcases h.1 with h | h
        · exact HFG.out j hF h
        · have := (HH.out j (.inl hF)).2; omega
      · have := (HH.out j (.inl hF)).2; omega
    · have := hg.2; omega
  · rcases hj with hj | hj
    · rcases hj with hj | hj
      · have h1 := HH.out j (.inl hj)
        have h2 := hfr.size
        exact ⟨.inl h1.1, by omega⟩
      · exact ⟨.inr (by omega), hj.2⟩
    · have h1 := hj.2
      have h2 := hfr.size
      refine ⟨?_, by omega⟩
      rcases hj.1 with h | h
      · rcases h.1 with h | h
        · exact .inl (HH.out j (.inr h)).1
        · exact .inr (by omega)
      · exact .inr (by omega)
theorem add_ld {w : World} {P D : Nat} {H : Nat → Prop} {st : LS} {ds : DS} (h : LD w P D H st ds) (g : Int) (hg : -9223372036854775808 ≤ g ∧ g ≤ 9223372036854775807) (ra : Option Addr) (rn rc : Nat) (bs : List Int)
    (hX : ∀ w', Fr H w w' → TxtAt w' (.slice ra rn rc) bs) (hrl : st.rs.length ≤ 1099511627776) (hll : st.len ≤ 1099511627776) :
    Calls Tryd.prog 22 #[.pointer (some ⟨P, 0, none⟩), .agg #[.int .i64 g, .slice ra rn rc]] w fun e w' => LogEnd w P D H (addF st ds (g, bs)) e w' := by
  by_cases hb : st.torn = true ∨ st.failed = true
  · exact add_bad h g ra rn rc bs hb
  · obtain ⟨f, rs, ln, torn, failed⟩ := st
    obtain ⟨rfl, rfl⟩ : torn = false ∧ failed = false := by simpa using hb
    exact add_good h g hg ra rn rc bs hX hrl hll
end
end Go.Proofs.YtomhfnaekjmjnaaDoor
