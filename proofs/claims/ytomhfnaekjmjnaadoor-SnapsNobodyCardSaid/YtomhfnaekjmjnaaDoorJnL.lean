/- A log in memory: its block, its records; what its readings answer. No condition. The texts of a generation: Of, and a law's Texts. Condition: fewer than 998 records. A law's Texts, of a log and of none; what a parse leaves may be. Condition: fewer than 998 records. A log over a disk, plainly: what Open, Add and Clear come to; where it lies. No condition. -/
import Derived.Test.YtomhfnaekjmjnaaDoorJne
import Derived.Test.YtomhfnaekjmjnaaDoorDkW
namespace Go.Proofs.YtomhfnaekjmjnaaDoor
set_option linter.unusedVariables false
section
open Go.ChangeShapes Go.WideShapes Go.ChangeAt Go.RowKit
attribute [local go_sem ↓] Go.wp_at_zero Go.wp_at_succ comesTo_value_eq comesTo_skip_eq comesTo_enter_eq

/-- what a log holds -/
structure LS where
  f : Int
  rs : List JRec
  len : Nat
  torn : Bool
  failed : Bool
/-- records in a row, among F's blocks -/
structure RecsF (w : World) (F : Nat → Prop) (v : Value) (l : List RV) : Prop where
  rec_ : RecsJ w 0 v l
  row : ∀ g, v.ownBlock = some g → F g
  txt : ∀ x ∈ l, ∀ p, x.ad = some p → F p.block
theorem RecsF.keep {w w' : World} {F : Nat → Prop} {v : Value} {l : List RV} (h : RecsF w F v l) (hk : ∀ j, F j → j < w.heap.size → w'.heap[j]? = w.heap[j]?) : RecsF w' F v l := by
  refine ⟨⟨⟨h.rec_.row.1, ?_⟩, fun x hx => ?_⟩, h.row, h.txt⟩
  · rcases h.rec_.row.2 with hn | ⟨g, cap, cur, hv, hB, hg, rest⟩
    · exact .inl hn
    · exact .inr ⟨g, cap, cur, hv, hB, (hk g (h.row g (by rw [hv]; rfl)) (Array.getElem?_eq_some_iff.1 hg).1).trans hg, rest⟩
  · obtain ⟨ad, c, e, ho⟩ := h.rec_.txt x hx
    refine ⟨ad, c, e, ho.of_block fun g hg => ?_⟩
    have e2 : x.ad = ad := by unfold RV.val at e; cases e; rfl
    cases ad with
    | none => cases hg
    | some p =>
      simp only [Value.ownBlock, Option.some.injEq] at hg
      subst hg
      exact hk _ (h.txt x hx p e2) (ownBlock_lt ho rfl)
theorem RecsF.more {w : World} {F G : Nat → Prop} {v : Value} {l : List RV} (h : RecsF w F v l) (hG : ∀ j, F j → G j) : RecsF w G v l := ⟨h.rec_, fun g hg => hG _ (h.row g hg), fun x hx p hp => hG _ (h.txt x hx p hp)⟩
theorem RecsF.nil {w : World} {F : Nat → Prop} : RecsF w F (.slice none 0 0) [] := ⟨RecsJ.nil, fun g h => (by cases h), fun x h => (by cases h)⟩
theorem RecsF.of {w : World} {B : Nat} {v : Value} {l : List RV} (h : RecsJ w B v l) : RecsF w (fun j => B ≤ j ∧ j < w.heap.size) v l := by
  refine ⟨h.base (Nat.zero_le _), fun g hg => ⟨Ap.own_blk h.row g hg, Ap.own_lt h.row g hg⟩, fun x hx p hp => ?_⟩
  obtain ⟨ad, c, e, ho⟩ := h.txt x hx
  have e2 : x.ad = ad := by unfold RV.val at e; cases e; rfl
  rw [hp] at e2
  subst e2
  exact ⟨ho.blockGe (g := p.block) rfl, ownBlock_lt ho (g := p.block) rfl⟩
/-- a log in block P, over the disk in block D, its blocks among F -/
structure Lg (w : World) (P D : Nat) (F : Nat → Prop) (st : LS) : Prop where
  mem : F P
  good : ∀ r ∈ st.rs, GoodR r
  at_ : ∃ v l, w.heap[P]? = some (.cells #[.pointer (some ⟨D, 0, none⟩), .int .i64 st.f, v, .int .i64 st.len, .bool st.torn, .bool st.failed] 62 (0, 0)) ∧ RecsF w (fun j => F j ∧ j ≠ P) v l ∧ l.map RV.rc = st.rs
theorem Lg.keep {w w' : World} {P D : Nat} {F : Nat → Prop} {st : LS} (h : Lg w P D F st) (hk : ∀ j, F j → j < w.heap.size → w'.heap[j]? = w.heap[j]?) : Lg w' P D F st := by
  obtain ⟨hm, hgd, v, l, hb, hr, he⟩ := h
  exact ⟨hm, hgd, v, l, (hk P hm (Array.getElem?_eq_some_iff.1 hb).1).trans hb, hr.keep fun j hj => hk j hj.1, he⟩
theorem Lg.below {w w' : World} {P D : Nat} {F : Nat → Prop} {st : LS} (h : Lg w P D F st) (hb : Below w.heap.size w w') : Lg w' P D F st := h.keep fun j _ hj => hb.block j hj
theorem Lg.more {w : World} {P D : Nat} {F G : Nat → Prop} {st : LS} (h : Lg w P D F st) (hG : ∀ j, F j → G j) : Lg w P D G st := by
  obtain ⟨hm, hgd, v, l, hb, hr, he⟩ := h
  exact ⟨hG _ hm, hgd, v, l, hb, hr.more fun j hj => ⟨hG _ hj.1, hj.2⟩, he⟩
theorem Lg.lt {w : World} {P D : Nat} {F : Nat → Prop} {st : LS} (h : Lg w P D F st) : P < w.heap.size := by
  obtain ⟨_, _, v, l, hb, _⟩ := h
  exact (Array.getElem?_eq_some_iff.1 hb).1
/-- no log -/
def NoLog (w : World) (v : Value) : Prop := v = .pointer none ∨ ∃ P, v = .pointer (some ⟨P, 0, none⟩) ∧ w.heap[P]? = some (.cells #[.pointer none, .int .i64 0, .slice none 0 0, .int .i64 0, .bool false, .bool false] 62 (0, 0))
theorem NoLog.below {w w' : World} {v : Value} (h : NoLog w v) (hb : Below w.heap.size w w') : NoLog w' v := by
  rcases h with h | ⟨P, h, hP⟩
  · exact .inl h
  · exact .inr ⟨P, h, (hb.block _ (Array.getElem?_eq_some_iff.1 hP).1).trans hP⟩
theorem there_lno {w : World} {v : Value} (h : NoLog w v) : Calls Tryd.prog 48 #[v] w fun e w' => e = .returned (.bool false) ∧ w = w' := by
  rcases h with rfl | ⟨P, rfl, hP⟩
  · go_enter Tryd.func48, Tryd.ntmps48
    go_wp2
    go_ret
    exact ⟨rfl, rfl⟩
  · have c0 := cell_of_block (o := 0) hP rfl
    go_enter Tryd.func48, Tryd.ntmps48
    go_wp2
    go_ret
    exact ⟨rfl, rfl⟩
theorem there_lyes {w : World} {P D : Nat} (h : w.cell? ⟨P, 0, none⟩ = some (.pointer (some ⟨D, 0, none⟩))) : Calls Tryd.prog 48 #[.pointer (some ⟨P, 0, none⟩)] w fun e w' => e = .returned (.bool true) ∧ w = w' := by
  go_enter Tryd.func48, Tryd.ntmps48
  go_wp2
  go_ret
  exact ⟨rfl, rfl⟩
theorem Lg.made {w : World} {P D : Nat} {F : Nat → Prop} {st : LS} (h : Lg w P D F st) : w.cell? ⟨P, 0, none⟩ = some (.pointer (some ⟨D, 0, none⟩)) := by
  obtain ⟨_, _, v, l, hb, _⟩ := h
  exact cell_of_block hb rfl
theorem len_no {w : World} {v : Value} (h : NoLog w v) : Calls Tryd.prog 26 #[v] w fun e w' => e = .returned (.int .i64 0) ∧ w = w' := by
  have K := Lib.hid (there_lno h)
  clear h
  go_enter Tryd.func26, Tryd.ntmps26
  go_wp2_with fail
  refine K.out.mono ?_
  rintro e w' ⟨rfl, rfl⟩
  go_wp2
  go_ret
  exact ⟨rfl, rfl⟩
theorem torn_no {w : World} {v : Value} (h : NoLog w v) : Calls Tryd.prog 25 #[v] w fun e w' => e = .returned (.bool false) ∧ w = w' := by
  have K := Lib.hid (there_lno h)
  clear h
  go_enter Tryd.func25, Tryd.ntmps25
  go_wp2_with fail
  refine K.out.mono ?_
  rintro e w' ⟨rfl, rfl⟩
  go_wp2
  go_ret
  exact ⟨rfl, rfl⟩
theorem clear_no {w : World} {v : Value} (h : NoLog w v) : Calls Tryd.prog 27 #[v] w fun e w' => e = .returned (.int .i64 1) ∧ w = w' := by
  have K := Lib.hid (there_lno h)
  clear h
  go_enter Tryd.func27, Tryd.ntmps27
  go_wp2_with fail
  refine K.out.mono ?_
  rintro e w' ⟨rfl, rfl⟩
  go_wp2
  go_ret
  exact ⟨rfl, rfl⟩
theorem add_lno {w : World} {v : Value} (h : NoLog w v) (g : Int) (a : Option Addr) (n c : Nat) : Calls Tryd.prog 22 #[v, .agg #[.int .i64 g, .slice a n c]] w fun e w' => e = .returned (.int .i64 1) ∧ Below w.heap.size w w' := by
  have hb := below_alloc (Below.refl _ w) (.cells #[.int .i64 g, .slice a n c] 24)
  have K := Lib.hid (there_lno (h.below hb))
  have HB := Lib.hid hb
  clear h hb
  go_enter Tryd.func22, Tryd.ntmps22
  go_wp2_with fail
  refine K.out.mono ?_
  rintro e w' ⟨rfl, rfl⟩
  go_wp2
  go_ret
  exact ⟨rfl, HB.out⟩
theorem len_lg {w : World} {P D : Nat} {F : Nat → Prop} {st : LS} (h : Lg w P D F st) : Calls Tryd.prog 26 #[.pointer (some ⟨P, 0, none⟩)] w fun e w' => e = .returned (.int .i64 st.len) ∧ w = w' := by
  have K := Lib.hid (there_lyes h.made)
  obtain ⟨_, _, v, l, hb, _⟩ := h
  have c3 := cell_of_block (o := 3) hb rfl
  clear hb
  go_enter Tryd.func26, Tryd.ntmps26
  go_wp2_with fail
  refine K.out.mono ?_
  rintro e w' ⟨rfl, rfl⟩
  go_wp2
  go_ret
  exact ⟨rfl, rfl⟩
theorem torn_lg {w : World} {P D : Nat} {F : Nat → Prop} {st : LS} (h : Lg w P D F st) : Calls Tryd.prog 25 #[.pointer (some ⟨P, 0, none⟩)] w fun e w' => e = .returned (.bool st.torn) ∧ w = w' := by
  have K := Lib.hid (there_lyes h.made)
  obtain ⟨_, _, v, l, hb, _⟩ := h
  have c4 := cell_of_block (o := 4) hb rfl
  clear hb
  go_enter Tryd.func25, Tryd.ntmps25
  go_wp2_with fail
  refine K.out.mono ?_
  rintro e w' ⟨rfl, rfl⟩
  go_wp2
  go_ret
  exact ⟨rfl, rfl⟩

/-- texts in a row of strings -/
def strsJ (l : List (List Int)) : List Value := l.map fun bs => .string (strOfNums bs)
def OwnS (w : World) (B : Nat) (v : Value) (l : List (List Int)) : Prop := w.ownsRow B 9 1 v l.length (strsJ l)
theorem info_str : (Tryd.prog.info? 9).map (fun i => (i.zero, i.size, i.bytes)) = some (some (.string .empty), 1, 16) := by kernel_rfl
theorem OwnS.form {w : World} {B : Nat} {v : Value} {l : List (List Int)} (h : OwnS w B v l) : (l = [] ∧ v = .slice none 0 0) ∨ ∃ g c, v = .slice (some ⟨g, 0, none⟩) l.length c ∧ B ≤ g ∧ g < w.heap.size ∧ ∀ k, k < l.length → w.cell? ⟨g, k, none⟩ = some (.string (strOfNums (l.getD k []))) := by
  rcases h.2 with ⟨e, hl⟩ | ⟨g, cap, cur, e, hg, hc, rest⟩
  · exact .inl ⟨List.length_eq_zero_iff.1 hl, e⟩
  · refine .inr ⟨g, cap, e, hg, (Array.getElem?_eq_some_iff.1 hc).1, fun k hk => ?_⟩
    have hcl := World.ownsRow.cells (g := g) h (by rw [e]; rfl)
    have e0 := hcl k (.string (strOfNums (l.getD k []))) (by simp [strsJ, List.getElem?_map, List.getElem?_eq_getElem hk, List.getD])
    have hadd : ∀ j, (⟨g, 0, none⟩ : Addr).add j = ⟨g, j, none⟩ := fun j => by unfold Addr.add; split <;> simp_all
    rw [hadd] at e0
    exact e0
theorem OwnS.keep {w w' : World} {B : Nat} {v : Value} {l : List (List Int)} (h : OwnS w B v l) (hk : ∀ j, v.ownBlock = some j → w'.heap[j]? = w.heap[j]?) : OwnS w' B v l := Ap.own_keep h hk
/-- a text more: the closure of Texts -/
theorem texts1_any {w : World} {O B : Nat} {v : Value} {l : List (List Int)} {u : Value} {bs : List Int} (hO : Boxed w O 56 v) (hr : OwnS w B v l) (hu : TxtAt w u bs) (hOB : O < B) (hB : B ≤ w.heap.size) (hl : l.length < 998) :
    Calls Tryd.prog 54 #[u, .pointer (some ⟨O, 0, none⟩)] w fun e w' => e = .returned (.bool true) ∧ (∃ v', Boxed w' O 56 v' ∧ OwnS w' B v' (l ++ [bs])) ∧ Fr (fun j => j = O ∨ B ≤ j) w w' := by
  obtain ⟨i0, hi, hz0, hz1, hz2⟩ := info_parts info_str
  have hbA := below_alloc (Below.refl _ w) (.cells #[.string (strOfNums bs)] 9)
  have KV := Lib.hid (fun X (hX : Below w.heap.size w X) => txt_conv hu X hX)
  have hcv := KV.out w (Below.refl _ _)
  have hO1 := hO.alloc (.cells #[.string (strOfNums bs)] 9)
  have hr1 : OwnS (w.alloc (.cells #[.string (strOfNums bs)] 9)) B v l := hr.alloc _
  have c0 := hO.cell
  have HO := Lib.hid hO1
  have HR := Lib.hid hr1
  have HA := Lib.hid hbA
  have HOwn := Lib.hid (Ap.own_blk hr)
  obtain ⟨ua, un, uc, rfl⟩ : ∃ a n c, u = .slice a n c := by
    rcases hu with ⟨b, o, c, rfl, _⟩ | ⟨_, a, c, rfl, _⟩
    · exact ⟨_, _, _, rfl⟩
    · exact ⟨_, _, _, rfl⟩
  obtain ⟨va, vc, rfl⟩ : ∃ a c, v = .slice a l.length c := by
    rcases hr.form with ⟨rfl, rfl⟩ | ⟨g, c, rfl, _⟩
    · exact ⟨none, 0, rfl⟩
    · exact ⟨_, _, rfl⟩
  have hmx1 : l.length + 1 ≤ maxLen := by unfold maxLen; omega
  have hmx2 : (l.length + 1) * 16 ≤ 140737488355328 := by omega
  have hbg : B ≤ (w.alloc (.cells #[.string (strOfNums bs)] 9)).heap.size := by simp; omega
  have hds : decide (((l.length + 1 : Nat) : Int) < 1000) = true := decide_eq_true (by omega)
  have hds2 : decide ((l.length : Int) + 1 < 1000) = true := decide_eq_true (by omega)
  have HL := Lib.hid (show OwnS (w.alloc (.cells #[.string (strOfNums bs)] 9)) B (.slice va l.length vc) l from hr1)
  clear hO hr hu hbA hO1 hr1 hl
  go_enter Tryd.func54, Tryd.ntmps54
  go_wp2_with (at_builtin; go_loud (refine wpList_append_own _ rfl _ _ 56 rfl B 9 i0 (.string .empty) 1 16 Tryd.underlying56 hi hz0 hz1 hz2 rfl (by decide) (.slice va l.length vc) l.length (strsJ l) rfl HL.out ⟨w.heap.size, 0, none⟩ 1 1 (strsJ [bs]) rfl rfl (fun j u hj => by
      obtain rfl : j = 0 := by
        rcases Nat.eq_zero_or_pos j with h | h
        · exact h
        · rw [List.getElem?_eq_none (by simp [strsJ]; omega)] at hj; cases hj
      simp [strsJ] at hj
      subst hj
      exact cell_of_block (World.alloc_heap_new w _) rfl) (by intro u hu; simp [strsJ] at hu; subst hu; rfl) hmx1 hmx2 hbg ?_; intro v' w1 hown' hgrow _; obtain ⟨g', cap', rfl⟩ := ownsRow_succ hown'; have hv1 := Boxed.kept HO.out hgrow (fun e => by have := HOwn.out _ e.symm; omega); have cv1 := hv1.cell; have fv1 := hv1.frozen; have HO' := Lib.hid hown'; have HG := Lib.hid hgrow; have HV1 := Lib.hid hv1; clear hown' hgrow hv1))
  go_ret
  have hw1 := (wrote_refl HV1.out).set 0 (.slice (some ⟨g', 0, none⟩) (l.length + 1) cap')
  refine ⟨by rfl, ⟨_, hw1.there, ?_⟩, ⟨?_, ?_, ?_, ?_, ?_⟩⟩
  · unfold OwnS
    rw [List.length_append, show strsJ (l ++ [bs]) = strsJ l ++ strsJ [bs] by simp [strsJ]]
    exact Ap.own_keep HO'.out fun j hj => hw1.rest j (by have := Ap.own_blk HO'.out j hj; omega)
  · exact hw1.os.trans (HG.out.os.trans rfl)
  · exact hw1.tape.trans (HG.out.tape.trans rfl)
  · exact hw1.output.trans (HG.out.output.trans rfl)
  · have h1 := hw1.size
    have h2 := HG.out.size
    have h3 := HA.out.size
    omega
  · intro j hj hn
    have hn1 : j ≠ O := fun e => hn (.inl e)
    have hn2 : ¬ B ≤ j := fun e => hn (.inr e)
    exact (hw1.rest j hn1).trans ((HG.out.block j (by simp; omega) (fun e => by have := HOwn.out _ e.symm; omega)).trans (HA.out.block j hj))
end
section
open Go.ChangeShapes Go.WideShapes Go.ChangeAt Go.RowKit
attribute [local go_sem ↓] Go.wp_at_zero Go.wp_at_succ comesTo_value_eq comesTo_skip_eq comesTo_enter_eq

/-- the texts of a generation -/
def textsG (g : Int) (rs : List JRec) : List (List Int) := (rs.filter fun r => r.1 == g).map (·.2)
theorem textsG_len (g : Int) (rs : List JRec) : (textsG g rs).length ≤ rs.length := by unfold textsG; rw [List.length_map]; exact List.length_filter_le _ _
theorem textsG_snoc (g : Int) (rs : List JRec) (r : JRec) : textsG g (rs ++ [r]) = if r.1 = g then textsG g rs ++ [r.2] else textsG g rs := by
  unfold textsG
  rw [List.filter_append]
  by_cases h : r.1 = g
  · rw [if_pos h]; simp [h]
  · rw [if_neg h]; simp [h]
set_option maxRecDepth 100000 in
set_option maxHeartbeats 1000000 in
theorem of1_any {w : World} {O Rb Gb B : Nat} {gen : Int} {rv : Value} {l : List RV} (hO : Boxed w O 56 (.slice none 0 0)) (hR : Boxed w Rb 33 rv) (hG : Boxed w Gb 2 (.int .i64 gen)) (hrec : RecsJ w 0 rv l) (hl : l.length < 998) (hB : B = w.heap.size) (hbs : ∀ x ∈ l, x.bs.length ≤ 65536) :
    Calls Tryd.prog 70 #[.func (.func 54) #[] #[.pointer (some ⟨O, 0, none⟩)], .pointer (some ⟨Rb, 0, none⟩), .pointer (some ⟨Gb, 0, none⟩)] w fun e w' => e = .returned (.tuple #[]) ∧ (∃ v', Boxed w' O 56 v' ∧ OwnS w' B v' (textsG gen (l.map RV.rc))) ∧ Fr (fun j => j = O ∨ B ≤ j) w w' := by
  have cR := hR.cell
  have hOB : O < B := by rw [hB]; exact hO.lt
  have hRO : Rb ≠ O := fun e => by
    subst e
    have h := Option.some.inj ((show w.heap[Rb]? = _ from hO).symm.trans (show w.heap[Rb]? = _ from hR))
    cases h
  have hGO : Gb ≠ O := fun e => by
    subst e
    have h := Option.some.inj ((show w.heap[Gb]? = _ from hO).symm.trans (show w.heap[Gb]? = _ from hG))
    cases h
  obtain ⟨ra, rc, rfl⟩ : ∃ a c, rv = .slice a l.length c := by
    rcases hrec.form with ⟨rfl, rfl⟩ | ⟨g, c, rfl, _⟩
    · exact ⟨none, 0, rfl⟩
    · exact ⟨_, _, rfl⟩
  have HRec := Lib.hid hrec
  have HGb := Lib.hid hG
  have HO := Lib.hid hO
  have HB := Lib.hid hB
  have HL := Lib.hid hl
  have HGlt := Lib.hid hG.lt
  clear hO hR hG hrec hB hl
  go_enter Tryd.func70, Tryd.ntmps70
  go_wp2_with fail
  go_loopw [8] (fun i wr => ∃ k : Nat, k ≤ l.length ∧ i = .int .i64 k ∧ (∃ v', Boxed wr O 56 v' ∧ OwnS wr B v' (textsG gen ((l.take k).map RV.rc))) ∧ Fr (fun j => j = O ∨ B ≤ j) w wr) (fun i _ => l.length - (intOf i).toNat)
  case atStart => exact ⟨0, Nat.zero_le _, rfl, ⟨_, HO.out, ⟨rfl, .inl ⟨rfl, rfl⟩⟩⟩, Fr.refl _ _⟩
  case round =>
    obtain ⟨k, hk, rfl, ⟨v', hv', hown⟩, hfr⟩ := hrel
    have HFr := Lib.hid hfr
    have HV := Lib.hid hv'
    have HOwn := Lib.hid hown
    have hlk : (textsG gen ((l.take k).map RV.rc)).length < 998 := by
      have := textsG_len gen ((l.take k).map RV.rc)
      have := HL.out
      simp at *
      omega
    have HLK := Lib.hid hlk
    clear hfr hv' hown hlk
    by_cases hlt : k < l.length
    case pos =>
      have hd : decide (k < l.length) = true := decide_eq_true hlt
      have hd' : (k : Int) < (l.length : Int) := by omega
      have hlx := List.getElem?_eq_getElem hlt
      obtain ⟨x, hx⟩ : ∃ x, l[k]? = some x := ⟨_, hlx⟩
      have htk : (l.take (k + 1)).map RV.rc = (l.take k).map RV.rc ++ [RV.rc x] := by
        rw [List.take_add_one, hx]; simp
      have hmem : x ∈ l := List.mem_of_getElem? hx
      obtain ⟨g, c, e, hg0, hgl, hcells⟩ : ∃ g c, (Value.slice ra l.length rc) = .slice (some ⟨g, 0, none⟩) l.length c ∧ 0 ≤ g ∧ g < w.heap.size ∧ ∀ k x, l[k]? = some x → w.cell? ⟨g, k * 2, none⟩ = some (.int .i64 x.g) ∧ w.cell? ⟨g, k * 2 + 1, none⟩ = some x.val := by
        rcases HRec.out.form with ⟨e, _⟩ | h
        · subst e; simp at hlt
        · exact h
      have e2 : ra = some ⟨g, 0, none⟩ := by cases e; rfl
      subst e2
      have hgO : g ≠ O := fun e3 => by
        have h0 := hcells k x hx
        rcases HRec.out.row.2 with ⟨e4, _⟩ | ⟨g2, cap2, cur2, e4, _, hh, _⟩
        · cases e4
        · cases e4
          subst e3
          rw [show w.heap[g]? = _ from HO.out] at hh
          cases hh
      have hnb : ¬ (g = O ∨ B ≤ g) := fun h => by
        rcases h with h | h
        · exact hgO h
        · have := HB.out; omega
      have q0 := (World.cell?_of_block (a := ⟨g, k * 2, none⟩) (HFr.out.block g hgl hnb)).trans (hcells k x hx).1
      have q1 := (World.cell?_of_block (a := ⟨g, k * 2 + 1, none⟩) (HFr.out.block g hgl hnb)).trans (hcells k x hx).2
      have hGn : ¬ (Gb = O ∨ B ≤ Gb) := fun h => by
        rcases h with h | h
        · exact hGO h
        · have := HB.out; have := HGlt.out; omega
      have cG : wr.cell? ⟨Gb, 0, none⟩ = some (.int .i64 gen) := (World.cell?_of_block (a := ⟨Gb, 0, none⟩) (HFr.out.block Gb HGlt.out hGn)).trans (Boxed.cell HGb.out)
      have htx : AloneT wr 0 x.val x.bs := (HRec.out.txt x hmem).of_block fun j cs m hj _ => HFr.out.block j (Array.getElem?_eq_some_iff.1 hj).1 (fun h => by
        rcases h with h | h
        · subst h; rw [show w.heap[j]? = _ from HO.out] at hj; cases hj
        · have := HB.out; have := (Array.getElem?_eq_some_iff.1 hj).1; omega)
      have HTx := Lib.hid htx
      have HTk := Lib.hid htk
      obtain ⟨xg, xb, xa⟩ := x
      unfold RV.val at q1 HTx
      dsimp only [RV.rc] at q0 q1 HTx HTk
      have hwk : IntKind.i64.wrap ((k : Int) + 1) = ((k + 1 : Nat) : Int) := by have := HL.out; rw [IntKind.wrap_i64]; omega
      have hbA := below_alloc (Below.refl _ wr) (.cells #[.int .i64 xg, .slice xa xb.length xb.length] 24)
      have HBA := Lib.hid hbA
      have hGlt2 : Gb < wr.heap.size := Nat.lt_of_lt_of_le HGlt.out HFr.out.size
      have cG2 := (hbA.cell (p := ⟨Gb, 0, none⟩) hGlt2).trans cG
      have HBS := Lib.hid (hbs _ hmem)
      have HV2 := Lib.hid (Boxed.alloc HV.out (.cells #[.int .i64 xg, .slice xa xb.length xb.length] 24))
      have HOwn2 := Lib.hid (World.ownsRow.alloc HOwn.out (.cells #[.int .i64 xg, .slice xa xb.length xb.length] 24))
      have HFr2 := Lib.hid (HFr.out.trans (Fr.of_below (F := fun j => j = O ∨ B ≤ j) hbA) (fun j hj => .inl hj))
      have KA := Lib.hid (fun h => alone_any (HTx.out.below hbA).at h)
      have hsz := HB.out
      have hszr := HFr.out.size
      clear hcells htk hmem hlx hx hgO hnb hGn hbA htx e
      by_cases hg : xg = gen
      case pos =>
        have hb : (xg == gen) = true := by simpa using hg
        have hbl : xb.length ≤ 140737488355328 := by have := HBS.out; dsimp only at this; omega
        have htg : textsG gen ((l.take (k + 1)).map RV.rc) = textsG gen ((l.take k).map RV.rc) ++ [xb] := by rw [HTk.out, textsG_snoc, if_pos hg]
        have HTG := Lib.hid htg
        have KA2 := Lib.hid (KA.out hbl)
        clear hg hbl htg KA
        go_wp2_with fail
        refine KA2.out.mono ?_
        rintro e W2 ⟨u, rfl, hal, hb2⟩
        have hv2 := (hb2.block O (Boxed.lt HV2.out)).trans HV2.out
        have ho2 := Ap.own_below HOwn2.out hb2
        have hB2 : B ≤ W2.heap.size := by have := hb2.size; have := HBA.out.size; omega
        have K1 := Lib.hid (texts1_any (w := W2) hv2 ho2 hal.at hOB hB2 HLK.out)
        have HFr3 := Lib.hid (HFr2.out.trans (Fr.of_below (F := fun j => j = O ∨ B ≤ j) hb2) (fun j hj => .inl hj))
        obtain ⟨ua, un, uc, rfl⟩ : ∃ a n c, u = .slice a n c := by
          obtain ⟨a, c, e, _⟩ := hal
          exact ⟨_, _, _, e⟩
        clear hv2 ho2 hal hb2
        go_wp2_with fail
        refine K1.out.mono ?_
        rintro e W3 ⟨rfl, ⟨v3, hv3, ho3⟩, hf3⟩
        have H3 := Lib.hid (And.intro hv3 (And.intro ho3 (HFr3.out.trans hf3 (fun j hj => .inl hj))))
        clear hv3 ho3 hf3
        go_wp2_with fail
        go_roundw
        case rel => exact ⟨k + 1, by omega, by go_num, ⟨v3, H3.out.1, by rw [HTG.out]; exact H3.out.2.1⟩, H3.out.2.2⟩
        case measure => simp [intOf]; omega
      case neg =>
        have hb : (xg == gen) = false := by simpa using hg
        have htg : textsG gen ((l.take (k + 1)).map RV.rc) = textsG gen ((l.take k).map RV.rc) := by rw [HTk.out, textsG_snoc, if_neg hg]
        clear hg
        go_wp2_with fail
        go_roundw
        case rel => exact ⟨k + 1, by omega, by go_num, ⟨v', HV2.out, by rw [htg]; exact HOwn2.out⟩, HFr2.out⟩
        case measure => simp [intOf]; omega
    case neg =>
      have hd : decide (k < l.length) = false := decide_eq_false hlt
      obtain rfl : k = l.length := by omega
      go_wp2_with fail
      go_end0
      exact ⟨rfl, ⟨v', HV.out, by have := HOwn.out; rw [List.take_length] at this; exact this⟩, HFr.out⟩
end
section
open Go.ChangeShapes Go.WideShapes Go.ChangeAt Go.RowKit
attribute [local go_sem ↓] Go.wp_at_zero Go.wp_at_succ comesTo_value_eq comesTo_skip_eq comesTo_enter_eq

def OfEnd (gen : Int) (l : List RV) (w : World) (e : Ending) (w' : World) : Prop := ∃ Rb Gb rv, e = .returned (.func (.func 70) #[] #[.pointer (some ⟨Rb, 0, none⟩), .pointer (some ⟨Gb, 0, none⟩)]) ∧ Boxed w' Rb 33 rv ∧ RecsJ w' 0 rv l ∧ Boxed w' Gb 2 (.int .i64 gen) ∧ Below w.heap.size w w'
theorem of_lno {w : World} {v : Value} (h : NoLog w v) (gen : Int) : Calls Tryd.prog 53 #[v, .int .i64 gen] w fun e w' => OfEnd gen [] w e w' := by
  have b1 := Boxed.new w 2 (.int .i64 gen)
  have b2 := Boxed.new (w.alloc (.cells #[.int .i64 gen] 2)) 33 (.slice none 0 0)
  rw [World.size_alloc] at b2
  have hb := below_alloc (below_alloc (Below.refl _ w) (.cells #[.int .i64 gen] 2)) (.cells #[.slice none 0 0] 33)
  have K := Lib.hid (there_lno (h.below hb))
  have HE := Lib.hid (And.intro (b1.alloc (.cells #[.slice none 0 0] 33)) (And.intro b2 hb))
  clear h b1 b2 hb
  go_enter Tryd.func53, Tryd.ntmps53
  go_wp2_with fail
  refine K.out.mono ?_
  rintro e w' ⟨rfl, rfl⟩
  go_wp2
  go_ret
  exact ⟨_, _, _, rfl, HE.out.2.1, RecsJ.nil, HE.out.1, HE.out.2.2⟩
theorem of_lg {w : World} {P D : Nat} {F : Nat → Prop} {st : LS} (h : Lg w P D F st) (gen : Int) : ∃ l : List RV, l.map RV.rc = st.rs ∧ ∀ X, Below w.heap.size w X → Calls Tryd.prog 53 #[.pointer (some ⟨P, 0, none⟩), .int .i64 gen] X fun e w' => OfEnd gen l X e w' := by
  obtain ⟨_, _, v, l, hP, hr, he⟩ := h
  refine ⟨l, he, fun X hX => ?_⟩
  have hPX := (hX.block _ (Array.getElem?_eq_some_iff.1 hP).1).trans hP
  have hrX := hr.rec_.below hX
  clear hP hr hX he
  have b1 := Boxed.new X 2 (.int .i64 gen)
  have hbK := below_alloc (below_alloc (Below.refl _ X) (.cells #[.int .i64 gen] 2)) (.cells #[.slice none 0 0] 33)
  have hPK := (hbK.block _ (Array.getElem?_eq_some_iff.1 hPX).1).trans hPX
  have K := Lib.hid (there_lyes (cell_of_block (o := 0) hPK rfl))
  have c2 := cell_of_block (o := 2) hPK rfl
  obtain ⟨va, vc, rfl⟩ : ∃ a c, v = .slice a l.length c := by
    rcases hrX.form with ⟨rfl, rfl⟩ | ⟨g, c, rfl, _⟩
    · exact ⟨none, 0, rfl⟩
    · exact ⟨_, _, rfl⟩
  have b2 := Boxed.new (X.alloc (.cells #[.int .i64 gen] 2)) 33 (.slice va l.length vc)
  rw [World.size_alloc] at b2
  have hb := below_alloc (below_alloc (Below.refl _ X) (.cells #[.int .i64 gen] 2)) (.cells #[.slice va l.length vc] 33)
  have HE := Lib.hid (And.intro (b1.alloc (.cells #[.slice va l.length vc] 33)) (And.intro b2 (And.intro (hrX.below hb) hb)))
  clear b1 b2 hb hPX hrX hbK hPK
  go_enter Tryd.func53, Tryd.ntmps53
  go_wp2_with fail
  refine K.out.mono ?_
  rintro e w' ⟨rfl, rfl⟩
  go_wp2
  go_ret
  exact ⟨_, _, _, rfl, HE.out.2.1, HE.out.2.2.1, HE.out.1, HE.out.2.2.2⟩
/-- what Texts leaves -/
def TextsEnd (w : World) (l : List (List Int)) (e : Ending) (w' : World) : Prop := ∃ v, e = .returned v ∧ OwnS w' w.heap.size v l ∧ Below w.heap.size w w'
theorem texts_gen {w : World} {lv : Value} {l : List RV} (gen : Int) (hOf : ∀ X, Below w.heap.size w X → Calls Tryd.prog 53 #[lv, .int .i64 gen] X fun e w' => OfEnd gen l X e w') (hl : l.length < 998) (hbs : ∀ x ∈ l, x.bs.length ≤ 65536) :
    Calls Tryd.prog 28 #[lv, .int .i64 gen] w fun e w' => TextsEnd w (textsG gen (l.map RV.rc)) e w' := by
  have hb := below_alloc (Below.refl _ w) (.cells #[.slice none 0 0] 56)
  have bO := Boxed.new w 56 (.slice none 0 0)
  have K := Lib.hid (hOf _ hb)
  have HB := Lib.hid hb
  have HO := Lib.hid bO
  have hO0 : w.heap.size < (w.alloc (.cells #[.slice none 0 0] 56)).heap.size := by simp
  clear hb bO hOf
  go_enter Tryd.func28, Tryd.ntmps28
  go_upto_region 2 with fail
  generalize w.alloc (.cells #[.slice none 0 0] 56) = W0 at *
  go_wp2_with fail
  refine K.out.mono ?_
  rintro e W1 ⟨Rb, Gb, rv, rfl, hR, hrec, hG, hb1⟩
  have hO1 : Boxed W1 w.heap.size 56 (.slice none 0 0) := (hb1.block _ hO0).trans HO.out
  have KI := Lib.hid (of1_any hO1 hR hG hrec hl rfl hbs)
  have HB1 := Lib.hid (below_next HB.out hb1)
  have hs1 := hb1.size
  have hrun : ∀ W : World, Sem.run Tryd.prog (binOp BinOp.eql 112 (.func (.func 70) #[] #[.pointer (some ⟨Rb, 0, none⟩), .pointer (some ⟨Gb, 0, none⟩)]) Value.nilFunc) W = .ok (.bool false) W := fun W => by kernel_rfl
  clear hR hrec hG hb1 hO1 K HB HO
  go_wp2_with fail
  refine KI.out.mono ?_
  rintro e W2 ⟨rfl, ⟨v, hv, ho⟩, hf⟩
  have cv := hv.cell
  have H2 := Lib.hid (And.intro ho (hf.below (B := w.heap.size) (by omega) (fun j hj => by rcases hj with h | h <;> omega)))
  obtain ⟨va, vn, vc, rfl⟩ : ∃ a n c, v = .slice a n c := by
    rcases ho.form with ⟨_, rfl⟩ | ⟨g, c, rfl, _⟩
    · exact ⟨_, _, _, rfl⟩
    · exact ⟨_, _, _, rfl⟩
  clear hv ho hf
  go_wp2_with fail
  go_ret
  have hob := H2.out.1
  refine ⟨_, rfl, ⟨hob.1, ?_⟩, HB1.out.trans H2.out.2⟩
  rcases hob.2 with h | ⟨g, cap, cur, h1, h2, h3⟩
  · exact .inl h
  · exact .inr ⟨g, cap, cur, h1, by omega, h3⟩
theorem texts_no {w : World} {v : Value} (h : NoLog w v) (gen : Int) : Calls Tryd.prog 28 #[v, .int .i64 gen] w fun e w' => TextsEnd w [] e w' :=
  texts_gen (l := []) gen (fun X hb => of_lno (h.below hb) gen) (by simp) (fun x h => (by cases h))
theorem texts_lg {w : World} {P D : Nat} {F : Nat → Prop} {st : LS} (h : Lg w P D F st) (hl : st.rs.length < 998) (gen : Int) : Calls Tryd.prog 28 #[.pointer (some ⟨P, 0, none⟩), .int .i64 gen] w fun e w' => TextsEnd w (textsG gen st.rs) e w' := by
  obtain ⟨l, he, hc⟩ := of_lg h gen
  have hgd := h.good
  rw [← he] at hgd hl ⊢
  rw [List.length_map] at hl
  exact texts_gen gen hc hl fun x hx => (hgd x.rc (List.mem_map.2 ⟨x, hx, rfl⟩)).len
/-- what is read of bytes may be -/
theorem first_good {xs : List Int} (hx : ∀ x ∈ xs, 0 ≤ x ∧ x ≤ 255) {r : JRec} {n : Nat} (h : firstF xs = some (r, n)) : GoodR r := by
  have hm : ∀ x ∈ ((xs.drop 8).take (num4 xs).toNat), 0 ≤ x ∧ x ≤ 255 := fun x hx' => hx x (List.mem_of_mem_drop (List.mem_of_mem_take hx'))
  unfold firstF at h
  split at h
  · cases h
  · split at h
    · cases h
    · split at h
      · cases h
      · split at h
        · cases h
        · rename_i hb
          simp only [Option.some.injEq, Prod.mk.injEq] at h
          obtain ⟨rfl, _⟩ := h
          refine ⟨scan_in _ 0 0 hm (by decide) (by decide), by dsimp only; omega, fun x hx' => hm x ?_⟩
          exact (scan_suffix _ 0 0).subset hx'
theorem parse_good : ∀ (k : Nat) (xs : List Int), xs.length ≤ k → (∀ x ∈ xs, 0 ≤ x ∧ x ≤ 255) → ∀ r ∈ (parseF xs).1, GoodR r := by
  intro k
  induction k with
  | zero =>
    intro xs h _ r hr
    rw [parse_none (by unfold firstF; rw [if_pos (by omega)])] at hr
    cases hr
  | succ k ih =>
    intro xs h hm r hr
    cases hf : firstF xs with
    | none => rw [parse_none hf] at hr; cases hr
    | some p =>
      obtain ⟨q, n⟩ := p
      have hp := first_pos hf
      have hd : (xs.drop n).length = xs.length - n := List.length_drop
      rw [parse_some hf] at hr
      rcases List.mem_cons.1 hr with rfl | hr
      · exact first_good hm hf
      · exact ih (xs.drop n) (by omega) (fun x hx => hm x (List.mem_of_mem_drop hx)) r hr
end
section
open Go.ChangeShapes Go.WideShapes Go.ChangeAt Go.RowKit
attribute [local go_sem ↓] Go.wp_at_zero Go.wp_at_succ comesTo_value_eq comesTo_skip_eq comesTo_enter_eq

/-- the log of a file -/
def openF (ds : DS) (f : Int) : LS := ⟨f, (parseF (ds.b f.toNat)).1, (parseF (ds.b f.toNat)).2, decide ((parseF (ds.b f.toNat)).2 < (ds.b f.toNat).length), false⟩
/-- a record more: the log, the disk, what is told -/
def addF (st : LS) (ds : DS) (r : JRec) : LS × DS × Int :=
  if st.torn = true ∨ st.failed = true then (st, ds, 16)
  else if 65536 < r.2.length then (st, ds, 3)
  else if (callF 0 ds st.f (frameF r)).2 ≠ 0 then ({ st with failed := true }, (callF 0 ds st.f (frameF r)).1, (callF 0 ds st.f (frameF r)).2)
  else if (callF 1 (callF 0 ds st.f (frameF r)).1 st.f []).2 ≠ 0 then ({ st with failed := true }, (callF 1 (callF 0 ds st.f (frameF r)).1 st.f []).1, (callF 1 (callF 0 ds st.f (frameF r)).1 st.f []).2)
  else ({ st with rs := st.rs ++ [r], len := st.len + (frameF r).length }, (callF 1 (callF 0 ds st.f (frameF r)).1 st.f []).1, 0)
/-- none are there -/
def clearF (st : LS) (ds : DS) : LS × DS × Int :=
  if (callF 2 ds st.f []).2 ≠ 0 then ({ st with failed := true }, (callF 2 ds st.f []).1, (callF 2 ds st.f []).2)
  else ({ st with rs := [], len := 0, torn := false, failed := false }, (callF 2 ds st.f []).1, 0)

theorem Lg.bound {w : World} {P D : Nat} {F : Nat → Prop} {st : LS} (h : Lg w P D F st) : Lg w P D (fun j => F j ∧ j < w.heap.size) st := by
  have hlt := h.lt
  obtain ⟨hm, hgd, v, l, hb, hr, he⟩ := h
  refine ⟨⟨hm, hlt⟩, hgd, v, l, hb, ⟨hr.rec_, fun g hg => ⟨⟨(hr.row g hg).1, Ap.own_lt hr.rec_.row g hg⟩, (hr.row g hg).2⟩, fun x hx p hp => ⟨⟨(hr.txt x hx p hp).1, ?_⟩, (hr.txt x hx p hp).2⟩⟩, he⟩
  obtain ⟨ad, c, e, ho⟩ := hr.rec_.txt x hx
  have e2 : x.ad = ad := by unfold RV.val at e; cases e; rfl
  rw [hp] at e2
  subst e2
  exact ownBlock_lt ho (g := p.block) rfl
theorem Lg.fail {w w' : World} {P D : Nat} {F : Nat → Prop} {st : LS} (h : Lg w P D F st) {cs : Array Value} (m : w.heap[P]? = some (.cells cs 62 (0, 0))) (hw : WroteTo P 62 (cs.setIfInBounds 5 (.bool true)) w w') : Lg w' P D F { st with failed := true } := by
  obtain ⟨hm, hgd, v, l, hb, hr, he⟩ := h
  rw [hb] at m
  have e : #[.pointer (some ⟨D, 0, none⟩), .int .i64 st.f, v, .int .i64 st.len, .bool st.torn, .bool st.failed] = cs := by injection m with m; injection m
  subst e
  exact ⟨hm, hgd, v, l, hw.there, hr.keep fun j hj _ => hw.rest j hj.2, he⟩
/-- a log over a disk, among H's blocks -/
def LD (w : World) (P D : Nat) (H : Nat → Prop) (st : LS) (ds : DS) : Prop := ∃ F G, Lg w P D F st ∧ Dk w D G ds ∧ (∀ j, F j → ¬ G j) ∧ ∀ j, F j ∨ G j → H j ∧ j < w.heap.size
theorem LD.of {w : World} {P D : Nat} {F G H : Nat → Prop} {st : LS} {ds : DS} (h : Lg w P D F st) (k : Dk w D G ds) (hFG : ∀ j, j < w.heap.size → F j → ¬ G j) (hF : ∀ j, j < w.heap.size → F j → H j) (hG : ∀ j, j < w.heap.size → G j → H j) : LD w P D H st ds :=
  ⟨_, _, h.bound, k.bound, fun j hj hg => hFG j hj.2 hj.1 hg.1, fun j hj => hj.elim (fun hj => ⟨hF j hj.2 hj.1, hj.2⟩) (fun hj => ⟨hG j hj.2 hj.1, hj.2⟩)⟩
theorem LD.fr {w w' : World} {P D : Nat} {H K : Nat → Prop} {st : LS} {ds : DS} (h : LD w P D H st ds) (hf : Fr K w w') (hK : ∀ j, j < w.heap.size → H j → ¬ K j) : LD w' P D H st ds := by
  obtain ⟨F, G, hl, hd, hFG, hH⟩ := h
  exact ⟨F, G, hl.keep fun j hj hlt => hf.block j hlt (hK j hlt (hH j (.inl hj)).1), Fr.dk hd hf (fun j hj hlt => hK j hlt (hH j (.inr hj)).1), hFG, fun j hj => ⟨(hH j hj).1, Nat.lt_of_lt_of_le (hH j hj).2 hf.size⟩⟩
theorem LD.below {w w' : World} {P D : Nat} {H : Nat → Prop} {st : LS} {ds : DS} (h : LD w P D H st ds) (hb : Below w.heap.size w w') : LD w' P D H st ds := h.fr (K := fun _ => False) (Fr.of_below hb) (fun _ _ _ => id)
theorem LD.more {w : World} {P D : Nat} {H K : Nat → Prop} {st : LS} {ds : DS} (h : LD w P D H st ds) (hK : ∀ j, j < w.heap.size → H j → K j) : LD w P D K st ds := by
  obtain ⟨F, G, hl, hd, hFG, hH⟩ := h
  exact ⟨F, G, hl, hd, hFG, fun j hj => ⟨hK j (hH j hj).2 (hH j hj).1, (hH j hj).2⟩⟩
end
end Go.Proofs.YtomhfnaekjmjnaaDoor
