/- JournalGens walked. Condition: errors.errorType reads as the program's text lays it. -/
import Derived.Test.YtomhfnaekjmjnaaDoorJnq
import Derived.Deep.CutBlock
import Derived.BigQuiet
namespace Go.Proofs.YtomhfnaekjmjnaaDoor
set_option linter.unusedVariables false
open Go.ChangeShapes Go.WideShapes Go.ChangeAt Go.RowKit
attribute [local go_sem ↓] Go.wp_at_zero Go.wp_at_succ comesTo_value_eq comesTo_skip_eq comesTo_enter_eq

theorem RecsAt.cell {w w' : World} {b off len k : Nat} {A : Nat → JRec} (hA : RecsAt w (some ⟨b, off, none⟩) len A) (hk : k < len) (hb : Below w.heap.size w w') : RecC w' b (off + k * 2) (A k) := by
  obtain ⟨b', off', e, h⟩ := hA.2 (by omega)
  cases e
  have hc := h k hk
  refine ⟨(hb.cell (p := ⟨b, off + k * 2, none⟩) (World.block_lt_of_cell? w _ hc.c0)).trans hc.c0, ?_, hc.g_in⟩
  obtain ⟨ad, c, h1, h2, h3, h4⟩ := hc.c1
  exact ⟨ad, c, (hb.cell (p := ⟨b, off + k * 2 + 1, none⟩) (World.block_lt_of_cell? w _ h1)).trans h1, h2.below hb, h3, h4⟩
theorem framesN_le {A : Nat → JRec} : ∀ {k : Nat}, (∀ j, j < k → (A j).2.length ≤ 300 ∧ -9223372036854775808 ≤ (A j).1 ∧ (A j).1 ≤ 9223372036854775807) → (framesF (recsN A k)).length ≤ k * 318
  | 0, _ => Nat.le_refl _
  | k + 1, h => by
    rw [recsN_succ, frames_snoc, List.length_append]
    have h1 := framesN_le (k := k) (fun j hj => h j (by omega))
    have h2 := frame_le (h k (by omega)).2
    have h3 := (h k (by omega)).1
    omega
/-- records told one by one, a log of them, and what is gathered beside it -/
structure GAt (W : World) (P D : Nat) (A : Nat → JRec) (gen : Int) (k : Nat) (v : Value) (wr : World) : Prop where
  ld : ∃ ds, LD wr P D (fun j => W.heap.size ≤ j ∧ v.ownBlock ≠ some j) ⟨1, recsN A k, (framesF (recsN A k)).length, false, false⟩ ds ∧ DOk ds 1 (framesF (recsN A k))
  own : OwnS wr W.heap.size v (textsG gen (recsN A k))
  below : Below W.heap.size W wr
  good : ∀ j, j < k → (A j).2.length ≤ 300 ∧ -9223372036854775808 ≤ (A j).1 ∧ (A j).1 ≤ 9223372036854775807
  vals : ∀ j, j < k → ∀ x ∈ (A j).2, 0 ≤ x ∧ x ≤ 255
theorem GAt.goodR {W wr : World} {P D : Nat} {A : Nat → JRec} {gen : Int} {k : Nat} {v : Value} (h : GAt W P D A gen k v wr) : ∀ r ∈ recsN A k, GoodR r := by
  intro r hr
  obtain ⟨j, hj, rfl⟩ := List.mem_map.1 hr
  have hj := List.mem_range.1 hj
  exact ⟨(h.good j hj).2, by have := (h.good j hj).1; omega, h.vals j hj⟩
theorem GAt.next {W wr w' : World} {P D : Nat} {A : Nat → JRec} {gen : Int} {k : Nat} {v : Value} (h : GAt W P D A gen k v wr) (hb : Below wr.heap.size wr w') : GAt W P D A gen k v w' := by
  obtain ⟨⟨ds, h1, h2⟩, h3, h4, h5, h6⟩ := h
  exact ⟨⟨ds, h1.below hb, h2⟩, Ap.own_below h3 hb, h4.trans (hb.mono h4.size), h5, h6⟩
set_option maxRecDepth 100000 in
set_option maxHeartbeats 4000000 in
theorem jgens_any (ad : Option Addr) (ll lcap : Nat) (A : Nat → JRec) (gen : Int) (hgen : -9223372036854775808 ≤ gen ∧ gen ≤ 9223372036854775807) (W : World) (hA : RecsAt W ad ll A) (hE : ErrAt W) :
    Calls Tryd.prog 7 #[.slice ad ll lcap, .int .i64 gen] W fun e W' => e = .returned (.bool true) ∧ Below W.heap.size W W' := by
  obtain ⟨i0, hi, hz0, hz1, hz2⟩ := info_parts info_str
  have HA := Lib.hid hA
  have HE := Lib.hid hE
  have HG := Lib.hid hgen
  clear hA hE hgen
  go_enter Tryd.func7, Tryd.ntmps7
  go_wp2_with fail
  refine (new_any W).mono ?_
  rintro e w1 ⟨D, rfl, hd, hb⟩
  go_wp2_with fail
  refine (open_any hd (HE.out.below hb) 1).mono ?_
  rintro e w2 ⟨hb2, h | ⟨_, P, rfl, hl⟩⟩
  · exact absurd (by decide : wrongF newF.down 1 = 0) h.1
  have hG0 : GAt W P D A gen 0 (.slice none 0 0) w2 := ⟨⟨newF, (opened (w := W) hd hb.size hb2 hl).more (fun j _ hj => ⟨hj, by simp [Value.ownBlock]⟩), ⟨rfl, rfl, rfl⟩⟩, ⟨rfl, .inl ⟨rfl, rfl⟩⟩, hb.trans (hb2.mono hb.size), fun j hj => by omega, fun j hj => by omega⟩
  have HG0 := Lib.hid hG0
  clear hd hb hb2 hl hG0
  go_upto_block 0 with fail
  go_cut [8, 9] (fun s n wx => ∃ (k : Nat) (v : Value), k ≤ 30 ∧ n = .int .i64 ((framesF (recsN A k)).length : Int) ∧ v = s ∧ GAt W P D A gen k v wx)
  case first =>
    go_wp2_with fail
    go_loopw [8, 9, 10] (fun s n i wr => ∃ (k : Nat) (v : Value), k ≤ 30 ∧ k ≤ ll ∧ i = .int .i64 k ∧ n = .int .i64 ((framesF (recsN A k)).length : Int) ∧ v = s ∧ GAt W P D A gen k v wr) (fun _ _ i _ => 30 - (intOf i).toNat)
    case atStart => exact ⟨0, _, by decide, Nat.zero_le _, rfl, rfl, rfl, HG0.out⟩
    case round =>
      obtain ⟨k, v, hk30, hkl, rfl, rfl, rfl, hst⟩ := hrel
      have HST := Lib.hid hst
      clear hst HG0
      by_cases hlt : k < ll ∧ k < 30
      case neg =>
        rcases (by omega : ¬ k < ll ∨ k < ll ∧ k = 30) with hx | ⟨hx, rfl⟩
        · have hd1 : decide (k < ll) = false := decide_eq_false (by omega)
          clear hlt
          go_wp2_with fail
          go_meet
          exact ⟨k, _, hk30, rfl, rfl, HST.out⟩
        · have hd1 : decide (30 < ll) = true := decide_eq_true (by omega)
          clear hlt
          go_wp2_with fail
          go_meet
          exact ⟨30, _, hk30, rfl, rfl, HST.out⟩
      case pos =>
        obtain ⟨b0, off, rfl, hrow⟩ := HA.out.2 (by omega)
        have hcW := hrow k hlt.1
        clear hrow
        obtain ⟨r, hr⟩ : ∃ r, r = A k := ⟨_, rfl⟩
        rw [← hr] at hcW
        obtain ⟨g, bs⟩ := r
        have HR := Lib.hid hr
        clear hr
        have hbl := HST.out.below
        have q0 := (hbl.cell (p := ⟨b0, off + k * 2, none⟩) (World.block_lt_of_cell? W _ hcW.c0)).trans hcW.c0
        obtain ⟨sad, sc, k1, k2, k3, _⟩ := hcW.c1
        have hg := hcW.g_in
        have q1 := (hbl.cell (p := ⟨b0, off + k * 2 + 1, none⟩) (World.block_lt_of_cell? W _ k1)).trans k1
        try simp only at q0 q1 k2 k3 hg
        have HK0 := Lib.hid hcW.c0
        have HK1 := Lib.hid k1
        have HK2 := Lib.hid k2
        have HGI := Lib.hid hg
        have hd1 : decide (k < ll) = true := decide_eq_true hlt.1
        have hd2 : decide ((k : Int) < 30) = true := decide_eq_true (by omega)
        have hix : (k : Int) < (ll : Int) := by omega
        have hwk : IntKind.i64.wrap ((k : Int) + 1) = ((k + 1 : Nat) : Int) := by rw [IntKind.wrap_i64]; omega
        have HLT := Lib.hid hlt
        clear hcW k1 k2 hg hbl hlt
        obtain ⟨m, hm⟩ : ∃ m, m = bs.length := ⟨_, rfl⟩
        have HM := Lib.hid hm
        rw [← hm] at q1 k3
        by_cases hb3 : m ≤ 300
        case neg =>
          have hd3 : decide ((m : Int) > 300) = true := decide_eq_true (by omega)
          clear hb3 hm
          go_wp2_with fail
          go_ret
          exact ⟨rfl, HST.out.below⟩
        case pos =>
        have hd3 : decide ((m : Int) > 300) = false := decide_eq_false (by omega)
        obtain ⟨ds, hld, hok⟩ := HST.out.ld
        have hfl := framesN_le HST.out.good
        have hfr : (frameF (g, bs)).length ≤ 318 := by have := frame_le (r := (g, bs)) HGI.out; simp only at this; omega
        obtain ⟨ds', haf, hok', _⟩ := add_ok (rs := recsN A k) (ln := (framesF (recsN A k)).length) (r := (g, bs)) (by decide) hok (by simp only; omega) (by omega)
        have hX : ∀ w', Fr (fun j => W.heap.size ≤ j ∧ v.ownBlock ≠ some j) wr w' → TxtAt w' (.slice sad bs.length sc) bs := fun w' hf => HK2.out.below (HST.out.below.trans (hf.below HST.out.below.size (fun j hj => hj.1)))
        have KA := Lib.hid (add_ld hld g HGI.out sad bs.length sc bs hX (by simp [recsN_len]; omega) (by show (framesF (recsN A k)).length ≤ _; omega))
        rw [← hm] at KA
        have HAF := Lib.hid haf
        have HOK := Lib.hid hok'
        have HFL := Lib.hid hfl
        have HFR := Lib.hid hfr
        have HB3 := Lib.hid hb3
        clear hld hok hX hfl hfr haf hok' hm hb3
        go_wp2_with fail
        refine KA.out.mono ?_
        rintro e w3 ⟨rfl, hld3, hf3⟩
        rw [HAF.out] at hld3 ⊢
        have HLD3 := Lib.hid hld3
        have HF3 := Lib.hid hf3
        have hbW3 := HST.out.below.trans (hf3.below HST.out.below.size (fun j hj => hj.1))
        have HBW3 := Lib.hid hbW3
        have p0 := (hbW3.cell (p := ⟨b0, off + k * 2, none⟩) (World.block_lt_of_cell? W _ HK0.out)).trans HK0.out
        have p1 := (hbW3.cell (p := ⟨b0, off + k * 2 + 1, none⟩) (World.block_lt_of_cell? W _ HK1.out)).trans HK1.out
        rw [← HM.out] at p1
        try simp only at p0 p1
        have KF := Lib.hid (frame_any g HGI.out (HK2.out.below hbW3))
        rw [← HM.out] at KF
        clear hld3 hf3 hbW3 q0 q1 KA
        go_wp2_with fail
        refine KF.out.mono ?_
        rintro e w4 ⟨u, rfl, ho4, hb4⟩
        simp only at ho4
        rw [if_pos (by have := HM.out; have := HB3.out; omega)] at ho4
        rw [if_pos (show (g, bs).2.length ≤ 65536 by have := HM.out; have := HB3.out; simp only; omega)]
        obtain ⟨un, hun⟩ : ∃ un, un = (frameF (g, bs)).length := ⟨_, rfl⟩
        obtain ⟨ua, uc, rfl⟩ : ∃ a c, u = .slice a un c := by
          rcases ho4.form with ⟨rfl, h⟩ | ⟨g', c', rfl, _⟩
          · rw [hun, h]; exact ⟨_, _, rfl⟩
          · rw [hun]; exact ⟨_, _, rfl⟩
        have hwn : IntKind.i64.wrap (((framesF (recsN A k)).length : Int) + (un : Int)) = ((framesF (recsN A (k + 1))).length : Int) := by
          have h1 := HFL.out
          have h2 := HFR.out
          rw [recsN_succ, frames_snoc, ← HR.out, List.length_append, ← hun, IntKind.wrap_i64]
          omega
        have HB4 := Lib.hid hb4
        have hbW4 := HBW3.out.trans (hb4.mono HBW3.out.size)
        have HBW4 := Lib.hid hbW4
        have p0 := (hbW4.cell (p := ⟨b0, off + k * 2, none⟩) (World.block_lt_of_cell? W _ HK0.out)).trans HK0.out
        have p1 := (hbW4.cell (p := ⟨b0, off + k * 2 + 1, none⟩) (World.block_lt_of_cell? W _ HK1.out)).trans HK1.out
        rw [← HM.out] at p1
        try simp only at p0 p1
        have hgood : ∀ j, j < k + 1 → (A j).2.length ≤ 300 ∧ -9223372036854775808 ≤ (A j).1 ∧ (A j).1 ≤ 9223372036854775807 := fun j hj => by
          by_cases h : j < k
          · exact HST.out.good j h
          · obtain rfl : j = k := by omega
            rw [← HR.out]
            exact ⟨by have := HM.out; have := HB3.out; simp only; omega, HGI.out⟩
        have hvals : ∀ j, j < k + 1 → ∀ x ∈ (A j).2, 0 ≤ x ∧ x ≤ 255 := fun j hj => by
          by_cases h : j < k
          · exact HST.out.vals j h
          · obtain rfl : j = k := by omega
            rw [← HR.out]
            intro x hx
            obtain ⟨i, hi, rfl⟩ := List.getElem_of_mem hx
            have := HK2.out.bytes8 i hi
            simpa [List.getD, List.getElem?_eq_getElem hi] using this
        have hsz3 := HF3.out.size
        have hlt := fun j (hj : v.ownBlock = some j) => Ap.own_lt HST.out.own j hj
        have hLD4 : LD w4 P D (fun j => (W.heap.size ≤ j ∧ v.ownBlock ≠ some j) ∧ j < w4.heap.size) ⟨1, recsN A (k + 1), (framesF (recsN A (k + 1))).length, false, false⟩ ds' := by
          have h1 := HLD3.out.below hb4
          rw [show (⟨1, recsN A k ++ [(g, bs)], (framesF (recsN A k)).length + (frameF (g, bs)).length, false, false⟩ : LS) = ⟨1, recsN A (k + 1), (framesF (recsN A (k + 1))).length, false, false⟩ by rw [recsN_succ, ← HR.out, frames_snoc, List.length_append]] at h1
          refine h1.more fun j hj hjj => ?_
          rcases hjj with h | h
          · exact ⟨h, hj⟩
          · exact ⟨⟨by have := HST.out.below.size; omega, fun e => by have := hlt j e; omega⟩, hj⟩
        have hown4 : OwnS w4 W.heap.size v (textsG gen (recsN A k)) := Ap.own_below (Ap.own_keep HST.out.own fun j hj => HF3.out.block j (Ap.own_lt HST.out.own j hj) (fun h => h.2 hj)) hb4
        have hok1 : DOk ds' 1 (framesF (recsN A (k + 1))) := by
          rw [recsN_succ, frames_snoc, ← HR.out]
          exact HOK.out
        have hsn : textsG gen (recsN A (k + 1)) = if g = gen then textsG gen (recsN A k) ++ [bs] else textsG gen (recsN A k) := by rw [recsN_succ, ← HR.out, textsG_snoc]
        have hlen1 : (textsG gen (recsN A k)).length ≤ 30 := by have := textsG_len gen (recsN A k); rw [recsN_len] at this; omega
        have HLD4 := Lib.hid hLD4
        have HOW4 := Lib.hid hown4
        have HOK1 := Lib.hid hok1
        have HSN := Lib.hid hsn
        have HGD := Lib.hid hgood
        have HVL := Lib.hid hvals
        have HLN := Lib.hid hlen1
        have HK3 := Lib.hid (And.intro HLT.out (And.intro hk30 hkl))
        clear hLD4 hown4 hok1 hsn hgood hvals hlen1 hlt hsz3 hbW4 hb4 ho4 hun KF
        by_cases hge : g = gen
        case neg =>
          have hb : (g == gen) = false := by simpa using hge
          have HNE := Lib.hid hge
          clear hge
          go_wp2_with fail
          go_roundw
          case rel => exact ⟨k + 1, _, by have := HK3.out; omega, by have := HK3.out; omega, by go_num, rfl, rfl, ⟨⟨ds', HLD4.out.more (fun j _ hj => hj.1), HOK1.out⟩, by rw [HSN.out, if_neg HNE.out]; exact HOW4.out, HBW4.out, HGD.out, HVL.out⟩⟩
          case measure => have := HK3.out; simp [intOf]; omega
        case pos =>
          have hb : (g == gen) = true := by simpa using hge
          have HEQ := Lib.hid hge
          clear hge
          have hT4 := HK2.out.below HBW4.out
          have KV := Lib.hid (fun X (hX : Below w4.heap.size w4 X) => txt_conv hT4 X hX)
          have hcv := KV.out w4 (Below.refl _ _)
          rw [← HM.out] at hcv
          obtain ⟨va, vc, rfl⟩ : ∃ a c, v = .slice a (textsG gen (recsN A k)).length c := by
            rcases (show OwnS w4 W.heap.size v (textsG gen (recsN A k)) from HOW4.out).form with ⟨h, rfl⟩ | ⟨g', c', rfl, _⟩
            · rw [h]; exact ⟨none, 0, rfl⟩
            · exact ⟨_, _, rfl⟩
          have hbA := below_alloc (Below.refl _ w4) (.cells #[.string (strOfNums bs)] 9)
          have HBA := Lib.hid hbA
          have HL := Lib.hid (show OwnS (w4.alloc (.cells #[.string (strOfNums bs)] 9)) W.heap.size (.slice va (textsG gen (recsN A k)).length vc) (textsG gen (recsN A k)) from Ap.own_below HOW4.out hbA)
          obtain ⟨tl, htl⟩ : ∃ tl, tl = (textsG gen (recsN A k)).length := ⟨_, rfl⟩
          have HTL := Lib.hid htl
          rw [← htl] at HL
          rw [← htl]
          have hmx1 : tl + 1 ≤ maxLen := by have := HLN.out; unfold maxLen; omega
          have hmx2 : (tl + 1) * 16 ≤ 140737488355328 := by have := HLN.out; omega
          have hbg : W.heap.size ≤ (w4.alloc (.cells #[.string (strOfNums bs)] 9)).heap.size := Nat.le_trans HBW4.out.size hbA.size
          clear hT4 hbA htl
          go_wp2_with (at_builtin; go_loud (refine wpList_append_own_at _ rfl _ _ 56 rfl W.heap.size 9 i0 (.string .empty) 1 16 Tryd.underlying56 hi hz0 hz1 hz2 rfl (by decide) (.slice va tl vc) tl (strsJ (textsG gen (recsN A k))) rfl (by have h := HL.out; rw [OwnS, ← HTL.out] at h; exact h) ⟨w4.heap.size, 0, none⟩ 1 1 [.string (strOfNums bs)] rfl rfl (fun j u hj => cell_one_new _ _ _ j u hj) (by intro u hu; simp at hu; subst hu; rfl) hmx1 hmx2 hbg ?_; intro v' w6 hown' hgrow _ hat; obtain ⟨g', cap', rfl⟩ := ownsRow_succ hown'; have HO' := Lib.hid hown'; have HGW := Lib.hid hgrow; have HAT := Lib.hid hat; clear hown' hgrow hat))
          go_roundw
          case rel =>
            have hsA := HBA.out.size
            refine ⟨k + 1, _, by have := HK3.out; omega, by have := HK3.out; omega, by go_num, rfl, rfl, ⟨⟨ds', ?_, HOK1.out⟩, ?_, ?_, HGD.out, HVL.out⟩⟩
            · have h1 := (HLD4.out.below HBA.out).fr (K := fun j => (Value.slice va tl vc).ownBlock = some j) (w' := w6) ⟨HGW.out.os, HGW.out.tape, HGW.out.output, HGW.out.size, fun j hj hn => HGW.out.block j hj (fun e => hn e.symm)⟩ (fun j _ hj e => hj.1.2 (by rw [← HTL.out]; exact e))
              refine h1.more fun j _ hj => ⟨hj.1.1, fun e => ?_⟩
              rcases HAT.out with h | h
              · rw [h] at e; exact hj.1.2 (by rw [← HTL.out]; exact e)
              · rw [h] at e
                simp only [Option.some.injEq] at e
                have := hj.2
                omega
            · rw [HSN.out, if_pos HEQ.out]
              unfold OwnS
              rw [List.length_append, show strsJ (textsG gen (recsN A k) ++ [bs]) = strsJ (textsG gen (recsN A k)) ++ [.string (strOfNums bs)] by simp [strsJ], ← HTL.out]
              exact HO'.out
            · refine (HBW4.out.trans (HBA.out.mono HBW4.out.size)).grown HGW.out hbg (fun j hj => ?_)
              exact Ap.own_blk HL.out j hj
          case measure => have := HK3.out; simp [intOf]; omega
  case rest =>
  obtain ⟨k, v, hk30, rfl, rfl, hst⟩ := hcut
  have HST := Lib.hid hst
  have HGR := Lib.hid hst.goodR
  have hfl := framesN_le hst.good
  obtain ⟨ds, hld, hok⟩ := hst.ld
  have hown := hst.own
  have hrl : (textsG gen (recsN A k)).length ≤ 30 := by have := textsG_len gen (recsN A k); rw [recsN_len] at this; omega
  obtain ⟨F, G, hl, hdk, hFG, hH⟩ := hld
  have KT := Lib.hid (texts_lg hl (by show (recsN A k).length < 998; rw [recsN_len]; omega) gen)
  have HLg := Lib.hid hl
  have HLD := Lib.hid (show LD _ P D (fun j => W.heap.size ≤ j ∧ v.ownBlock ≠ some j) ⟨1, recsN A k, (framesF (recsN A k)).length, false, false⟩ ds from ⟨F, G, hl, hdk, hFG, hH⟩)
  have HOK := Lib.hid hok
  have HOW := Lib.hid hown
  have HFL := Lib.hid hfl
  have HRL := Lib.hid hrl
  obtain ⟨va, vc, rfl⟩ : ∃ a c, v = .slice a (textsG gen (recsN A k)).length c := by
    rcases hown.form with ⟨h, rfl⟩ | ⟨g', c', rfl, _⟩
    · rw [h]; exact ⟨none, 0, rfl⟩
    · exact ⟨_, _, rfl⟩
  clear hst hfl hok hown hrl hl hdk hFG hH HG0
  obtain ⟨L, hL⟩ : ∃ L, L = textsG gen (recsN A k) := ⟨_, rfl⟩
  have HL := Lib.hid hL
  rw [← hL] at HOW HRL KT HLD ⊢
  obtain ⟨tl, htl⟩ : ∃ tl, tl = L.length := ⟨_, rfl⟩
  have HTL := Lib.hid htl
  rw [← htl] at HOW HRL HLD ⊢
  clear hL htl
  obtain ⟨N, hN⟩ : ∃ N, N = (framesF (recsN A k)).length := ⟨_, rfl⟩
  have HN := Lib.hid hN
  rw [← hN] at HLD HLg ⊢
  clear hN
  have hbx := HST.out.below
  go_wp2_with fail
  refine KT.out.mono ?_
  rintro e w3 ⟨tv, rfl, ho3, hb3⟩
  obtain ⟨B3, ho3⟩ : ∃ B, OwnS w3 B tv L := ⟨_, ho3⟩
  obtain ⟨ta, tc, rfl⟩ : ∃ a c, tv = .slice a tl c := by
    rcases ho3.form with ⟨h, rfl⟩ | ⟨g', c', rfl, _⟩
    · rw [HTL.out, h]; exact ⟨none, 0, rfl⟩
    · rw [HTL.out]; exact ⟨_, _, rfl⟩
  have KL := Lib.hid (len_lg (HLg.out.below hb3))
  have HB3 := Lib.hid (hbx.trans (hb3.mono hbx.size))
  have HLD3 := Lib.hid (HLD.out.below hb3)
  have HOW3 := Lib.hid (show OwnS w3 W.heap.size (.slice va tl vc) L from Ap.own_below HOW.out hb3)
  have HO3 := Lib.hid (show OwnS w3 B3 (.slice ta tl tc) L from ho3)
  clear ho3 hb3 hbx KT
  go_wp2_with fail
  refine KL.out.mono ?_
  rintro e w' ⟨rfl, rfl⟩
  go_upto_block 2 with fail
  go_cut [] (fun wy => Below w3.heap.size w3 wy)
  case first =>
    go_wp2_with fail
    go_loopw [14] (fun i wr => ∃ q : Nat, q ≤ tl ∧ i = .int .i64 q ∧ Below w3.heap.size w3 wr) (fun i _ => tl - (intOf i).toNat)
    case atStart => exact ⟨0, Nat.zero_le _, rfl, Below.refl _ _⟩
    case round =>
      obtain ⟨q, hq, rfl, hb⟩ := hrel
      have HB := Lib.hid hb
      by_cases hlt : q < tl
      case pos =>
        have hd : decide (q < tl) = true := decide_eq_true hlt
        have hix : (q : Int) < (tl : Int) := by omega
        have hwk : IntKind.i64.wrap ((q : Int) + 1) = ((q + 1 : Nat) : Int) := by have := HRL.out; rw [IntKind.wrap_i64]; omega
        obtain ⟨g1, rfl, z1, e1⟩ : ∃ g1, ta = some ⟨g1, 0, none⟩ ∧ g1 < w3.heap.size ∧ w3.cell? ⟨g1, q, none⟩ = some (.string (strOfNums (L.getD q []))) := by
          rcases HO3.out.form with ⟨h, _⟩ | ⟨g', c', h1, _, h3, h4⟩
          · have := HTL.out; rw [h] at this; simp at this; omega
          · injection h1 with h1 _ _
            exact ⟨g', h1, h3, h4 q (by have := HTL.out; omega)⟩
        obtain ⟨g2, rfl, z2, e2⟩ : ∃ g2, va = some ⟨g2, 0, none⟩ ∧ g2 < w3.heap.size ∧ w3.cell? ⟨g2, q, none⟩ = some (.string (strOfNums (L.getD q []))) := by
          rcases HOW3.out.form with ⟨h, _⟩ | ⟨g', c', h1, _, h3, h4⟩
          · have := HTL.out; rw [h] at this; simp at this; omega
          · injection h1 with h1 _ _
            exact ⟨g', h1, h3, h4 q (by have := HTL.out; omega)⟩
        have c1 := (hb.cell (p := ⟨g1, q, none⟩) z1).trans e1
        have c2 := (hb.cell (p := ⟨g2, q, none⟩) z2).trans e2
        generalize strOfNums (L.getD q []) = s at *
        clear e1 e2 hlt hb
        go_upto_region 22 with fail
        go_quiet (fail)
        have HBq := Lib.hid (below_drewN (Below.refl wr.heap.size wr) nq)
        go_wp2_with fail
        go_roundw
        case rel => exact ⟨q + 1, by omega, by go_num, HB.out.trans (HBq.out.mono HB.out.size)⟩
        case measure => simp [intOf]; omega
      case neg =>
        have hd : decide (q < tl) = false := decide_eq_false hlt
        clear hlt hb
        go_wp2_with fail
        go_meet
        exact HB.out
  case rest =>
  have HCU := Lib.hid hcut
  have hB4 := HB3.out.trans (hcut.mono HB3.out.size)
  have HB4 := Lib.hid hB4
  have hld4 := HLD3.out.below hcut
  obtain ⟨ds1, hcl, hok1, _⟩ := clear_ok (st := ⟨1, recsN A k, N, false, false⟩) (by show (0 : Int) ≤ 1 ∧ (1 : Int) ≤ 3; decide) HOK.out (by have := HFL.out; omega)
  have KC := Lib.hid (clear_ld hld4)
  have HCL := Lib.hid hcl
  have HOK1 := Lib.hid (show DOk ds1 1 [] from hok1)
  clear hld4 hcl hok1 hcut hB4
  go_wp2_with fail
  refine KC.out.mono ?_
  rintro e w5 ⟨rfl, hld5, hf5⟩
  rw [HCL.out] at hld5 ⊢
  have HLD5 := Lib.hid hld5
  have HB5 := Lib.hid (HB4.out.trans (hf5.below HB4.out.size (fun j hj => hj.1)))
  obtain ⟨F, G, hl5, _, _, _⟩ := hld5
  have KL5 := Lib.hid (len_lg hl5)
  have KT5 := Lib.hid (texts_lg hl5 (by simp) gen)
  clear hl5 hf5 KC
  go_wp2_with fail
  refine KL5.out.mono ?_
  rintro e w' ⟨rfl, rfl⟩
  go_wp2_with fail
  refine KT5.out.mono ?_
  rintro e w6 ⟨tv, rfl, ho6, hb6⟩
  obtain ⟨ta6, tc6, rfl⟩ : ∃ a c, tv = .slice a 0 c := by
    rcases (show OwnS w6 w5.heap.size tv [] from ho6).form with ⟨_, rfl⟩ | ⟨g', c', rfl, _⟩
    · exact ⟨none, 0, rfl⟩
    · exact ⟨_, _, rfl⟩
  have HB6 := Lib.hid (HB5.out.trans (hb6.mono HB5.out.size))
  have hgr : GoodR (gen, []) := ⟨HG.out, by simp, fun x hx => by cases hx⟩
  have hfl1 : (frameF (gen, [])).length ≤ 18 := by have := frame_le (r := (gen, [])) HG.out; simpa using this
  obtain ⟨ds2, had, hok2, _⟩ := add_ok (rs := []) (ln := 0) (r := (gen, [])) (by decide) HOK1.out (by simp) (by simp; omega)
  have hld6 := HLD5.out.below hb6
  have KA6 := Lib.hid (add_ld hld6 gen HG.out none 0 0 [] (fun w' _ => .inr ⟨rfl, none, 0, rfl, fun _ => rfl⟩) (by simp) (by simp))
  have HAD := Lib.hid had
  have HOK2 := Lib.hid (show DOk ds2 1 (framesF [(gen, [])]) by rw [frames_one]; exact hok2)
  have HGR1 := Lib.hid (show ∀ r ∈ [((gen, []) : JRec)], GoodR r from fun r hr => by rw [List.mem_singleton.1 hr]; exact hgr)
  clear ho6 hb6 hgr hfl1 had hok2 hld6 KL5 KT5 HLD5
  go_wp2_with fail
  refine KA6.out.mono ?_
  rintro e w7 ⟨rfl, hld7, hf7⟩
  rw [HAD.out] at hld7 ⊢
  have hB7 := HB6.out.trans (hf7.below HB6.out.size (fun j hj => by rcases hj with h | h; exact h.1; have := HB4.out.size; omega))
  have HB7 := Lib.hid hB7
  obtain ⟨F7, G7, _, hd7, _, _⟩ := hld7
  have KO := Lib.hid (open_any hd7 (HE.out.below hB7) 1)
  have HOP := Lib.hid (open_ok (ds := ds2) (f := 1) (rs := [(gen, [])]) HOK2.out HGR1.out)
  clear hf7 hB7 hd7 KA6
  go_wp2_with fail
  refine KO.out.mono ?_
  rintro e w8 ⟨hb8, h | ⟨_, P8, rfl, hl8⟩⟩
  · exact absurd (by rw [HOK2.out.down]; decide) h.1
  rw [HOP.out] at hl8
  have HB8 := Lib.hid (HB7.out.trans (hb8.mono HB7.out.size))
  have KT8 := Lib.hid (texts_lg hl8 (by simp) gen)
  clear hb8 hl8 KO
  go_wp2_with fail
  refine KT8.out.mono ?_
  rintro e w9 ⟨tv, rfl, ho9, hb9⟩
  have ho9 : OwnS w9 w8.heap.size tv [[]] := by
    have e1 : textsG gen [((gen, []) : JRec)] = [[]] := by unfold textsG; simp
    rw [← e1]; exact ho9
  obtain ⟨ta9, tc9, rfl⟩ : ∃ a c, tv = .slice a 1 c := by
    rcases ho9.form with ⟨h, _⟩ | ⟨g', c', rfl, _⟩
    · cases h
    · exact ⟨_, _, rfl⟩
  have hB9 := HB8.out.trans (hb9.mono HB8.out.size)
  have HB9 := Lib.hid hB9
  have KJ := Lib.hid (one_jn w9 (HE.out.below hB9))
  clear ho9 hb9 hB9 KT8
  go_wp2_with fail
  refine KJ.out.mono ?_
  rintro e w10 ⟨rfl, hb10⟩
  have HB10 := Lib.hid (HB9.out.trans (hb10.mono HB9.out.size))
  clear hb10
  go_wp2_with fail
  go_ret
  exact ⟨rfl, HB10.out⟩
end Go.Proofs.YtomhfnaekjmjnaaDoor
