/- JournalFalls walked. Condition: errors.errorType reads as the program's text lays it. -/
import Derived.Test.YtomhfnaekjmjnaaDoorMam
import Derived.Test.YtomhfnaekjmjnaaDoorMJnR
import Derived.Test.YtomhfnaekjmjnaaDoorMac
import Derived.Deep.CutBlock
import Derived.BigQuiet
namespace Go.Proofs.YtomhfnaekjmjnaaDoor
set_option linter.unusedVariables false
open Go.ChangeShapes Go.WideShapes Go.ChangeAt Go.RowKit Go.Lib
attribute [local go_sem ↓] Go.wp_at_zero Go.wp_at_succ comesTo_value_eq comesTo_skip_eq comesTo_enter_eq Rl.comesToR_value_eq Rl.comesToR_skip_eq Rl.comesToR_enter_eq

theorem Fr.sub {F H : Nat → Prop} {w w' : World} (h : Fr F w w') (hF : ∀ j, j < w.heap.size → F j → H j) : Fr H w w' := ⟨h.os, h.tape, h.output, h.size, fun j hj hn => h.block j hj (fun hf => hn (hF j hj hf))⟩
theorem LD.disk {w w' : World} {P D : Nat} {F G H : Nat → Prop} {st : LS} {ds' : DS} (hl : Lg w P D F st) (hFG : ∀ j, F j → ¬ G j) (hH : ∀ j, F j ∨ G j → H j ∧ j < w.heap.size) (hd : Dk w' D G ds') (hf : Fr G w w') : LD w' P D H st ds' ∧ Fr H w w' :=
  ⟨⟨F, G, hl.keep fun j hj hlt => hf.block j hlt (hFG j hj), hd, hFG, fun j hj => ⟨(hH j hj).1, Nat.lt_of_lt_of_le (hH j hj).2 hf.size⟩⟩, hf.sub fun j _ hg => (hH j (.inr hg)).1⟩
theorem arm_ld {w : World} {P D : Nat} {H : Nat → Prop} {st : LS} {ds : DS} (h : LD w P D H st ds) (n : Int) (hn : n ≤ 9223372036854775807) :
    Calls Tryd.prog 21 #[.pointer (some ⟨D, 0, none⟩), .int .i64 n] w fun e w' => e = .returned (.tuple #[]) ∧ LD w' P D H st { ds with left := max n (-1) } ∧ Fr H w w' := by
  obtain ⟨F, G, hl, hd, hFG, hH⟩ := h
  exact (arm_dk hd n hn).mono fun e w' ⟨he, hd', hf⟩ => ⟨he, LD.disk hl hFG hH hd' hf⟩
theorem fall_ld {w : World} {P D : Nat} {H : Nat → Prop} {st : LS} {ds : DS} (h : LD w P D H st ds) (n : Int) :
    Calls Tryd.prog 23 #[.pointer (some ⟨D, 0, none⟩), .agg #[.int .i64 0, .int .i64 0, .int .i64 n, .int .i64 0]] w fun e w' => e = .returned (.tuple #[]) ∧ LD w' P D H st (fallF ds (keep2F n)) ∧ Fr H w w' := by
  obtain ⟨F, G, hl, hd, hFG, hH⟩ := h
  exact (fall_dk hd (keep2F n)).mono fun e w' ⟨he, hd', hf⟩ => ⟨he, LD.disk hl hFG hH hd' hf⟩
theorem textsG_at (g : Int) : ∀ (rs : List JRec) (q : Nat) (x : JRec), rs[q]? = some x → x.1 = g → (textsG g rs)[(textsG g (rs.take q)).length]? = some x.2
  | y :: rs, 0, x, h, hg => by
    simp at h
    subst h
    unfold textsG
    simp [hg]
  | y :: rs, q + 1, x, h, hg => by
    have ih := textsG_at g rs q x (by simpa using h) hg
    rw [List.take_succ_cons]
    unfold textsG at ih ⊢
    by_cases hy : y.1 = g
    · simp [List.filter_cons, hy] at ih ⊢
      exact ih
    · simp [List.filter_cons, hy] at ih ⊢
      exact ih
theorem AddsAt.cell {w w' : World} {b off len k : Nat} {A : Nat → AddV} (hA : AddsAt w (some ⟨b, off, none⟩) len A) (hk : k < len) (hb : Below w.heap.size w w') : w'.cell? ⟨b, off + k * 4 + 2, none⟩ = some (.int .i64 (A k).arm) ∧ w'.cell? ⟨b, off + k * 4 + 3, none⟩ = some (.int .i64 (A k).kp) := by
  obtain ⟨b', off', e, h⟩ := hA.2 (by omega)
  cases e
  have hc := h k hk
  exact ⟨(hb.cell (p := ⟨b, off + k * 4 + 2, none⟩) (World.block_lt_of_cell? w _ hc.c2)).trans hc.c2, (hb.cell (p := ⟨b, off + k * 4 + 3, none⟩) (World.block_lt_of_cell? w _ hc.c3)).trans hc.c3⟩
theorem mask_3 (x : Int) : bits .and .i64 x 3 = x % 4 := mask_i64 x 2 4 rfl (by decide) (by decide) (by decide)
theorem framesL_le : ∀ {l : List JRec}, (∀ r ∈ l, GoodR r ∧ r.2.length ≤ 300) → (framesF l).length ≤ l.length * 318
  | [], _ => Nat.le_refl _
  | r :: l, h => by
    have h1 := framesL_le (l := l) (fun q hq => h q (List.mem_cons_of_mem _ hq))
    have h2 := frame_le (h r List.mem_cons_self).1.gen
    have h3 := (h r List.mem_cons_self).2
    unfold framesF at *
    rw [List.flatMap_cons, List.length_append, List.length_cons]
    omega
/-- a log over a disk, and the records that were told beside it -/
structure FAt (W : World) (P D : Nat) (all : List JRec) (v : Value) (wr : World) : Prop where
  ld : ∃ ds, LD wr P D (fun j => W.heap.size ≤ j ∧ v.ownBlock ≠ some j) ⟨2, all, (framesF all).length, false, false⟩ ds ∧ DUp ds (framesF all)
  own : OwnR wr W.heap.size v all
  below : Below W.heap.size W wr
  good : ∀ r ∈ all, GoodR r ∧ r.2.length ≤ 300
theorem FAt.next {W wr w' : World} {P D : Nat} {all : List JRec} {v : Value} (h : FAt W P D all v wr) (hb : Below wr.heap.size wr w') : FAt W P D all v w' := by
  obtain ⟨⟨ds, h1, h2⟩, h3, h4, h5⟩ := h
  exact ⟨⟨ds, h1.below hb, h2⟩, Ap.own_below h3 hb, h4.trans (hb.mono h4.size), h5⟩
set_option maxRecDepth 100000 in
set_option maxHeartbeats 8000000 in
theorem jfalls_any (ad : Option Addr) (ll lcap : Nat) (A : Nat → AddV) (gen : Int) (W : World) (hA : AddsAt W ad ll A) (hE : ErrAt W) :
    Calls Tryd.prog 4 #[.slice ad ll lcap, .int .i64 gen] W fun e W' => e = .returned (.bool true) ∧ Below W.heap.size W W' := by
  have hmx : Tryd.prog.follows .mixedOrders = true := by kernel_rfl
  obtain ⟨i0, hi, hz0, hz1, hz2⟩ := info_parts info_rrec
  have HA := Lib.hid hA
  have HE := Lib.hid (fun X (hX : Below W.heap.size W X) => hE.below hX)
  clear hA hE
  go_enter Tryd.func4, Tryd.ntmps4
  go_wp2_with fail
  refine (new_any W).mono ?_
  rintro e w1 ⟨D, rfl, hd, hb⟩
  go_wp2_with fail
  refine (open_any hd (HE.out _ hb) 2).mono ?_
  rintro e w2 ⟨hb2, h | ⟨_, P0, rfl, hl⟩⟩
  · exact absurd (by decide : wrongF newF.down 2 = 0) h.1
  have hG0 : FAt W P0 D [] (.slice none 0 0) w2 := ⟨⟨newF, (opened (w := W) hd hb.size hb2 hl).more (fun j _ hj => ⟨hj, by simp [Value.ownBlock]⟩), ⟨rfl, by decide, rfl, rfl⟩⟩, OwnR.nil, hb.trans (hb2.mono hb.size), fun r hr => by cases hr⟩
  have HG0 := Lib.hid hG0
  clear hd hb hb2 hl hG0
  go_upto_block 0 with fail
  go_cut [6, 7] (fun s p wx => ∃ (P : Nat) (all : List JRec) (v : Value), all.length ≤ 30 ∧ v = s ∧ p = .pointer (some ⟨P, 0, none⟩) ∧ FAt W P D all v wx)
  case first =>
    go_wp2_with fail
    go_loopw [6, 7, 9] (fun s p i wr => ∃ (k P : Nat) (all : List JRec) (v : Value), k ≤ 30 ∧ k ≤ ll ∧ i = .int .i64 k ∧ all.length ≤ k ∧ v = s ∧ p = .pointer (some ⟨P, 0, none⟩) ∧ FAt W P D all v wr) (fun _ _ i _ => 30 - (intOf i).toNat)
    case atStart => exact ⟨0, _, [], _, by decide, Nat.zero_le _, rfl, Nat.le_refl _, rfl, rfl, HG0.out⟩
    case round =>
      obtain ⟨k, P, all, v, hk30, hkl, rfl, hlen, rfl, rfl, hst⟩ := hrel
      have HST := Lib.hid hst
      clear hst HG0
      by_cases hlt : k < ll ∧ k < 30
      case neg =>
        rcases (by omega : ¬ k < ll ∨ k < ll ∧ k = 30) with hx | ⟨hx, rfl⟩
        · have hd1 : decide (k < ll) = false := decide_eq_false (by omega)
          clear hlt
          go_wp2_with fail
          go_meet
          exact ⟨_, _, _, by omega, rfl, rfl, HST.out⟩
        · have hd1 : decide (30 < ll) = true := decide_eq_true (by omega)
          clear hlt
          go_wp2_with fail
          go_meet
          exact ⟨_, _, _, by omega, rfl, rfl, HST.out⟩
      case pos =>
        obtain ⟨b0, off, rfl, hrow⟩ := HA.out.2 (by omega)
        have hcA := hrow k hlt.1
        clear hrow
        obtain ⟨⟨⟨g, bs⟩, arm, kp⟩, hr⟩ : ∃ r, r = A k := ⟨_, rfl⟩
        have HCC := Lib.hid (fun X (hX : Below W.heap.size W X) => AddsAt.cell HA.out hlt.1 hX)
        rw [← hr] at hcA HCC
        simp only at HCC
        have hcW := hcA.c0
        have hbl := HST.out.below
        have q0 := (hbl.cell (p := ⟨b0, off + k * 4, none⟩) (World.block_lt_of_cell? W _ hcW.c0)).trans hcW.c0
        obtain ⟨sad, sc, k1, k2, k3, hkz⟩ := hcW.c1
        have hg := hcW.g_in
        have q1 := (hbl.cell (p := ⟨b0, off + k * 4 + 1, none⟩) (World.block_lt_of_cell? W _ k1)).trans k1
        try simp only at q0 q1 k2 k3 hg
        have HK2 := Lib.hid (fun X (hX : Below W.heap.size W X) => k2.below hX)
        have HGI := Lib.hid hg
        have HAR := Lib.hid hcA.arm_in
        have hd1 : decide (k < ll) = true := decide_eq_true hlt.1
        have hd2 : decide ((k : Int) < 30) = true := decide_eq_true (by omega)
        have hix : (k : Int) < (ll : Int) := by omega
        have hwk : IntKind.i64.wrap ((k : Int) + 1) = ((k + 1 : Nat) : Int) := by rw [IntKind.wrap_i64]; omega
        have HLT := Lib.hid (And.intro hlt (And.intro hk30 (And.intro hkl hlen)))
        obtain ⟨m, hm⟩ : ∃ m, m = bs.length := ⟨_, rfl⟩
        have HM := Lib.hid hm
        rw [← hm] at q1 k3 HK2
        have HB8 := Lib.hid (show ∀ x ∈ bs, 0 ≤ x ∧ x ≤ 255 from fun x hx => by
          obtain ⟨i, hi, rfl⟩ := List.getElem_of_mem hx
          have := k2.bytes8 i hi
          simpa [List.getD, List.getElem?_eq_getElem hi] using this)
        clear hcA hcW k1 k2 hg hbl hlt hm hkz hr hk30 hkl hlen
        have hbA := below_alloc (Below.refl _ wr) (.cells #[.int .i64 g, .slice sad m sc] 24)
        have nB := World.alloc_heap_new wr (.cells #[.int .i64 g, .slice sad m sc] 24)
        have hszA : (wr.alloc (.cells #[.int .i64 g, .slice sad m sc] 24)).heap.size = wr.heap.size + 1 := by simp
        obtain ⟨ds0, hld0, hup0⟩ := HST.out.ld
        have hld1 := (hld0.more (K := fun j => (W.heap.size ≤ j ∧ v.ownBlock ≠ some j) ∧ j < wr.heap.size) (fun j hj h => ⟨h, hj⟩)).below hbA
        have HLD1 := Lib.hid hld1
        have HUP0 := Lib.hid hup0
        have HBA := Lib.hid hbA
        have NB := Lib.hid nB
        have HSA := Lib.hid hszA
        have x0 := cell_of_block (o := 0) nB rfl
        have x1 := cell_of_block (o := 1) nB rfl
        have HBW := Lib.hid (HST.out.below.trans (hbA.mono HST.out.below.size))
        clear hbA nB hszA hld0 hld1 hup0
        go_upto_region 10 with fail
        generalize wr.alloc (.cells #[.int .i64 g, .slice sad m sc] 24) = w1 at *
        by_cases hb3 : 300 < m
        case pos =>
          have hd3 : decide ((m : Int) > 300) = true := decide_eq_true (by omega)
          have hd4 : decide (300 < m) = true := decide_eq_true hb3
          clear hb3
          go_wp2_with fail
          go_roundw
          case rel => exact ⟨k + 1, P, all, _, by have := HLT.out; omega, by have := HLT.out; omega, by go_num, by have := HLT.out; omega, rfl, rfl, HST.out.next HBA.out⟩
          case measure => have := HLT.out; simp [intOf]; omega
        case neg =>
        have hd3 : decide ((m : Int) > 300) = false := decide_eq_false (by omega)
        have hd4 : decide (300 < m) = false := decide_eq_false hb3
        have HM3 := Lib.hid hb3
        have HGR := Lib.hid (show GoodR (g, bs) from ⟨HGI.out, by have := HM.out; simp only; omega, HB8.out⟩)
        clear hb3
        have z2 := (HCC.out w1 HBW.out).1
        obtain ⟨ba, hba⟩ : ∃ ba, ba = decide (0 ≤ arm) := ⟨_, rfl⟩
        have HBAR := Lib.hid hba
        have hda : decide (arm ≥ 0) = ba := hba.symm
        have hda2 : decide (0 ≤ arm) = ba := hba.symm
        clear hba
        go_upto_if 55 with fail
        clear hda hda2
        go_cut [] (fun wx => ∃ ds, LD wx P D (fun j => (W.heap.size ≤ j ∧ v.ownBlock ≠ some j) ∧ j < wr.heap.size) ⟨2, all, (framesF all).length, false, false⟩ ds ∧ DUp ds (framesF all) ∧ Fr (fun j => (W.heap.size ≤ j ∧ v.ownBlock ≠ some j) ∧ j < wr.heap.size) w1 wx)
        case first =>
          cases ba with
          | true =>
            have hmk := mask_3 arm
            have KA := Lib.hid (arm_ld HLD1.out (arm % 4) (by omega))
            have HA0 := Lib.hid (show -1 ≤ max (arm % 4) (-1) from by omega)
            go_wp2_with fail
            refine KA.out.mono ?_
            rintro e w' ⟨rfl, hld, hfr⟩
            have HQ := Lib.hid (And.intro hld hfr)
            clear hld hfr
            go_wp2_with fail
            go_meet
            exact ⟨_, HQ.out.1, ⟨HUP0.out.down, HA0.out, HUP0.out.b, HUP0.out.s⟩, HQ.out.2⟩
          | false =>
            go_wp2_with fail
            go_meet
            exact ⟨_, HLD1.out, HUP0.out, Fr.refl _ _⟩
        case rest =>
        obtain ⟨ds, hld, hup, hfr⟩ := hcut
        have hgdr : ∀ r ∈ all, GoodR r := fun r hr => (HST.out.good r hr).1
        have hfl := framesL_le HST.out.good
        have hfr1 : (frameF (g, bs)).length ≤ 318 := by have h1 := frame_le (r := (g, bs)) HGI.out; have h2 := HM.out; have h3 := HM3.out; simp only at h1; omega
        have hlen := HLT.out.2.2.2
        have hk30 := HLT.out.1.2
        have hszx := hfr.size
        have hszA := HSA.out
        have hbWx : Below W.heap.size W wc := HBW.out.trans (hfr.below HBW.out.size (fun j hj => hj.1.1))
        have nX : wc.heap[wr.heap.size]? = some (.cells #[.int .i64 g, .slice sad m sc] 24 (0, 0)) := (hfr.block _ (by omega) (fun h => by omega)).trans NB.out
        have x0 := cell_of_block (o := 0) nX rfl
        have x1 := cell_of_block (o := 1) nX rfl
        have KA := Lib.hid (add_ld hld g HGI.out sad m sc bs (fun w' hf => HK2.out w' (hbWx.trans (hf.below hbWx.size (fun j hj => hj.1.1)))) (by show all.length ≤ _; omega) (by show (framesF all).length ≤ _; omega))
        have HBX := Lib.hid hbWx
        have NX := Lib.hid nX
        have HSX := Lib.hid hszx
        have HFL := Lib.hid (And.intro hfl hfr1)
        have HGD := Lib.hid hgdr
        have HBXR := Lib.hid (show wr.heap.size < wc.heap.size by omega)
        have hownx : OwnR wc W.heap.size v all := Ap.own_keep (Ap.own_below HST.out.own HBA.out) fun j hj => hfr.block j (by have := Ap.own_lt HST.out.own j hj; omega) (fun h => h.1.2 hj)
        have HOWX := Lib.hid hownx
        have HVL := Lib.hid (fun j (hj : v.ownBlock = some j) => Ap.own_lt HST.out.own j hj)
        by_cases hlf : ds.left = 0 ∨ ds.left = 1
        case neg =>
          obtain ⟨ds2, haf, hup2⟩ := add_up (rs := all) (ln := (framesF all).length) (r := (g, bs)) hup (by have := HM.out; have := HM3.out; simp only; omega) (by omega) (by omega)
          have HAF := Lib.hid haf
          have HUP2 := Lib.hid hup2
          clear hld hup hfr hgdr hfl hfr1 hlen hk30 hszx hszA hbWx nX hownx hlf haf hup2 z2
          go_wp2_with fail
          refine KA.out.mono ?_
          rintro e w3 ⟨rfl, hld3, hf3⟩
          rw [HAF.out] at hld3 ⊢
          have KM := Lib.hid (arm_ld hld3 (-1) (by decide))
          have HF3 := Lib.hid hf3
          clear hld3 hf3 KA x0 x1
          go_wp2_with fail
          refine KM.out.mono ?_
          rintro e w4 ⟨rfl, hld4, hf4⟩
          have hs3 := HF3.out.size
          have hs4 := hf4.size
          have hsx := HBXR.out
          have hszA := HSA.out
          have hbW3 : Below W.heap.size W w3 := HBX.out.trans (HF3.out.below HBX.out.size (fun j hj => hj.1.1))
          have hbW4 : Below W.heap.size W w4 := hbW3.trans (hf4.below hbW3.size (fun j hj => by rcases hj with h | h; exact h.1.1; have := HBX.out.size; omega))
          have nB3 := (HF3.out.block _ hsx (fun h => by omega)).trans NX.out
          have nB4 : w4.heap[wr.heap.size]? = some (.cells #[.int .i64 g, .slice sad m sc] 24 (0, 0)) := (hf4.block _ (by omega) (fun h => by rcases h with h | h <;> omega)).trans nB3
          have x0 := cell_of_block (o := 0) nB4 rfl
          have x1 := cell_of_block (o := 1) nB4 rfl
          have KOW := Lib.hid (own_any (HK2.out w4 hbW4) g)
          have hown4 : OwnR w4 W.heap.size v all := Ap.own_keep (Ap.own_keep HOWX.out fun j hj => HF3.out.block j (by have := HVL.out j hj; omega) (fun h => h.1.2 hj)) fun j hj => hf4.block j (by have := HVL.out j hj; omega) (fun h => by have := HVL.out j hj; rcases h with h | h; exact h.1.2 hj; omega)
          have hld4' : LD w4 P D (fun j => (W.heap.size ≤ j ∧ v.ownBlock ≠ some j) ∧ j < w4.heap.size) ⟨2, all ++ [(g, bs)], (framesF all).length + (frameF (g, bs)).length, false, false⟩ _ := hld4.more fun j hj h => by
            rcases h with h | h
            · exact ⟨h.1, hj⟩
            · exact ⟨⟨by have := HBX.out.size; omega, fun e => by have := HVL.out j e; omega⟩, hj⟩
          have HLD4 := Lib.hid hld4'
          have HOW4 := Lib.hid hown4
          have HBW4 := Lib.hid hbW4
          clear hld4 hf4 hbW3 hbW4 nB3 nB4 hown4 hld4' KM hs3 hs4 hsx hszA
          go_wp2_with fail
          refine KOW.out.mono ?_
          rintro e w5 ⟨rfl, hb5⟩
          obtain ⟨SB, hSB⟩ : ∃ SB, SB = strOfNums bs := ⟨_, rfl⟩
          have HSB := Lib.hid hSB
          rw [← hSB]
          have HB5 := Lib.hid hb5
          obtain ⟨va, vc, rfl⟩ : ∃ a c, v = .slice a all.length c := by
            rcases (show OwnR w4 W.heap.size v all from HOW4.out).form with ⟨h, rfl⟩ | ⟨g', c, rfl, _⟩
            · rw [h]; exact ⟨none, 0, rfl⟩
            · exact ⟨_, _, rfl⟩
          obtain ⟨pl, hpl⟩ : ∃ pl, pl = all.length := ⟨_, rfl⟩
          have HPE := Lib.hid hpl
          have hb6 := below_alloc (Below.refl _ w5) (.cells #[.int .i64 g, .string SB] 31)
          have HB6 := Lib.hid hb6
          have HEN := Lib.hid (show World.ownsRow (w5.alloc (.cells #[.int .i64 g, .string SB] 31)) W.heap.size 31 2 (.slice va pl vc) pl (flatR all) from by rw [hpl]; exact Ap.own_below (Ap.own_below HOW4.out hb5) hb6)
          have hmx1 : pl + 1 ≤ maxLen := by have := HLT.out; rw [hpl]; unfold maxLen; omega
          have hmx2 : (pl + 1) * 24 ≤ 140737488355328 := by have := HLT.out; rw [hpl]; omega
          have hbg : W.heap.size ≤ (w5.alloc (.cells #[.int .i64 g, .string SB] 31)).heap.size := Nat.le_trans HBW4.out.size (Nat.le_trans hb5.size hb6.size)
          rw [← hpl]
          clear hSB hb5 hpl hb6 x0 x1 KOW
          go_wp2_with (at_builtin; go_loud (refine wpList_append_own_at _ rfl _ _ 36 rfl W.heap.size 31 i0 _ 2 24 Tryd.underlying36 hi hz0 hz1 hz2 rfl (by decide) (.slice va pl vc) pl (flatR all) rfl HEN.out ⟨w5.heap.size, 0, none⟩ 1 1 [.int .i64 g, .string SB] rfl rfl (fun j u hj => cells_two w5 _ _ _ j u hj) (by intro u hu; simp at hu; rcases hu with rfl | rfl <;> rfl) hmx1 hmx2 hbg ?_; intro v' w6 hown' hgrow _ hat; obtain ⟨g', cap', rfl⟩ := ownsRow_succ hown'; have HO' := Lib.hid hown'; have HGW := Lib.hid hgrow; have HAT := Lib.hid hat; clear hown' hgrow hat))
          go_roundw
          case rel =>
            have hs5 := HB5.out.size
            have hs6 := HB6.out.size
            refine ⟨k + 1, P, all ++ [(g, bs)], _, by have := HLT.out; omega, by have := HLT.out; omega, by go_num, by have := HLT.out; simp; omega, rfl, rfl, ⟨⟨({ ds2 with left := max (-1) (-1) } : DS), ?_, ?_⟩, ?_, ?_, ?_⟩⟩
            · have h1 := ((HLD4.out.below HB5.out).below HB6.out).fr (K := fun j => (Value.slice va pl vc).ownBlock = some j) (w' := w6) ⟨HGW.out.os, HGW.out.tape, HGW.out.output, HGW.out.size, fun j hj hn => HGW.out.block j hj (fun e => hn e.symm)⟩ (fun j _ hj e => hj.1.2 (by rw [← HPE.out]; exact e))
              rw [show (framesF all).length + (frameF (g, bs)).length = (framesF (all ++ [(g, bs)])).length by rw [frames_snoc, List.length_append]] at h1
              refine h1.more fun j _ hj => ⟨hj.1.1, fun e => ?_⟩
              rcases HAT.out with h | h
              · rw [h] at e; exact hj.1.2 (by rw [← HPE.out]; exact e)
              · rw [h] at e
                simp only [Option.some.injEq] at e
                have := hj.2
                omega
            · rw [frames_snoc]
              exact ⟨HUP2.out.down, by show -1 ≤ max (-1) (-1 : Int); decide, HUP2.out.b, HUP2.out.s⟩
            · unfold OwnR
              rw [List.length_append, flatR_append, ← HPE.out]
              have h := HO'.out
              rw [HSB.out] at h
              exact h
            · exact Below.grown ((HBW4.out.trans (HB5.out.mono HBW4.out.size)).trans (HB6.out.mono (Nat.le_trans HBW4.out.size hs5))) HGW.out hbg (fun j hj => Ap.own_blk HEN.out j hj)
            · intro r hr
              rcases List.mem_append.1 hr with hr | hr
              · exact HST.out.good r hr
              · rw [List.mem_singleton.1 hr]; exact ⟨HGR.out, by have := HM.out; have := HM3.out; simp only; omega⟩
          case measure => have := HLT.out; simp [intOf]; omega
        case pos =>
          obtain ⟨ds2, haf, hb2, hs2⟩ := add_down (rs := all) (ln := (framesF all).length) (r := (g, bs)) hup (by have := HM.out; have := HM3.out; simp only; omega) (by omega) hlf
          have HAF := Lib.hid haf
          have HDS := Lib.hid (And.intro hb2 hs2)
          clear hld hup hfr hgdr hfl hfr1 hlen hk30 hszx hszA hbWx nX hownx hlf haf z2 hb2 hs2
          go_wp2_with fail
          refine KA.out.mono ?_
          rintro e w3 ⟨rfl, hld3, hf3⟩
          rw [HAF.out] at hld3 ⊢
          have KM := Lib.hid (arm_ld hld3 (-1) (by decide))
          have HF3 := Lib.hid hf3
          clear hld3 hf3 KA x0 x1
          go_wp2_with fail
          refine KM.out.mono ?_
          rintro e w4 ⟨rfl, hld4, hf4⟩
          have hs3 := HF3.out.size
          have hs4 := hf4.size
          have hsx := HBXR.out
          have hszA := HSA.out
          have hbW3 : Below W.heap.size W w3 := HBX.out.trans (HF3.out.below HBX.out.size (fun j hj => hj.1.1))
          have hbW4 : Below W.heap.size W w4 := hbW3.trans (hf4.below hbW3.size (fun j hj => by rcases hj with h | h; exact h.1.1; have := HBX.out.size; omega))
          have nB3 := (HF3.out.block _ hsx (fun h => by omega)).trans NX.out
          have nB4 : w4.heap[wr.heap.size]? = some (.cells #[.int .i64 g, .slice sad m sc] 24 (0, 0)) := (hf4.block _ (by omega) (fun h => by rcases h with h | h <;> omega)).trans nB3
          have x0 := cell_of_block (o := 0) nB4 rfl
          have x1 := cell_of_block (o := 1) nB4 rfl
          have hown4 : OwnR w4 W.heap.size v all := Ap.own_keep (Ap.own_keep HOWX.out fun j hj => HF3.out.block j (by have := HVL.out j hj; omega) (fun h => h.1.2 hj)) fun j hj => hf4.block j (by have := HVL.out j hj; omega) (fun h => by have := HVL.out j hj; rcases h with h | h; exact h.1.2 hj; omega)
          have hld4' : LD w4 P D (fun j => ((W.heap.size ≤ j ∧ v.ownBlock ≠ some j) ∧ j ≠ wr.heap.size) ∧ j < w4.heap.size) ⟨2, all, (framesF all).length, false, true⟩ ({ ds2 with left := max (-1) (-1) } : DS) := hld4.more fun j hj h => by
            rcases h with h | h
            · exact ⟨⟨h.1, by omega⟩, hj⟩
            · exact ⟨⟨⟨by have := HBX.out.size; omega, fun e => by have := HVL.out j e; omega⟩, by omega⟩, hj⟩
          have KB := Lib.hid (add_bad hld4' g sad m sc bs (.inr rfl))
          have hab : addF ⟨2, all, (framesF all).length, false, true⟩ ({ ds2 with left := max (-1) (-1) } : DS) (g, bs) = (⟨2, all, (framesF all).length, false, true⟩, ({ ds2 with left := max (-1) (-1) } : DS), 16) := by unfold addF; rw [if_pos (.inr rfl)]
          rw [hab] at KB
          have HOW4 := Lib.hid hown4
          have HBW4 := Lib.hid hbW4
          have NB4 := Lib.hid nB4
          have HS4 := Lib.hid (show wr.heap.size < w4.heap.size by omega)
          clear hld4 hf4 hbW3 hbW4 nB3 nB4 hown4 hld4' KM hs3 hs4 hsx hszA hab
          go_wp2_with fail
          refine KB.out.mono ?_
          rintro e w5 ⟨rfl, hld5, hf5⟩
          have hbW5 : Below W.heap.size W w5 := HBW4.out.trans (hf5.below HBW4.out.size (fun j hj => hj.1.1.1))
          have nB5 := (hf5.block _ HS4.out (fun h => h.1.2 rfl)).trans NB4.out
          have hown5 : OwnR w5 W.heap.size v all := Ap.own_keep HOW4.out fun j hj => hf5.block j (Ap.own_lt HOW4.out j hj) (fun h => h.1.1.2 hj)
          have hld5' : LD w5 P D (fun j => ((W.heap.size ≤ j ∧ v.ownBlock ≠ some j) ∧ j ≠ wr.heap.size) ∧ j < w5.heap.size) ⟨2, all, (framesF all).length, false, true⟩ ({ ds2 with left := max (-1) (-1) } : DS) := hld5.more fun j hj h => by
            have h4 := HS4.out
            rcases h with h | h
            · exact ⟨h.1, hj⟩
            · exact ⟨⟨⟨by have := HBW4.out.size; omega, fun e => by have := Ap.own_lt HOW4.out j e; omega⟩, by omega⟩, hj⟩
          have KFL := Lib.hid (fall_ld hld5' kp)
          obtain ⟨mk, hmk, hup6, hlf6⟩ := fall_up (ds := ({ ds2 with left := max (-1) (-1) } : DS)) HDS.out.1 HDS.out.2 kp
          have HUP6 := Lib.hid hup6
          have HMK := Lib.hid hmk
          obtain ⟨ds6, hds6⟩ : ∃ d, d = fallF ({ ds2 with left := max (-1) (-1) } : DS) (keep2F kp) := ⟨_, rfl⟩
          rw [← hds6] at KFL HUP6 hlf6
          have HLF6 := Lib.hid hlf6
          have z3 := (HCC.out w5 hbW5).2
          have HBW5 := Lib.hid hbW5
          have NB5 := Lib.hid nB5
          have HOW5 := Lib.hid hown5
          have HS5 := Lib.hid (Nat.lt_of_lt_of_le HS4.out hf5.size)
          clear hld5 hf5 hbW5 nB5 hown5 hld5' KB hmk hup6 hds6 hlf6 x0 x1
          go_wp2_with fail
          refine KFL.out.mono ?_
          rintro e w6 ⟨rfl, hld6, hf6⟩
          have hbW6 : Below W.heap.size W w6 := HBW5.out.trans (hf6.below HBW5.out.size (fun j hj => hj.1.1.1))
          have nB6 := (hf6.block _ HS5.out (fun h => h.1.2 rfl)).trans NB5.out
          have hown6 : OwnR w6 W.heap.size v all := Ap.own_keep HOW5.out fun j hj => hf6.block j (Ap.own_lt HOW5.out j hj) (fun h => h.1.1.2 hj)
          obtain ⟨F, G, _, hd6, _, hH6⟩ := hld6
          have KRD := Lib.hid (read_dk hd6 2)
          have hup6 := HUP6.out
          unfold ReadEnd at KRD
          rw [show wrongF ds6.down 2 = 0 from by rw [hup6.down]; decide, if_pos rfl, show (2 : Int).toNat = 2 from rfl, hup6.b] at KRD
          have HD6 := Lib.hid hd6
          have HG6 := Lib.hid (fun j (hj : G j) => hH6 j (.inr hj))
          have HBW6 := Lib.hid hbW6
          have NB6 := Lib.hid nB6
          have HOW6 := Lib.hid hown6
          have HS6 := Lib.hid (Nat.lt_of_lt_of_le HS5.out hf6.size)
          obtain ⟨xs3, hxs3⟩ : ∃ xs, xs = framesF all ++ (frameF (g, bs)).take mk := ⟨_, rfl⟩
          have HX3 := Lib.hid hxs3
          rw [← hxs3] at KRD HUP6
          have hx3l : xs3.length ≤ 10000 := by
            have h1 := HFL.out
            have h2 := HLT.out
            rw [hxs3, List.length_append, List.length_take]
            omega
          have HX3L := Lib.hid hx3l
          have hx38 : ∀ x ∈ xs3, 0 ≤ x ∧ x ≤ 255 := fun x hx => by
            rw [hxs3] at hx
            rcases List.mem_append.1 hx with h | h
            · exact frames_mem HGD.out x h
            · exact frame_mem HGR.out x (List.mem_of_mem_take h)
          have HX38 := Lib.hid hx38
          clear hf6 hbW6 nB6 hown6 hd6 hH6 hup6 KFL hxs3 hx3l hx38 z3
          go_wp2_with fail
          refine KRD.out.mono ?_
          rintro e w7 ⟨u, rfl, ho7, hb7, _⟩
          obtain ⟨bl, hbl⟩ : ∃ bl, bl = xs3.length := ⟨_, rfl⟩
          have HBL := Lib.hid hbl
          obtain ⟨ua, uc, rfl⟩ : ∃ a c, u = .slice a bl c := by
            rcases ho7.form with ⟨rfl, h⟩ | ⟨g', c', rfl, _⟩
            · rw [hbl, h]; exact ⟨_, _, rfl⟩
            · rw [hbl]; exact ⟨_, _, rfl⟩
          have hbW7 := HBW6.out.trans (hb7.mono HBW6.out.size)
          have KOP := Lib.hid (open_any (HD6.out.below hb7) (HE.out _ hbW7) 2)
          have HD7 := Lib.hid (HD6.out.below hb7)
          have HO7 := Lib.hid ho7
          have HBW7 := Lib.hid hbW7
          have NB7 := Lib.hid ((hb7.block _ HS6.out).trans NB6.out)
          have HOW7 := Lib.hid (show OwnR w7 W.heap.size v all from Ap.own_below HOW6.out hb7)
          have HS7 := Lib.hid (And.intro (Nat.lt_of_lt_of_le HS6.out hb7.size) hb7.size)
          clear ho7 hb7 hbl hbW7 KRD
          go_wp2_with fail
          refine KOP.out.mono ?_
          rintro e w8 ⟨hb8, h | ⟨_, P8, rfl, hl8⟩⟩
          · exact absurd (by rw [HUP6.out.down]; decide) h.1
          rw [HUP6.out.open_] at hl8
          have hld8 : LD w8 P8 D (fun j => (W.heap.size ≤ j ∧ v.ownBlock ≠ some j) ∧ j ≠ wr.heap.size) _ ds6 := LD.of hl8 (HD7.out.bound.below hb8) (fun j _ hj hg => by omega) (fun j _ hj => by
            have h7 := HS7.out
            exact ⟨⟨by have := HBW7.out.size; omega, fun e => by have := Ap.own_lt HOW7.out j e; omega⟩, by omega⟩) (fun j _ hj => (HG6.out j hj.1).1.1)
          have hbW8 := HBW7.out.trans (hb8.mono HBW7.out.size)
          have ho8 := HO7.out.below hb8
          have hcv8 := txt_conv ho8.at w8 (Below.refl _ _)
          have KRP := Lib.hid (rparse_any (xs := xs3) HX38.out (by have := HX3L.out; omega) w8)
          have HLD8 := Lib.hid hld8
          have HBW8 := Lib.hid hbW8
          have NB8 := Lib.hid ((hb8.block _ HS7.out.1).trans NB7.out)
          have HOW8 := Lib.hid (show OwnR w8 W.heap.size v all from Ap.own_below HOW7.out hb8)
          have HS8 := Lib.hid (Nat.lt_of_lt_of_le HS7.out.1 hb8.size)
          obtain ⟨SX, hSX⟩ : ∃ SX, SX = strOfNums xs3 := ⟨_, rfl⟩
          rw [← hSX] at hcv8 KRP
          clear hb8 hl8 hld8 hbW8 ho8 hSX KOP
          go_wp2_with fail
          refine KRP.out.mono ?_
          rintro e w9 ⟨mv, rfl, hom, hb9⟩
          have hbW9 := HBW8.out.trans (hb9.mono HBW8.out.size)
          have hld9 := HLD8.out.below hb9
          have hown9 : OwnR w9 W.heap.size v all := Ap.own_below HOW8.out hb9
          have nB9 := (hb9.block _ HS8.out).trans NB8.out
          have HS9 := Lib.hid (And.intro (Nat.lt_of_lt_of_le HS8.out hb9.size) hb9.size)
          have HBW9 := Lib.hid hbW9
          have NB9 := Lib.hid nB9
          have hmb : ∀ j, mv.ownBlock = some j → w8.heap.size ≤ j := fun j hj => Ap.own_blk hom j hj
          have hld9' : LD w9 P8 D (fun j => W.heap.size ≤ j ∧ mv.ownBlock ≠ some j) _ ds6 := (HLD8.out.more (K := fun j => W.heap.size ≤ j ∧ mv.ownBlock ≠ some j) (fun j hj h => ⟨h.1.1, fun e => by have := hmb j e; omega⟩)).below hb9
          have homb : OwnR w9 W.heap.size mv (parseF xs3).1 := by
            refine ⟨hom.1, ?_⟩
            rcases hom.2 with h | ⟨g', cap, cur, h1, h2, h3⟩
            · exact .inl h
            · exact .inr ⟨g', cap, cur, h1, Nat.le_trans HBW8.out.size h2, h3⟩
          obtain ⟨t9, ht9⟩ : ∃ t, t = decide ((parseF xs3).2 < xs3.length) := ⟨_, rfl⟩
          rw [← ht9] at hld9'
          have hbl := HBL.out
          obtain ⟨al, hal⟩ : ∃ al, al = all.length := ⟨_, rfl⟩
          obtain ⟨va, vc, rfl⟩ : ∃ a c, v = .slice a al c := by
            rcases hown9.form with ⟨h, rfl⟩ | ⟨g', c, rfl, _⟩
            · rw [hal, h]; exact ⟨none, 0, rfl⟩
            · rw [hal]; exact ⟨_, _, rfl⟩
          rcases parse_after HGD.out HGR.out mk with ⟨hmk2, hp⟩ | ⟨hmk2, he, hp⟩
          · rw [← HX3.out] at hp
            rw [hp] at hld9' homb ht9 ⊢
            simp only at hld9' homb ht9 ⊢
            obtain ⟨n9, hn9⟩ : ∃ n, n = (framesF all).length := ⟨_, rfl⟩
            rw [← hn9] at hld9' ht9 ⊢
            have hdt : decide ((n9 : Int) < (bl : Int)) = t9 := by rw [ht9, ← hbl]; exact decide_eq_decide.2 (by omega)
            have hdt2 : decide (n9 < bl) = t9 := by rw [ht9, ← hbl]
            obtain ⟨ma, mc, rfl⟩ : ∃ a c, mv = .slice a al c := by
              rcases homb.form with ⟨h, rfl⟩ | ⟨g', c, rfl, _⟩
              · rw [hal, h]; exact ⟨none, 0, rfl⟩
              · rw [hal]; exact ⟨_, _, rfl⟩
            have HLD9 := Lib.hid hld9'
            have HOM := Lib.hid homb
            have HT9 := Lib.hid ht9
            have HN9 := Lib.hid hn9
            have HAL := Lib.hid hal
            obtain ⟨F9, G9, hlg9, _, _, _⟩ := hld9'
            have HLG9 := Lib.hid hlg9
            clear hld9 hown9 nB9 hmb homb ht9 hbl hal hn9 hlg9 hom hb9 hbW9 hp KRP hcv8
            cases t9 with
            | false =>
              have hxe : xs3 = framesF all := by
                have h1 := HT9.out
                have h2 := HN9.out
                have h3 := of_decide_eq_false h1.symm
                have h4 : xs3.length = (framesF all).length + ((frameF (g, bs)).take mk).length := by rw [HX3.out, List.length_append]
                have h5 : (frameF (g, bs)).take mk = [] := List.eq_nil_of_length_eq_zero (by omega)
                rw [HX3.out, h5, List.append_nil]
              go_upto_region 25 with fail
              refine Rl.wp_region_rel (fun a b => Below a.heap.size a b) w9 (fun a b c h h' => below_next h h') (fun a => Below.refl _ _) hmx (by kernel_rfl) (Below.refl _ _).drew ?_
              iterate 6 (refine Rl.textR_run ?_ (fun ρ => ?_) (fun ρ W hS hd => ?_) ?_; rotate_left; (focus go_simp); (focus (obtain ⟨hc, hf⟩ := bcell hS; go_simp; first | exact ⟨rfl, Below.refl _ _⟩ | (refine ⟨?_, Below.refl _ _⟩; rfl))); (try go_simp))
              iterate 16 (refine Rl.textR_skip (fun ρ => ?_) ?_; (focus (first | rfl | (go_simp; done) | (go_simp; rfl))); (try go_simp))
              iterate 3 (refine Rl.textR_run ?_ (fun ρ => ?_) (fun ρ W hS hd => ?_) ?_; rotate_left; (focus go_simp); (focus (obtain ⟨hc, hf⟩ := bcell hS; go_simp; first | exact ⟨rfl, Below.refl _ _⟩ | (refine ⟨?_, Below.refl _ _⟩; rfl))); (try go_simp))
              (refine Rl.textR_run ?_ (fun ρ => ?_) (fun ρ W hS hd => ?_) ?_; rotate_left; (focus go_simp); (focus (obtain ⟨hc, hf⟩ := bcell hS; go_simp; refine (torn_lg (HLG9.out.below hS)).mono ?_; rintro e w1 ⟨rfl, rfl⟩; refine ⟨_, rfl, ?_, Below.refl _ _⟩; rfl)); (try go_simp))
              iterate 8 (refine Rl.textR_run ?_ (fun ρ => ?_) (fun ρ W hS hd => ?_) ?_; rotate_left; (focus go_simp); (focus (obtain ⟨hc, hf⟩ := bcell hS; go_simp; first | exact ⟨rfl, Below.refl _ _⟩ | (refine ⟨?_, Below.refl _ _⟩; rfl))); (try go_simp))
              (refine Rl.textR_run ?_ (fun ρ => ?_) (fun ρ W hS hd => ?_) ?_; rotate_left; (focus go_simp); (focus (obtain ⟨hc, hf⟩ := bcell hS; go_simp; refine (len_lg (HLG9.out.below hS)).mono ?_; rintro e w1 ⟨rfl, rfl⟩; refine ⟨_, rfl, ?_, Below.refl _ _⟩; rfl)); (try go_simp))
              iterate 3 (refine Rl.textR_run ?_ (fun ρ => ?_) (fun ρ W hS hd => ?_) ?_; rotate_left; (focus go_simp); (focus (obtain ⟨hc, hf⟩ := bcell hS; go_simp; first | exact ⟨rfl, Below.refl _ _⟩ | (refine ⟨?_, Below.refl _ _⟩; rfl))); (try go_simp))
              refine Rl.textR_nil ?_
              intro ρ wA hgA hkA
              dsimp only
              have HGA := Lib.hid hgA
              have HLGA := Lib.hid (HLG9.out.below hgA)
              clear hgA hkA
              go_simp
              go_wp2_with fail
              refine (torn_lg HLGA.out).mono ?_
              rintro e w' ⟨rfl, rfl⟩
              go_wp2_with fail
              go_roundw
              case rel =>
                have hA := HGA.out
                refine ⟨k + 1, P8, all, _, by have := HLT.out; omega, by have := HLT.out; omega, by go_num, by have := HLT.out; omega, rfl, rfl, ⟨⟨ds6, ?_, by rw [← hxe]; exact HUP6.out⟩, Ap.own_below HOM.out hA, HBW9.out.trans (hA.mono HBW9.out.size), HST.out.good⟩⟩
                rw [← HN9.out]
                exact HLD9.out.below hA
              case measure => have := HLT.out; simp [intOf]; omega
            | true =>
              go_upto_region 25 with fail
              refine Rl.wp_region_rel (fun a b => Below a.heap.size a b) w9 (fun a b c h h' => below_next h h') (fun a => Below.refl _ _) hmx (by kernel_rfl) (Below.refl _ _).drew ?_
              iterate 6 (refine Rl.textR_run ?_ (fun ρ => ?_) (fun ρ W hS hd => ?_) ?_; rotate_left; (focus go_simp); (focus (obtain ⟨hc, hf⟩ := bcell hS; go_simp; first | exact ⟨rfl, Below.refl _ _⟩ | (refine ⟨?_, Below.refl _ _⟩; rfl))); (try go_simp))
              iterate 16 (refine Rl.textR_skip (fun ρ => ?_) ?_; (focus (first | rfl | (go_simp; done) | (go_simp; rfl))); (try go_simp))
              iterate 3 (refine Rl.textR_run ?_ (fun ρ => ?_) (fun ρ W hS hd => ?_) ?_; rotate_left; (focus go_simp); (focus (obtain ⟨hc, hf⟩ := bcell hS; go_simp; first | exact ⟨rfl, Below.refl _ _⟩ | (refine ⟨?_, Below.refl _ _⟩; rfl))); (try go_simp))
              (refine Rl.textR_run ?_ (fun ρ => ?_) (fun ρ W hS hd => ?_) ?_; rotate_left; (focus go_simp); (focus (obtain ⟨hc, hf⟩ := bcell hS; go_simp; refine (torn_lg (HLG9.out.below hS)).mono ?_; rintro e w1 ⟨rfl, rfl⟩; refine ⟨_, rfl, ?_, Below.refl _ _⟩; rfl)); (try go_simp))
              iterate 8 (refine Rl.textR_run ?_ (fun ρ => ?_) (fun ρ W hS hd => ?_) ?_; rotate_left; (focus go_simp); (focus (obtain ⟨hc, hf⟩ := bcell hS; go_simp; first | exact ⟨rfl, Below.refl _ _⟩ | (refine ⟨?_, Below.refl _ _⟩; rfl))); (try go_simp))
              (refine Rl.textR_run ?_ (fun ρ => ?_) (fun ρ W hS hd => ?_) ?_; rotate_left; (focus go_simp); (focus (obtain ⟨hc, hf⟩ := bcell hS; go_simp; refine (len_lg (HLG9.out.below hS)).mono ?_; rintro e w1 ⟨rfl, rfl⟩; refine ⟨_, rfl, ?_, Below.refl _ _⟩; rfl)); (try go_simp))
              iterate 3 (refine Rl.textR_run ?_ (fun ρ => ?_) (fun ρ W hS hd => ?_) ?_; rotate_left; (focus go_simp); (focus (obtain ⟨hc, hf⟩ := bcell hS; go_simp; first | exact ⟨rfl, Below.refl _ _⟩ | (refine ⟨?_, Below.refl _ _⟩; rfl))); (try go_simp))
              refine Rl.textR_nil ?_
              intro ρ wA hgA hkA
              dsimp only
              have HGA := Lib.hid hgA
              have HLGA := Lib.hid (HLG9.out.below hgA)
              clear hgA hkA
              go_simp
              go_wp2_with fail
              refine (torn_lg HLGA.out).mono ?_
              rintro e w' ⟨rfl, rfl⟩
              have hA := HGA.out
              have hldA : LD wA P8 D (fun j => W.heap.size ≤ j) ⟨2, all, n9, true, false⟩ ds6 := (HLD9.out.below hA).more fun j _ h => h.1
              have hbWA := HBW9.out.trans (hA.mono HBW9.out.size)
              have KB := Lib.hid (add_bad hldA g sad m sc bs (.inl rfl))
              have hab : addF ⟨2, all, n9, true, false⟩ ds6 (g, bs) = (⟨2, all, n9, true, false⟩, ds6, 16) := by unfold addF; rw [if_pos (.inl rfl)]
              rw [hab] at KB
              have nA := (hA.block _ HS9.out.1).trans ((show w9.heap[wr.heap.size]? = some (.cells #[.int .i64 g, .slice sad m sc] 24 (0, 0)) from NB9.out))
              have x0 := cell_of_block (o := 0) nA rfl
              have x1 := cell_of_block (o := 1) nA rfl
              have HBWA := Lib.hid hbWA
              clear hA hldA hbWA hab nA
              go_wp2_with fail
              refine KB.out.mono ?_
              rintro e wB ⟨rfl, hldB, hfB⟩
              have hbWB := HBWA.out.trans (hfB.below HBWA.out.size (fun j hj => hj))
              obtain ⟨ds7, hcl, hok7, hs7⟩ := clear_ok (st := ⟨2, all, n9, true, false⟩) (by show (0 : Int) ≤ 2 ∧ (2 : Int) ≤ 3; decide) (show DOk ds6 2 xs3 from ⟨HUP6.out.down, HLF6.out, HUP6.out.b⟩) (by have := HX3L.out; omega)
              have KC := Lib.hid (clear_ld hldB)
              rw [hcl] at KC
              have HOK7 := Lib.hid (And.intro hok7 hs7)
              have HBWB := Lib.hid hbWB
              have HSB := Lib.hid hfB.size
              clear hldB hfB hbWB hcl hok7 hs7 KB x0 x1
              go_wp2_with fail
              refine KC.out.mono ?_
              rintro e wC ⟨rfl, hldC, hfC⟩
              have hbWC : Below W.heap.size W wC := HBWB.out.trans (hfC.below HBWB.out.size (fun j hj => by rcases hj with h | h; exact h; have := HBWA.out.size; omega))
              have HBWC := Lib.hid hbWC
              have HLDC := Lib.hid (hldC.more (K := fun j => W.heap.size ≤ j) (fun j _ h => by have h1 := HBWA.out.size; have h2 := HBWB.out.size; rcases h with (h | h) | h <;> omega))
              obtain ⟨FC, GC, hlgC, _, _, _⟩ := hldC
              have HLGC := Lib.hid hlgC
              clear hfC hbWC hlgC KC
              go_wp2_with fail
              refine (torn_lg HLGC.out).mono ?_
              rintro e w' ⟨rfl, rfl⟩
              go_wp2_with fail
              refine (len_lg HLGC.out).mono ?_
              rintro e w' ⟨rfl, rfl⟩
              go_wp2_with fail
              go_roundw
              case rel => exact ⟨k + 1, P8, [], _, by have := HLT.out; omega, by have := HLT.out; omega, by go_num, by simp, rfl, rfl, ⟨⟨ds7, HLDC.out.more (fun j _ h => ⟨h, by simp [Value.ownBlock]⟩), ⟨HOK7.out.1.down, by rw [HOK7.out.1.left]; decide, HOK7.out.1.b, HOK7.out.2⟩⟩, OwnR.nil, HBWC.out, fun r hr => by cases hr⟩⟩
              case measure => have := HLT.out; simp [intOf]; omega
          · rw [← HX3.out] at hp he
            rw [hp] at hld9' homb ht9 ⊢
            simp only at hld9' homb ht9 ⊢
            have ht9' : t9 = false := by rw [ht9, he]; simp
            subst ht9'
            obtain ⟨n9, hn9⟩ : ∃ n, n = (framesF (all ++ [(g, bs)])).length := ⟨_, rfl⟩
            rw [← hn9] at hld9' ⊢
            have hdt : decide ((n9 : Int) < (bl : Int)) = false := decide_eq_false (by rw [hn9, hbl, he]; omega)
            have hdt2 : decide (n9 < bl) = false := decide_eq_false (by rw [hn9, hbl, he]; omega)
            obtain ⟨rl, hrl⟩ : ∃ rl, rl = (all ++ [(g, bs)]).length := ⟨_, rfl⟩
            have hra : rl = al + 1 := by rw [hrl, hal]; simp
            obtain ⟨gm, mc, rfl, hgm, e0, e1⟩ : ∃ gm c, mv = .slice (some ⟨gm, 0, none⟩) rl c ∧ gm < w9.heap.size ∧ w9.cell? ⟨gm, al * 2, none⟩ = some (.int .i64 g) ∧ w9.cell? ⟨gm, al * 2 + 1, none⟩ = some (.string (strOfNums bs)) := by
              rcases homb.form with ⟨h, _⟩ | ⟨g', c, h1, _, h3, h4⟩
              · simp at h
              · have h5 := h4 al (g, bs) (by rw [hal]; simp)
                exact ⟨g', c, by rw [hrl]; exact h1, h3, h5.1, h5.2⟩
            obtain ⟨SB, hSB⟩ : ∃ SB, SB = strOfNums bs := ⟨_, rfl⟩
            rw [← hSB] at e1
            have KOW := Lib.hid (fun X (hX : Below w9.heap.size w9 X) => own_any (HK2.out X (HBW9.out.trans (hX.mono HBW9.out.size))) g)
            rw [← hSB] at KOW
            have x0 := cell_of_block (o := 0) nB9 rfl
            have x1 := cell_of_block (o := 1) nB9 rfl
            have hsB := HS9.out.1
            have hne1 : ((rl : Int) == (al : Int)) = false := by rw [beq_eq_false_iff_ne]; omega
            have hne2 : ((rl : Int) != (al : Int)) = true := by rw [bne, hne1]; rfl
            have hne3 : ¬ rl = al := by omega
            have hlt2 := HLT.out.2.2.2
            have hwl : IntKind.i64.wrap ((al : Int) + 1) = (rl : Int) := by have := HLT.out; rw [IntKind.wrap_i64]; omega
            have hwl2 : wrap64 ((al : Int) + 1) = (rl : Int) := by have := HLT.out; unfold wrap64; omega
            have hixm : (al : Int) < (rl : Int) := by omega
            have HLD9 := Lib.hid hld9'
            have HOM := Lib.hid homb
            have HN9 := Lib.hid hn9
            have HXE := Lib.hid he
            obtain ⟨F9, G9, hlg9, _, _, _⟩ := hld9'
            have HLG9 := Lib.hid hlg9
            clear hld9 hown9 nB9 hmb homb ht9 hbl hal hn9 hlg9 hom hb9 hbW9 hp KRP hcv8 he hrl hra hSB hlt2
            go_upto_region 25 with fail
            refine Rl.wp_region_rel (fun a b => Below a.heap.size a b) w9 (fun a b c h h' => below_next h h') (fun a => Below.refl _ _) hmx (by kernel_rfl) (Below.refl _ _).drew ?_
            iterate 19 (refine Rl.textR_run ?_ (fun ρ => ?_) (fun ρ W hS hd => ?_) ?_; rotate_left; (focus go_simp); (focus (obtain ⟨hc, hf⟩ := bcell hS; go_simp; first | exact ⟨rfl, Below.refl _ _⟩ | (refine ⟨?_, Below.refl _ _⟩; rfl))); (try go_simp))
            (refine Rl.textR_run ?_ (fun ρ => ?_) (fun ρ W hS hd => ?_) ?_; rotate_left; (focus go_simp); (focus (obtain ⟨hc, hf⟩ := bcell hS; go_simp; refine (KOW.out _ hS).mono ?_; rintro e w1 ⟨rfl, hb⟩; refine ⟨_, rfl, ?_, hb⟩; rfl)); (try go_simp))
            iterate 5 (refine Rl.textR_run ?_ (fun ρ => ?_) (fun ρ W hS hd => ?_) ?_; rotate_left; (focus go_simp); (focus (obtain ⟨hc, hf⟩ := bcell hS; go_simp; first | exact ⟨rfl, Below.refl _ _⟩ | (refine ⟨?_, Below.refl _ _⟩; rfl))); (try go_simp))
            (refine Rl.textR_run ?_ (fun ρ => ?_) (fun ρ W hS hd => ?_) ?_; rotate_left; (focus go_simp); (focus (obtain ⟨hc, hf⟩ := bcell hS; go_simp; refine (torn_lg (HLG9.out.below hS)).mono ?_; rintro e w1 ⟨rfl, rfl⟩; refine ⟨_, rfl, ?_, Below.refl _ _⟩; rfl)); (try go_simp))
            iterate 8 (refine Rl.textR_run ?_ (fun ρ => ?_) (fun ρ W hS hd => ?_) ?_; rotate_left; (focus go_simp); (focus (obtain ⟨hc, hf⟩ := bcell hS; go_simp; first | exact ⟨rfl, Below.refl _ _⟩ | (refine ⟨?_, Below.refl _ _⟩; rfl))); (try go_simp))
            (refine Rl.textR_run ?_ (fun ρ => ?_) (fun ρ W hS hd => ?_) ?_; rotate_left; (focus go_simp); (focus (obtain ⟨hc, hf⟩ := bcell hS; go_simp; refine (len_lg (HLG9.out.below hS)).mono ?_; rintro e w1 ⟨rfl, rfl⟩; refine ⟨_, rfl, ?_, Below.refl _ _⟩; rfl)); (try go_simp))
            iterate 3 (refine Rl.textR_run ?_ (fun ρ => ?_) (fun ρ W hS hd => ?_) ?_; rotate_left; (focus go_simp); (focus (obtain ⟨hc, hf⟩ := bcell hS; go_simp; first | exact ⟨rfl, Below.refl _ _⟩ | (refine ⟨?_, Below.refl _ _⟩; rfl))); (try go_simp))
            refine Rl.textR_nil ?_
            intro ρ wA hgA hkA
            dsimp only
            have HGA := Lib.hid hgA
            have HLGA := Lib.hid (HLG9.out.below hgA)
            clear hgA hkA
            go_simp
            go_wp2_with fail
            refine (torn_lg HLGA.out).mono ?_
            rintro e w' ⟨rfl, rfl⟩
            go_wp2_with fail
            go_roundw
            case rel =>
              have hA := HGA.out
              refine ⟨k + 1, P8, all ++ [(g, bs)], _, by have := HLT.out; omega, by have := HLT.out; omega, by go_num, by have := HLT.out; simp; omega, rfl, rfl, ⟨⟨ds6, ?_, by rw [← HXE.out]; exact HUP6.out⟩, Ap.own_below HOM.out hA, HBW9.out.trans (hA.mono HBW9.out.size), fun r hr => ?_⟩⟩
              · rw [← HN9.out]
                exact HLD9.out.below hA
              · rcases List.mem_append.1 hr with hr | hr
                · exact HST.out.good r hr
                · rw [List.mem_singleton.1 hr]; exact ⟨HGR.out, by have := HM.out; have := HM3.out; simp only; omega⟩
            case measure => have := HLT.out; simp [intOf]; omega
  case rest =>
  obtain ⟨P, all, v, hlen, rfl, rfl, hst⟩ := hcut
  have HST := Lib.hid hst
  obtain ⟨ds, hld, _⟩ := hst.ld
  obtain ⟨F, G, hlg, _, _, _⟩ := hld
  have KT := Lib.hid (texts_lg hlg (by show all.length < 998; omega) gen)
  have hbc := hst.below
  have hown := hst.own
  obtain ⟨al, hal⟩ : ∃ al, al = all.length := ⟨_, rfl⟩
  have HAL := Lib.hid hal
  obtain ⟨va, vc, rfl⟩ : ∃ a c, v = .slice a al c := by
    rcases hown.form with ⟨h, rfl⟩ | ⟨g', c, rfl, _⟩
    · rw [hal, h]; exact ⟨none, 0, rfl⟩
    · rw [hal]; exact ⟨_, _, rfl⟩
  obtain ⟨L, hL⟩ : ∃ L, L = textsG gen all := ⟨_, rfl⟩
  have HL := Lib.hid hL
  have hLl : L.length ≤ 30 := by rw [hL]; have := textsG_len gen all; omega
  have HLL := Lib.hid hLl
  have hal30 : al ≤ 30 := by omega
  have HA30 := Lib.hid hal30
  clear hst hlg hlen hal hL hLl hal30 HG0
  go_wp2_with fail
  refine KT.out.mono ?_
  rintro e w3 ⟨tv, rfl, ho3, hb3⟩
  have ho3 : OwnS w3 wc.heap.size tv L := by rw [HL.out]; exact ho3
  obtain ⟨tl, htl⟩ : ∃ tl, tl = L.length := ⟨_, rfl⟩
  have HTL := Lib.hid htl
  obtain ⟨ta, tc, rfl⟩ : ∃ a c, tv = .slice a tl c := by
    rcases ho3.form with ⟨h, rfl⟩ | ⟨g', c', rfl, _⟩
    · rw [htl, h]; exact ⟨none, 0, rfl⟩
    · rw [htl]; exact ⟨_, _, rfl⟩
  have HB3 := Lib.hid (hbc.trans (hb3.mono hbc.size))
  have HOW3 := Lib.hid (show OwnR w3 W.heap.size (.slice va al vc) all from Ap.own_below hown hb3)
  have HO3 := Lib.hid ho3
  clear ho3 hb3 hbc hown htl KT HST
  go_upto_block 2 with fail
  go_cut [17] (fun n wx => n = .int .i64 (tl : Int) ∧ Below w3.heap.size w3 wx)
  case first =>
    go_wp2_with fail
    go_loopw [17, 18] (fun n i wr => ∃ q : Nat, q ≤ al ∧ i = .int .i64 q ∧ n = .int .i64 ((textsG gen (all.take q)).length : Int) ∧ Below w3.heap.size w3 wr) (fun _ i _ => al - (intOf i).toNat)
    case atStart => exact ⟨0, Nat.zero_le _, rfl, rfl, Below.refl _ _⟩
    case round =>
      obtain ⟨q, hq, rfl, rfl, hb⟩ := hrel
      have HB := Lib.hid hb
      obtain ⟨tn, htn⟩ : ∃ tn, tn = (textsG gen (all.take q)).length := ⟨_, rfl⟩
      have HTN := Lib.hid htn
      rw [← htn]
      by_cases hlt : q < al
      case pos =>
        have hd : decide (q < al) = true := decide_eq_true hlt
        have hix : (q : Int) < (al : Int) := by omega
        have hwk : IntKind.i64.wrap ((q : Int) + 1) = ((q + 1 : Nat) : Int) := by have := HA30.out; rw [IntKind.wrap_i64]; omega
        obtain ⟨x, hx⟩ : ∃ x, all[q]? = some x := ⟨_, List.getElem?_eq_getElem (by have := HAL.out; omega)⟩
        have htk : all.take (q + 1) = all.take q ++ [x] := by rw [List.take_add_one, hx]; rfl
        obtain ⟨g1, rfl, z1, e1, e2⟩ : ∃ g1, va = some ⟨g1, 0, none⟩ ∧ g1 < w3.heap.size ∧ w3.cell? ⟨g1, q * 2, none⟩ = some (.int .i64 x.1) ∧ w3.cell? ⟨g1, q * 2 + 1, none⟩ = some (.string (strOfNums x.2)) := by
          rcases HOW3.out.form with ⟨h, _⟩ | ⟨g', c', h1, _, h3, h4⟩
          · have := HAL.out; rw [h] at this; simp at this; omega
          · injection h1 with h1 _ _
            exact ⟨g', h1, h3, (h4 q x hx).1, (h4 q x hx).2⟩
        have c1 := (hb.cell (p := ⟨g1, q * 2, none⟩) z1).trans e1
        have c2 := (hb.cell (p := ⟨g1, q * 2 + 1, none⟩) z1).trans e2
        have HTK := Lib.hid htk
        by_cases hge : x.1 = gen
        case neg =>
          have hb1 : (x.1 == gen) = false := by simpa using hge
          have hb2 : (x.1 != gen) = true := by simp [hge]
          have HNE := Lib.hid hge
          clear hge hx htk e1 e2 hb hlt htn
          go_wp2_with fail
          go_roundw
          case rel => exact ⟨q + 1, by omega, by go_num, by rw [HTK.out, textsG_snoc, if_neg HNE.out, ← HTN.out], HB.out⟩
          case measure => simp [intOf]; omega
        case pos =>
          have hb1 : (x.1 == gen) = true := by simpa using hge
          have hb2 : (x.1 != gen) = false := by simp [hge]
          have hat := textsG_at gen all q x hx hge
          rw [← HL.out, ← htn] at hat
          have htl2 : tn < tl := by have := HTL.out; have := (List.getElem?_eq_some_iff.1 hat).1; omega
          obtain ⟨g2, rfl, z2, e3⟩ : ∃ g2, ta = some ⟨g2, 0, none⟩ ∧ g2 < w3.heap.size ∧ w3.cell? ⟨g2, tn, none⟩ = some (.string (strOfNums x.2)) := by
            rcases HO3.out.form with ⟨h, _⟩ | ⟨g', c', h1, _, h3, h4⟩
            · have := HTL.out; rw [h] at this; simp at this; omega
            · injection h1 with h1 _ _
              have h5 := h4 tn (by have := HTL.out; omega)
              have h6 : L.getD tn [] = x.2 := by simp [List.getD, hat]
              rw [h6] at h5
              exact ⟨g', h1, h3, h5⟩
          have c3 := (hb.cell (p := ⟨g2, tn, none⟩) z2).trans e3
          have hd5 : decide ((tn : Int) ≥ (tl : Int)) = false := decide_eq_false (by omega)
          have hd6 : decide (tl ≤ tn) = false := decide_eq_false (by omega)
          have hixt : (tn : Int) < (tl : Int) := by omega
          have hwt : IntKind.i64.wrap ((tn : Int) + 1) = ((tn + 1 : Nat) : Int) := by have := HTL.out; have := HLL.out; rw [IntKind.wrap_i64]; omega
          have HEQ := Lib.hid hge
          obtain ⟨xs, hxs⟩ : ∃ xs, xs = strOfNums x.2 := ⟨_, rfl⟩
          rw [← hxs] at c2 c3
          clear hge hx htk e1 e2 e3 hb hlt hat htl2 hxs htn
          go_upto_region 38 with fail
          go_quiet (fail)
          have HBq := Lib.hid (below_drewN (Below.refl wr.heap.size wr) nq)
          go_wp2_with fail
          go_roundw
          case rel => exact ⟨q + 1, by omega, by go_num, by rw [HTK.out, textsG_snoc, if_pos HEQ.out, List.length_append, ← HTN.out]; rfl, HB.out.trans (HBq.out.mono HB.out.size)⟩
          case measure => simp [intOf]; omega
      case neg =>
        have hd : decide (q < al) = false := decide_eq_false hlt
        have hqa : q = al := by omega
        have htt : tn = tl := by rw [htn, HTL.out, HL.out, hqa, HAL.out, List.take_length]
        have HTT := Lib.hid htt
        clear hlt hb htn hqa htt
        go_wp2_with fail
        go_meet
        exact ⟨by rw [HTT.out], HB.out⟩
  case rest =>
  obtain ⟨rfl, hb4⟩ := hcut
  have HB4 := Lib.hid (HB3.out.trans (hb4.mono HB3.out.size))
  have KJ := Lib.hid (fun X (hX : Below W.heap.size W X) => one_jn X (HE.out X hX))
  clear hb4
  go_wp2_with fail
  refine (KJ.out _ HB4.out).mono ?_
  rintro e w10 ⟨rfl, hb10⟩
  have HB10 := Lib.hid (HB4.out.trans (hb10.mono HB4.out.size))
  clear hb10
  go_wp2_with fail
  go_ret
  exact ⟨rfl, HB10.out⟩
end Go.Proofs.YtomhfnaekjmjnaaDoor
