/- SnapsFalls walked. Condition: errors.errorType reads as the program's text lays it. -/
import Derived.Test.YtomhfnaekjmjnaaDoorMan
import Derived.Test.YtomhfnaekjmjnaaDoorMask
import Derived.Deep.CutBlock
namespace Go.Proofs.YtomhfnaekjmjnaaDoor
set_option linter.unusedVariables false
open Go.ChangeShapes Go.WideShapes Go.ChangeAt Go.RowKit Go.Lib
attribute [local go_sem ↓] Go.wp_at_zero Go.wp_at_succ comesTo_value_eq comesTo_skip_eq comesTo_enter_eq

theorem Fr.sub2 {F H : Nat → Prop} {w w' : World} (h : Fr F w w') (hF : ∀ j, j < w.heap.size → F j → H j) : Fr H w w' := ⟨h.os, h.tape, h.output, h.size, fun j hj hn => h.block j hj (fun hf => hn (hF j hj hf))⟩
theorem SD.disk {w w' : World} {S D : Nat} {F G H : Nat → Prop} {st : SS} {ds' : DS} (hl : Sn w S D F st) (hFG : ∀ j, F j → ¬ G j) (hH : ∀ j, F j ∨ G j → H j ∧ j < w.heap.size) (hd : Dk w' D G ds') (hf : Fr G w w') : SD w' S D H st ds' ∧ Fr H w w' :=
  ⟨⟨F, G, hl.keep hf.size fun j hj hlt => hf.block j hlt (hFG j hj), hd, hFG, fun j hj => ⟨(hH j hj).1, Nat.lt_of_lt_of_le (hH j hj).2 hf.size⟩⟩, hf.sub2 fun j _ hg => (hH j (.inr hg)).1⟩
theorem arm_sd {w : World} {S D : Nat} {H : Nat → Prop} {st : SS} {ds : DS} (h : SD w S D H st ds) (n : Int) (hn : n ≤ 9223372036854775807) :
    Calls Tryd.prog 21 #[.pointer (some ⟨D, 0, none⟩), .int .i64 n] w fun e w' => e = .returned (.tuple #[]) ∧ SD w' S D H st { ds with left := max n (-1) } ∧ Fr H w w' := by
  obtain ⟨F, G, hl, hd, hFG, hH⟩ := h
  exact (arm_dk hd n hn).mono fun e w' ⟨he, hd', hf⟩ => ⟨he, SD.disk hl hFG hH hd' hf⟩
def keepX (n : Int) : Nat → Int := fun j => if j = 2 then 0 else n
theorem fall_sd {w : World} {S D : Nat} {H : Nat → Prop} {st : SS} {ds : DS} (h : SD w S D H st ds) (n : Int) :
    Calls Tryd.prog 23 #[.pointer (some ⟨D, 0, none⟩), .agg #[.int .i64 n, .int .i64 n, .int .i64 0, .int .i64 n]] w fun e w' => e = .returned (.tuple #[]) ∧ SD w' S D H st (fallF ds (keepX n)) ∧ Fr H w w' := by
  obtain ⟨F, G, hl, hd, hFG, hH⟩ := h
  exact (fall_dk hd (keepX n)).mono fun e w' ⟨he, hd', hf⟩ => ⟨he, SD.disk hl hFG hH hd' hf⟩
theorem mask_3s (x : Int) : bits .and .i64 x 3 = x % 4 := mask_i64 x 2 4 rfl (by decide) (by decide) (by decide)
/-- opened again -/
theorem opened2 {w1 w2 : World} {D S B : Nat} {G : Nat → Prop} {ds : DS} {st : SS} (hd : Dk w1 D G ds) (hG : ∀ j, G j → B ≤ j) (hB : B ≤ w1.heap.size) (hb : Below w1.heap.size w1 w2) (hl : Sn w2 S D (fun j => w1.heap.size ≤ j) st) : SD w2 S D (fun j => B ≤ j) st ds :=
  sopened (hd.more hG) hB hb hl
/-- a kept text over a disk, as it was told -/
structure SAt (W : World) (S D : Nat) (st : SS) (wr : World) : Prop where
  sd : ∃ ds, SD wr S D (fun j => W.heap.size ≤ j) st ds ∧ SInv st ds
  below : Below W.heap.size W wr
  files : st.f0 = 3 ∧ st.f1 = 1
  gen_in : 0 ≤ st.gen
theorem SAt.next {W wr w' : World} {S D : Nat} {st : SS} (h : SAt W S D st wr) (hb : Below wr.heap.size wr w') : SAt W S D st w' := by
  obtain ⟨⟨ds, h1, h2⟩, h3, h4, h5⟩ := h
  exact ⟨⟨ds, h1.below hb, h2⟩, h3.trans (hb.mono h3.size), h4, h5⟩
set_option maxRecDepth 100000 in
set_option maxHeartbeats 8000000 in
theorem sfalls_any (ad : Option Addr) (ll lcap : Nat) (A : Nat → SavV) (W : World) (hA : SavsAt W ad ll A) (hE : ErrAt W) :
    Calls Tryd.prog 8 #[.slice ad ll lcap] W fun e W' => e = .returned (.bool true) ∧ Below W.heap.size W W' := by
  have HA := Lib.hid hA
  have HE := Lib.hid (fun X (hX : Below W.heap.size W X) => hE.below hX)
  clear hA hE
  go_enter Tryd.func8, Tryd.ntmps8
  go_wp2_with fail
  refine (new_any W).mono ?_
  rintro e w1 ⟨D, rfl, hd, hb⟩
  go_wp2_with fail
  refine (sopen_any hd (HE.out _ hb) 3 1).mono ?_
  rintro e w2 ⟨hb2, h | h | h | ⟨_, _, _, S0, rfl, hl⟩⟩
  · exact absurd h.1 (by decide)
  · exact absurd (by decide : wrongF newF.down 3 = 0) h.2.1
  · exact absurd (by decide : wrongF newF.down 1 = 0) h.2.2.1
  rw [sopen_new] at hl
  have HG0 := Lib.hid (show SAt W S0 D (st0 3 1) w2 from ⟨⟨newF, sopened hd hb.size hb2 hl, SInv.new (by decide)⟩, hb.trans (hb2.mono hb.size), ⟨rfl, rfl⟩, by show (0 : Int) ≤ 0; decide⟩)
  have hs0 : (⟨#[]⟩ : ByteArray) = strOfNums (st0 3 1).text := by decide +kernel
  have hg0 : (0 : Int) = (st0 3 1).gen := rfl
  have HS0 := Lib.hid hs0
  clear hd hb hb2 hl hs0 hg0
  go_wp2_with fail
  go_loopw [4, 6, 7, 8] (fun s t g i wr => ∃ (k S : Nat) (st : SS), k ≤ 30 ∧ k ≤ ll ∧ i = .int .i64 k ∧ st.gen ≤ k ∧ s = .pointer (some ⟨S, 0, none⟩) ∧ t = .string (strOfNums st.text) ∧ g = .int .i64 st.gen ∧ SAt W S D st wr) (fun _ _ _ i _ => 30 - (intOf i).toNat)
  case atStart => exact ⟨0, _, st0 3 1, by decide, Nat.zero_le _, rfl, Int.le_refl 0, rfl, by rw [← HS0.out], rfl, HG0.out⟩
  case round =>
    obtain ⟨k, S, st, hk30, hkl, rfl, hgk, rfl, rfl, rfl, hst⟩ := hrel
    have HST := Lib.hid hst
    clear hst HG0 HS0
    by_cases hlt : k < ll ∧ k < 30
    case neg =>
      have HO := Lib.hid (one_sn wr (HE.out _ HST.out.below))
      rcases (by omega : ¬ k < ll ∨ k < ll ∧ k = 30) with hx | ⟨hx, rfl⟩
      · have hd1 : decide (k < ll) = false := decide_eq_false (by omega)
        clear hlt
        go_wp2_with fail
        refine HO.out.mono ?_
        rintro e w' ⟨rfl, hb⟩
        have HB := Lib.hid (HST.out.below.trans (hb.mono HST.out.below.size))
        clear hb
        go_wp2_with fail
        go_ret
        exact ⟨rfl, HB.out⟩
      · have hd1 : decide (30 < ll) = true := decide_eq_true (by omega)
        clear hlt
        go_wp2_with fail
        refine HO.out.mono ?_
        rintro e w' ⟨rfl, hb⟩
        have HB := Lib.hid (HST.out.below.trans (hb.mono HST.out.below.size))
        clear hb
        go_wp2_with fail
        go_ret
        exact ⟨rfl, HB.out⟩
    case pos =>
      obtain ⟨b0, off, rfl, hrow⟩ := HA.out.2 (by omega)
      have hcA := hrow k hlt.1
      clear hrow
      obtain ⟨⟨bs, arm, kp⟩, hr⟩ : ∃ r, r = A k := ⟨_, rfl⟩
      rw [← hr] at hcA
      have hbl := HST.out.below
      obtain ⟨sad, sc, k1, k2, k3, hkz⟩ := hcA.c0
      have q0 := (hbl.cell (p := ⟨b0, off + k * 3, none⟩) (World.block_lt_of_cell? W _ k1)).trans k1
      have q1 := (hbl.cell (p := ⟨b0, off + k * 3 + 1, none⟩) (World.block_lt_of_cell? W _ hcA.c1)).trans hcA.c1
      have q2 := (hbl.cell (p := ⟨b0, off + k * 3 + 2, none⟩) (World.block_lt_of_cell? W _ hcA.c2)).trans hcA.c2
      try simp only at q0 q1 q2 k2 k3
      have HK2 := Lib.hid (fun X (hX : Below W.heap.size W X) => k2.below hX)
      have HAR := Lib.hid hcA.arm_in
      have hd1 : decide (k < ll) = true := decide_eq_true hlt.1
      have hd2 : decide ((k : Int) < 30) = true := decide_eq_true (by omega)
      have hix : (k : Int) < (ll : Int) := by omega
      have hwk : IntKind.i64.wrap ((k : Int) + 1) = ((k + 1 : Nat) : Int) := by rw [IntKind.wrap_i64]; omega
      have HLT := Lib.hid (And.intro hlt (And.intro hk30 (And.intro hkl hgk)))
      obtain ⟨m, hm⟩ : ∃ m, m = bs.length := ⟨_, rfl⟩
      have HM := Lib.hid hm
      rw [← hm] at q0 k3 HK2
      have HB8 := Lib.hid (show ∀ x ∈ bs, 0 ≤ x ∧ x ≤ 255 from fun x hx => by
        obtain ⟨i, hi, rfl⟩ := List.getElem_of_mem hx
        have := k2.bytes8 i hi
        simpa [List.getD, List.getElem?_eq_getElem hi] using this)
      clear hcA k1 k2 hbl hlt hm hkz hr hk30 hkl hgk
      have hbA := below_alloc (Below.refl _ wr) (.cells #[.slice sad m sc, .int .i64 arm, .int .i64 kp] 70)
      have nB := World.alloc_heap_new wr (.cells #[.slice sad m sc, .int .i64 arm, .int .i64 kp] 70)
      have hszA : (wr.alloc (.cells #[.slice sad m sc, .int .i64 arm, .int .i64 kp] 70)).heap.size = wr.heap.size + 1 := by simp
      obtain ⟨ds0, hld0, hup0⟩ := HST.out.sd
      have hld1 := (hld0.more (K := fun j => W.heap.size ≤ j ∧ j < wr.heap.size) (fun j hj h => ⟨h, hj⟩)).below hbA
      have HLD1 := Lib.hid hld1
      have HUP0 := Lib.hid hup0
      have HBA := Lib.hid hbA
      have NB := Lib.hid nB
      have HSA := Lib.hid hszA
      have x0 := cell_of_block (o := 0) nB rfl
      have x1 := cell_of_block (o := 1) nB rfl
      have x2 := cell_of_block (o := 2) nB rfl
      have HBW := Lib.hid (HST.out.below.trans (hbA.mono HST.out.below.size))
      clear hbA nB hszA hld0 hld1 hup0
      go_upto_region 10 with fail
      generalize wr.alloc (.cells #[.slice sad m sc, .int .i64 arm, .int .i64 kp] 70) = w1 at *
      by_cases hb3 : 300 < m
      case pos =>
        have hd3 : decide ((m : Int) > 300) = true := decide_eq_true (by omega)
        have hd4 : decide (300 < m) = true := decide_eq_true hb3
        clear hb3
        go_wp2_with fail
        go_roundw
        case rel => exact ⟨k + 1, S, st, by have := HLT.out; omega, by have := HLT.out; omega, by go_num, by have := HLT.out; omega, rfl, rfl, rfl, HST.out.next HBA.out⟩
        case measure => have := HLT.out; simp [intOf]; omega
      case neg =>
      have hd3 : decide ((m : Int) > 300) = false := decide_eq_false (by omega)
      have hd4 : decide (300 < m) = false := decide_eq_false hb3
      have HM3 := Lib.hid hb3
      have HGR := Lib.hid (show GoodR (st.gen + 1, bs) from ⟨by have := HST.out.gen_in; have := HLT.out; show -9223372036854775808 ≤ st.gen + 1 ∧ st.gen + 1 ≤ 9223372036854775807; omega, by have := HM.out; simp only; omega, HB8.out⟩)
      clear hb3
      obtain ⟨ba, hba⟩ : ∃ ba, ba = decide (0 ≤ arm) := ⟨_, rfl⟩
      have hda : decide (arm ≥ 0) = ba := hba.symm
      have hda2 : decide (0 ≤ arm) = ba := hba.symm
      clear hba
      go_upto_if 47 with fail
      clear hda hda2
      go_cut [] (fun wx => ∃ ds, SD wx S D (fun j => W.heap.size ≤ j ∧ j < wr.heap.size) st ds ∧ SInv st ds ∧ Fr (fun j => W.heap.size ≤ j ∧ j < wr.heap.size) w1 wx)
      case first =>
        cases ba with
        | true =>
          have hmk := mask_3s arm
          have KA := Lib.hid (arm_sd HLD1.out (arm % 4) (by omega))
          have HA0 := Lib.hid (show -1 ≤ max (arm % 4) (-1) from by omega)
          go_wp2_with fail
          refine KA.out.mono ?_
          rintro e w' ⟨rfl, hld, hfr⟩
          have HQ := Lib.hid (And.intro hld hfr)
          clear hld hfr
          go_wp2_with fail
          go_meet
          exact ⟨_, HQ.out.1, HUP0.out.same HUP0.out.down HA0.out ⟨rfl, rfl⟩ ⟨rfl, rfl⟩, HQ.out.2⟩
        | false =>
          go_wp2_with fail
          go_meet
          exact ⟨_, HLD1.out, HUP0.out, Fr.refl _ _⟩
      case rest =>
      obtain ⟨ds, hld, hup, hfr⟩ := hcut
      have hszx := hfr.size
      have hszA := HSA.out
      have hbWx : Below W.heap.size W wc := HBW.out.trans (hfr.below HBW.out.size (fun j hj => hj.1))
      have nX : wc.heap[wr.heap.size]? = some (.cells #[.slice sad m sc, .int .i64 arm, .int .i64 kp] 70 (0, 0)) := (hfr.block _ (by omega) (fun h => by omega)).trans NB.out
      have x0 := cell_of_block (o := 0) nX rfl
      have KA := Lib.hid (savec_sd hld sad m sc bs (fun w' hf => HK2.out w' (hbWx.trans (hf.below hbWx.size (fun j hj => hj.1)))))
      have HBX := Lib.hid hbWx
      have NX := Lib.hid nX
      have HBXR := Lib.hid (show wr.heap.size < wc.heap.size by omega)
      have hgx : st.gen < 4611686018427387904 := by have := HLT.out; omega
      have hgn := HST.out.gen_in
      have hgk := HLT.out.2.2.2
      have hwg : IntKind.i64.wrap (st.gen + 1) = st.gen + 1 := by have := HLT.out; rw [IntKind.wrap_i64]; omega
      have hwg2 : wrap64 (st.gen + 1) = st.gen + 1 := by have := HLT.out; unfold wrap64; omega
      obtain ⟨st1, ds1, c1, hsv⟩ : ∃ st1 ds1 c1, saveS st ds bs = (st1, ds1, c1) := ⟨_, _, _, rfl⟩
      have hcase : (c1 = 0 ∧ st1 = nextS st bs ∧ SInv (nextS st bs) ds1) ∨ (c1 = 17 ∧ st1 = { st with failed := true } ∧ ∀ K, SInv st (fallF ds1 K) ∨ SInv (nextS st bs) (fallF ds1 K)) := by
        by_cases hlf : ds.left = 0 ∨ ds.left = 1 ∨ ds.left = 2
        · obtain ⟨d, e, hb, hn⟩ := save_down hup HGR.out hgx hlf
          rw [hsv] at e
          injection e with e1 e2
          injection e2 with e2 e3
          subst e1 e2 e3
          exact .inr ⟨rfl, rfl, fun K => fall_after hup HGR.out K hb hn⟩
        · obtain ⟨d, e, h, _⟩ := save_ok hup HGR.out hgx (by omega)
          rw [hsv] at e
          injection e with e1 e2
          injection e2 with e2 e3
          subst e1 e2 e3
          exact .inl ⟨rfl, rfl, h⟩
      rw [hsv] at KA
      have HCS := Lib.hid hcase
      obtain ⟨ba2, hba2⟩ : ∃ b, b = (c1 == 0) := ⟨_, rfl⟩
      have HB2 := Lib.hid hba2
      clear hld hup hfr hszx hszA hbWx nX hgx hsv hcase hba2 hgk
      go_wp2_with fail
      refine KA.out.mono ?_
      rintro e w3 ⟨rfl, hld3, hf3⟩
      have KM := Lib.hid (arm_sd hld3 (-1) (by decide))
      have HF3 := Lib.hid hf3
      clear hld3 hf3 KA x0 x1 x2
      go_wp2_with fail
      refine KM.out.mono ?_
      rintro e w4 ⟨rfl, hld4, hf4⟩
      have hs3 := HF3.out.size
      have hs4 := hf4.size
      have hsx := HBXR.out
      have hbW3 : Below W.heap.size W w3 := HBX.out.trans (HF3.out.below HBX.out.size (fun j hj => hj.1))
      have hbW4 : Below W.heap.size W w4 := hbW3.trans (hf4.below hbW3.size (fun j hj => by have := HBX.out.size; rcases hj with h | h; exact h.1; omega))
      have nB3 := (HF3.out.block _ hsx (fun h => by omega)).trans NX.out
      have nB4 : w4.heap[wr.heap.size]? = some (.cells #[.slice sad m sc, .int .i64 arm, .int .i64 kp] 70 (0, 0)) := (hf4.block _ (by omega) (fun h => by rcases h with h | h <;> omega)).trans nB3
      have x0 := cell_of_block (o := 0) nB4 rfl
      have x2 := cell_of_block (o := 2) nB4 rfl
      have hld4' : SD w4 S D (fun j => (W.heap.size ≤ j ∧ j ≠ wr.heap.size) ∧ j < w4.heap.size) st1 ({ ds1 with left := max (-1) (-1) } : DS) := hld4.more fun j hj h => by
        have := HBX.out.size
        rcases h with h | h
        · exact ⟨⟨h.1, by omega⟩, hj⟩
        · exact ⟨⟨by omega, by omega⟩, hj⟩
      have HLD4 := Lib.hid hld4'
      have HBW4 := Lib.hid hbW4
      have NB4 := Lib.hid nB4
      have HS4 := Lib.hid (show wr.heap.size < w4.heap.size by omega)
      clear hld4 hf4 hbW3 hbW4 nB3 nB4 hld4' KM hs3 hs4 hsx
      have hc2 : (c1 == 0) = ba2 := HB2.out.symm
      go_upto_if 60 with fail
      clear hc2
      go_cut [4, 6, 7] (fun s t g wx => ∃ (S : Nat) (st : SS), st.gen ≤ ((k + 1 : Nat) : Int) ∧ s = .pointer (some ⟨S, 0, none⟩) ∧ t = .string (strOfNums st.text) ∧ g = .int .i64 st.gen ∧ SAt W S D st wx)
      case first =>
        cases ba2 with
        | true =>
          have hc0 : c1 = 0 := by simpa using HB2.out.symm
          subst hc0
          have hq : st1 = nextS st bs ∧ SInv (nextS st bs) ds1 := by
            rcases HCS.out with h | h
            · exact h.2
            · exact absurd h.1 (by decide)
          obtain ⟨hq1, hq2⟩ := hq
          subst hq1
          have HQ2 := Lib.hid hq2
          have hcv := txt_conv (HK2.out w4 HBW4.out) w4 (Below.refl _ _)
          obtain ⟨SB, hSB⟩ : ∃ SB, SB = strOfNums bs := ⟨_, rfl⟩
          have HSB := Lib.hid hSB
          rw [← hSB] at hcv
          clear hq2 hSB x2 hgn
          go_wp2_with fail
          go_meet
          refine ⟨S, nextS st bs, ?_, rfl, by rw [HSB.out]; rfl, rfl, ⟨⟨_, HLD4.out.more (fun j _ h => h.1.1), HQ2.out.same HQ2.out.down (by show -1 ≤ max (-1) (-1 : Int); decide) ⟨rfl, rfl⟩ ⟨rfl, rfl⟩⟩, HBW4.out, HST.out.files, ?_⟩⟩
          · have := HLT.out; show st.gen + 1 ≤ _; omega
          · have := HST.out.gen_in; show 0 ≤ st.gen + 1; omega
        | false =>
          have hc0 : c1 = 17 ∧ st1 = { st with failed := true } ∧ ∀ K, SInv st (fallF ds1 K) ∨ SInv (nextS st bs) (fallF ds1 K) := by
            rcases HCS.out with h | h
            · have := HB2.out; rw [h.1] at this; cases this
            · exact h
          obtain ⟨hc17, hst1, hfa⟩ := hc0
          subst hc17 hst1
          have HFA := Lib.hid hfa
          have KB := Lib.hid (savec_sd HLD4.out none 0 0 [] (fun w' hf => .inr ⟨rfl, none, 0, rfl, fun _ => rfl⟩))
          have hab : saveS { st with failed := true } ({ ds1 with left := max (-1) (-1) } : DS) [] = ({ st with failed := true }, ({ ds1 with left := max (-1) (-1) } : DS), 16) := by unfold saveS; rw [if_pos rfl]
          rw [hab] at KB
          clear hfa hab HB2 HCS x0
          go_wp2_with fail
          refine KB.out.mono ?_
          rintro e w5 ⟨rfl, hld5, hf5⟩
          have hbW5 : Below W.heap.size W w5 := HBW4.out.trans (hf5.below HBW4.out.size (fun j hj => hj.1.1))
          have nB5 := (hf5.block _ HS4.out (fun h => h.1.2 rfl)).trans NB4.out
          have hld5' : SD w5 S D (fun j => (W.heap.size ≤ j ∧ j ≠ wr.heap.size) ∧ j < w5.heap.size) { st with failed := true } ({ ds1 with left := max (-1) (-1) } : DS) := hld5.more fun j hj h => by
            have h4 := HS4.out
            rcases h with h | h
            · exact ⟨h.1, hj⟩
            · exact ⟨⟨by have := HBW4.out.size; omega, by omega⟩, hj⟩
          have KFL := Lib.hid (fall_sd hld5' kp)
          obtain ⟨ds6, hds6⟩ : ∃ d, d = fallF ({ ds1 with left := max (-1) (-1) } : DS) (keepX kp) := ⟨_, rfl⟩
          have hup6 : SInv st ds6 ∨ SInv (nextS st bs) ds6 := by rw [hds6]; exact HFA.out (keepX kp)
          rw [← hds6] at KFL
          have HUP6 := Lib.hid hup6
          have x2 := cell_of_block (o := 2) nB5 rfl
          have HBW5 := Lib.hid hbW5
          have NB5 := Lib.hid nB5
          have HS5 := Lib.hid (Nat.lt_of_lt_of_le HS4.out hf5.size)
          clear hld5 hf5 hbW5 nB5 hld5' KB hds6 hup6
          go_wp2_with fail
          refine KFL.out.mono ?_
          rintro e w6 ⟨rfl, hld6, hf6⟩
          have hbW6 : Below W.heap.size W w6 := HBW5.out.trans (hf6.below HBW5.out.size (fun j hj => hj.1.1))
          have nB6 := (hf6.block _ HS5.out (fun h => h.1.2 rfl)).trans NB5.out
          obtain ⟨F, G, _, hd6, _, hH6⟩ := hld6
          have KOP := Lib.hid (sopen_any hd6 (HE.out _ hbW6) 3 1)
          have hw6 : wrongF ds6.down 3 = 0 ∧ wrongF ds6.down 1 = 0 := by
            have : ds6.down = false := by rcases HUP6.out with h | h <;> exact h.down
            rw [this]
            decide
          have HW6 := Lib.hid hw6
          have HD6 := Lib.hid hd6
          have HG6 := Lib.hid (fun j (hj : G j) => (hH6 j (.inr hj)).1.1.1)
          have HBW6 := Lib.hid hbW6
          have NB6 := Lib.hid nB6
          have HS6 := Lib.hid (Nat.lt_of_lt_of_le HS5.out hf6.size)
          clear hf6 hbW6 nB6 hd6 hH6 KFL x2 hw6
          go_wp2_with fail
          refine KOP.out.mono ?_
          rintro e w7 ⟨hb7, h | h | h | ⟨_, _, _, S7, rfl, hs7⟩⟩
          · exact absurd h.1 (by decide)
          · exact absurd HW6.out.1 h.2.1
          · exact absurd HW6.out.2 h.2.2.1
          have hbW7 := HBW6.out.trans (hb7.mono HBW6.out.size)
          have hsd7 := opened2 HD6.out HG6.out HBW6.out.size hb7 hs7
          have nB7 := (hb7.block _ HS6.out).trans NB6.out
          have x0 := cell_of_block (o := 0) nB7 rfl
          have hcvA := txt_conv (HK2.out w7 hbW7) w7 (Below.refl _ _)
          have KL := Lib.hid (last_sn hs7)
          have hfl := HST.out.files
          have HSD7 := Lib.hid hsd7
          have HBW7 := Lib.hid hbW7
          have NB7 := Lib.hid nB7
          have HS7 := Lib.hid (Nat.lt_of_lt_of_le HS6.out hb7.size)
          clear hb7 hs7 hsd7 hbW7 nB7 hcvA KOP
          rcases HUP6.out with hin | hin
          · have hop : openS ds6 3 1 = st := by have := hin.open_; rw [hfl.1, hfl.2] at this; exact this
            rw [hop] at KL HSD7
            have HIN := Lib.hid hin
            clear hin hop hfl
            go_wp2_with fail
            refine KL.out.mono ?_
            rintro e w8 ⟨u, rfl, ho8, hb8⟩
            have hne : (st.gen == st.gen + 1) = false := by rw [beq_eq_false_iff_ne]; omega
            have hne2 : ¬ st.gen = st.gen + 1 := by omega
            have HBW8 := Lib.hid (HBW7.out.trans (hb8.mono HBW7.out.size))
            have HSD8 := Lib.hid (HSD7.out.below hb8)
            clear ho8 hb8 x0 KL hgn
            go_wp2_with fail
            go_meet
            refine ⟨S7, st, ?_, rfl, rfl, rfl, ⟨⟨_, HSD8.out, HIN.out⟩, HBW8.out, HST.out.files, HST.out.gen_in⟩⟩
            have := HLT.out
            omega
          · have hop : openS ds6 3 1 = nextS st bs := by have := hin.open_; rw [show (nextS st bs).f0 = 3 from hfl.1, show (nextS st bs).f1 = 1 from hfl.2] at this; exact this
            rw [hop] at KL HSD7
            have HIN := Lib.hid hin
            clear hin hop hfl
            go_wp2_with fail
            refine KL.out.mono ?_
            rintro e w8 ⟨u, rfl, ho8, hb8⟩
            have hbW8 := HBW7.out.trans (hb8.mono HBW7.out.size)
            have hcvA := txt_conv (HK2.out w8 hbW8) w8 (Below.refl _ _)
            have hcvB := txt_conv ho8.at w8 (Below.refl _ _)
            have nB8 := (hb8.block _ HS7.out).trans NB7.out
            have x0 := cell_of_block (o := 0) nB8 rfl
            obtain ⟨ua, un, uc, rfl⟩ : ∃ a n c, u = .slice a n c := by
              rcases ho8.form with ⟨rfl, _⟩ | ⟨g, c, rfl, _⟩
              · exact ⟨_, _, _, rfl⟩
              · exact ⟨_, _, _, rfl⟩
            obtain ⟨SB, hSB⟩ : ∃ SB, SB = strOfNums bs := ⟨_, rfl⟩
            have HSB := Lib.hid hSB
            rw [← hSB] at hcvA
            rw [show strOfNums (nextS st bs).text = SB from hSB.symm] at hcvB
            rw [show (nextS st bs).gen = st.gen + 1 from rfl]
            have hne : (st.gen + 1 == st.gen + 1) = true := by simp
            have HBW8 := Lib.hid hbW8
            have HSD8 := Lib.hid (HSD7.out.below hb8)
            clear ho8 hb8 KL hbW8 nB8 hSB hgn
            go_wp2_with fail
            go_meet
            refine ⟨S7, nextS st bs, ?_, rfl, by rw [HSB.out]; rfl, rfl, ⟨⟨_, HSD8.out, HIN.out⟩, HBW8.out, HST.out.files, ?_⟩⟩
            · have := HLT.out; show st.gen + 1 ≤ _; omega
            · have := HST.out.gen_in; show 0 ≤ st.gen + 1; omega
      case rest =>
        obtain ⟨S2, st2, hgk2, rfl, rfl, rfl, h2⟩ := hcut
        obtain ⟨ds2, hsd2, _⟩ := h2.sd
        obtain ⟨F, G, hsn2, _, _, _⟩ := hsd2
        have KL := Lib.hid (last_sn hsn2)
        have H2 := Lib.hid h2
        have HGK := Lib.hid hgk2
        clear h2 hsn2 hgk2 x0 x2 hgn
        go_wp2_with fail
        refine KL.out.mono ?_
        rintro e w5 ⟨u, rfl, ho5, hb5⟩
        have hcvB := txt_conv ho5.at w5 (Below.refl _ _)
        obtain ⟨ua, un, uc, rfl⟩ : ∃ a n c, u = .slice a n c := by
          rcases ho5.form with ⟨rfl, _⟩ | ⟨g, c, rfl, _⟩
          · exact ⟨_, _, _, rfl⟩
          · exact ⟨_, _, _, rfl⟩
        have HB5 := Lib.hid hb5
        clear ho5 hb5 KL
        go_wp2_with fail
        go_roundw
        case rel => exact ⟨k + 1, S2, st2, by have := HLT.out; omega, by have := HLT.out; omega, by go_num, HGK.out, rfl, rfl, rfl, H2.out.next HB5.out⟩
        case measure => have := HLT.out; simp [intOf]; omega
end Go.Proofs.YtomhfnaekjmjnaaDoor
