/- Saving; a small play. Condition: errors.errorType reads as the program's text lays it. -/
import Derived.Test.YtomhfnaekjmjnaaDoorMam
import Derived.Lib.SlBytesConst
namespace Go.Proofs.YtomhfnaekjmjnaaDoor
set_option linter.unusedVariables false
open Go.ChangeShapes Go.WideShapes Go.ChangeAt Go.RowKit
attribute [local go_sem ↓] Go.wp_at_zero Go.wp_at_succ comesTo_value_eq comesTo_skip_eq comesTo_enter_eq

def saveS (st : SS) (ds : DS) (bs : List Int) : SS × DS × Int :=
  if st.failed = true then (st, ds, 16) else if 65536 < bs.length then (st, ds, 3) else if 4611686018427387904 ≤ st.gen then (st, ds, 15) else saveF st ds bs
theorem saveEnd_same {w : World} {S D : Nat} {H : Nat → Prop} {st : SS} {ds : DS} (h : SD w S D H st ds) (code : Int) : SaveEnd w S D H (st, ds, code) (.returned (.int .i64 code)) w :=
  ⟨rfl, h.more fun j _ hj => .inl hj, Fr.refl _ _⟩
set_option maxRecDepth 100000 in
theorem savec_sd {w : World} {S D : Nat} {H : Nat → Prop} {st : SS} {ds : DS} (h : SD w S D H st ds) (ad : Option Addr) (n c : Nat) (bs : List Int) (hX : ∀ w', Fr H w w' → TxtAt w' (.slice ad n c) bs) :
    Calls Tryd.prog 30 #[.pointer (some ⟨S, 0, none⟩), .slice ad n c] w fun e w' => SaveEnd w S D H (saveS st ds bs) e w' := by
  have HX0 := hX _ (Fr.refl _ _)
  have hn : n = bs.length := by
    rcases HX0 with ⟨b', o', c', e, h1, h2⟩ | ⟨rfl, a, cp, e, _⟩ <;> (cases e; rfl)
  have HSD := Lib.hid h
  obtain ⟨F, G, hs, _, _, _⟩ := h
  have K := Lib.hid (there_syes hs.made)
  obtain ⟨_, _, _, _, tv, hb, _⟩ := hs
  obtain ⟨f0, f1, last, text, gen, failed⟩ := st
  unfold snCells at hb
  simp only at hb
  have c6 := cell_of_block (o := 6) hb rfl
  have c5 := cell_of_block (o := 5) hb rfl
  unfold saveS
  simp only
  clear hb HX0
  cases failed with
  | true =>
    rw [if_pos rfl]
    clear hX hn c5
    go_enter Tryd.func30, Tryd.ntmps30
    go_wp2_with fail
    refine K.out.mono ?_
    rintro e w' ⟨rfl, rfl⟩
    go_wp2_with fail
    go_ret
    exact saveEnd_same HSD.out 16
  | false =>
    rw [if_neg (by simp)]
    by_cases hl : 65536 < bs.length
    · rw [if_pos hl]
      have hd : decide ((n : Int) > 65536) = true := decide_eq_true (by omega)
      have hd2 : decide (65536 < n) = true := decide_eq_true (by omega)
      clear hX hn c5 hl
      go_enter Tryd.func30, Tryd.ntmps30
      go_wp2_with fail
      refine K.out.mono ?_
      rintro e w' ⟨rfl, rfl⟩
      go_wp2_with fail
      go_ret
      exact saveEnd_same HSD.out 3
    · rw [if_neg hl]
      have hd : decide ((n : Int) > 65536) = false := decide_eq_false (by omega)
      have hd2 : decide (65536 < n) = false := decide_eq_false (by omega)
      by_cases hg : 4611686018427387904 ≤ gen
      · rw [if_pos hg]
        have hd3 : decide (gen ≥ 4611686018427387904) = true := decide_eq_true hg
        have hd4 : decide (4611686018427387904 ≤ gen) = true := decide_eq_true hg
        clear hX hn hl hg
        go_enter Tryd.func30, Tryd.ntmps30
        go_wp2_with fail
        refine K.out.mono ?_
        rintro e w' ⟨rfl, rfl⟩
        go_wp2_with fail
        go_ret
        exact saveEnd_same HSD.out 15
      · rw [if_neg hg]
        have hd3 : decide (gen ≥ 4611686018427387904) = false := decide_eq_false hg
        have hd4 : decide (4611686018427387904 ≤ gen) = false := decide_eq_false hg
        have KS := Lib.hid (save_sd HSD.out (by omega) ad n c bs hX (by omega))
        clear hX hn hl hg
        go_enter Tryd.func30, Tryd.ntmps30
        go_wp2_with fail
        refine K.out.mono ?_
        rintro e w' ⟨rfl, rfl⟩
        go_wp2_with fail
        refine KS.out.mono ?_
        rintro e w' ⟨rfl, h1, h2⟩
        have HQ := Lib.hid (And.intro h1 h2)
        clear h1 h2
        go_wp2_with fail
        go_ret
        exact ⟨rfl, HQ.out.1, HQ.out.2⟩
deriving instance DecidableEq for SS
def st0 (f0 f1 : Int) : SS := ⟨f0, f1, -1, [], 0, false⟩
theorem sopen_new (f0 f1 : Int) : openS newF f0 f1 = st0 f0 f1 := rfl
def pl1 : SS × DS × Int := saveS (st0 1 2) newF [97]
def pl2 : SS × DS × Int := saveS pl1.1 pl1.2.1 [98]
theorem pl1_ok : pl1.2.2 = 0 := by decide +kernel
theorem pl2_ok : pl2.2.2 = 0 ∧ pl2.2.1.down = false := by decide +kernel
theorem pl2_open : openS pl2.2.1 1 2 = ⟨1, 2, 1, [98], 2, false⟩ := by decide +kernel
/-- opened over a disk -/
theorem sopened {w1 w2 : World} {D S : Nat} {ds : DS} {B : Nat} {st : SS} (hd : Dk w1 D (fun j => B ≤ j) ds) (hB : B ≤ w1.heap.size) (hb : Below w1.heap.size w1 w2) (hl : Sn w2 S D (fun j => w1.heap.size ≤ j) st) : SD w2 S D (fun j => B ≤ j) st ds :=
  SD.of hl (hd.bound.below hb) (fun j _ hj hg => by omega) (fun j _ hj => by omega) (fun j _ hj => hj.1)
theorem lit_txt {w' : World} {b : Nat} {x : Int} (hx : 0 ≤ x ∧ x ≤ 255) {m : Nat × Nat} (hm : m = (1, 2)) (h : w'.heap[b]? = some (.cells #[.int .u8 x] 5 m)) : TxtAt w' (.slice (some ⟨b, 0, none⟩) 1 1) [x] := by
  subst hm
  refine .inl ⟨b, 0, 1, rfl, by simp, ⟨fun k hk => ?_, fun k hk => ?_, fun k hk => ?_, by simp⟩⟩
  · obtain rfl : k = 0 := by simpa using hk
    unfold World.cell?; rw [show ∀ o, (⟨b, o, none⟩ : Addr).block = b from fun _ => rfl, h]; rfl
  · obtain rfl : k = 0 := by simpa using hk
    exact hx.1
  · obtain rfl : k = 0 := by simpa using hk
    exact hx.2
set_option maxRecDepth 100000 in
set_option maxHeartbeats 4000000 in
theorem one_sn (w : World) (hE : ErrAt w) : Calls Tryd.prog 32 #[] w fun e w' => e = .returned (.bool true) ∧ Below w.heap.size w w' := by
  have kc := fun (w : World) (C : Array Value) (n c : Nat) => Lib.run_convert_bytes_const (P := Tryd.prog) w 22 5 C n c Tryd.underlying22 Tryd.underlying5
  have KN := Lib.hid (new_any w)
  have HE := Lib.hid hE
  clear hE
  go_enter Tryd.func32, Tryd.ntmps32
  go_wp2_with fail
  refine KN.out.mono ?_
  rintro e w1 ⟨D, rfl, hd, hb⟩
  have HD := Lib.hid hd
  have HB := Lib.hid hb
  clear hd hb
  go_wp2_with fail
  refine (sopen_any HD.out (HE.out.below HB.out) 1 2).mono ?_
  rintro e w2 ⟨hb2, h | h | h | ⟨_, _, _, S, rfl, hs⟩⟩
  · exact absurd h.1 (by decide)
  · exact absurd (by decide : wrongF newF.down 1 = 0) h.2.1
  · exact absurd (by decide : wrongF newF.down 2 = 0) h.2.2.1
  rw [sopen_new] at hs
  have HB2 := Lib.hid (HB.out.trans (hb2.mono HB.out.size))
  have hL := sopened (B := w.heap.size) HD.out HB.out.size hb2 hs
  have hA := below_alloc (Below.refl _ w2) (.cells #[.int .u8 97] 5 (1, 2))
  have hL2 := (hL.more (K := fun j => w.heap.size ≤ j ∧ j < w2.heap.size) (fun j h1 h2 => ⟨h2, h1⟩)).below hA
  have KA := Lib.hid (savec_sd hL2 (some ⟨w2.heap.size, 0, none⟩) 1 1 [97] (fun w' hf => lit_txt (by decide) rfl ((hf.block _ (by simp) (fun h => by omega)).trans (World.alloc_heap_new w2 _))))
  have HA := Lib.hid hA
  clear hL hL2 hA hb2 hs
  go_wp2_with fail
  refine KA.out.mono ?_
  rintro e w3 ⟨rfl, hL3, hf3⟩
  rw [show (saveS (st0 1 2) newF [97]).2.2 = 0 from pl1_ok]
  have hB3 := (HB2.out.trans (HA.out.mono HB2.out.size)).trans (hf3.below (B := w.heap.size) (Nat.le_trans HB2.out.size HA.out.size) (fun j hj => hj.1))
  have HB3 := Lib.hid hB3
  have hA3 := below_alloc (Below.refl _ w3) (.cells #[.int .u8 98] 5 (1, 2))
  have hsz2 := HB2.out.size
  have hsA := HA.out.size
  have hL4 := (hL3.more (K := fun j => w.heap.size ≤ j ∧ j < w3.heap.size) (fun j h1 h2 => ⟨by rcases h2 with h | h; exact h.1; omega, h1⟩)).below hA3
  have KA4 := Lib.hid (savec_sd hL4 (some ⟨w3.heap.size, 0, none⟩) 1 1 [98] (fun w' hf => lit_txt (by decide) rfl ((hf.block _ (by simp) (fun h => by omega)).trans (World.alloc_heap_new w3 _))))
  have HA3 := Lib.hid hA3
  clear hL3 hf3 KA HA HB2 hB3 hA3 hL4 hsz2 hsA
  go_wp2_with fail
  refine KA4.out.mono ?_
  rintro e w4 ⟨rfl, hL5, hf5⟩
  rw [show (saveS (saveS (st0 1 2) newF [97]).1 (saveS (st0 1 2) newF [97]).2.1 [98]).2.2 = 0 from pl2_ok.1]
  have hB5 := (HB3.out.trans (HA3.out.mono HB3.out.size)).trans (hf5.below (B := w.heap.size) (Nat.le_trans HB3.out.size HA3.out.size) (fun j hj => hj.1))
  have HB5 := Lib.hid hB5
  obtain ⟨F, G, _, hd5, _, _⟩ := hL5
  have KO := Lib.hid (sopen_any (ds := pl2.2.1) hd5 (HE.out.below hB5) 1 2)
  clear hf5 hB5 hd5 KA4 HA3 HB3
  go_wp2_with fail
  refine KO.out.mono ?_
  rintro e w6 ⟨hb6, h | h | h | ⟨_, _, _, S6, rfl, hs6⟩⟩
  · exact absurd h.1 (by decide)
  · exact absurd (by rw [pl2_ok.2]; decide) h.2.1
  · exact absurd (by rw [pl2_ok.2]; decide) h.2.2.1
  rw [pl2_open] at hs6
  have HB6 := Lib.hid (HB5.out.trans (hb6.mono HB5.out.size))
  have KL := Lib.hid (last_sn hs6)
  have HS6 := Lib.hid hs6
  clear hs6 hb6 KO
  go_wp2_with fail
  refine KL.out.mono ?_
  rintro e w7 ⟨u, rfl, ho, hb7⟩
  have hcv := txt_conv ho.at w7 (Below.refl _ _)
  rw [show strOfNums [98] = ⟨#[98]⟩ from by decide +kernel] at hcv
  obtain ⟨ua, un, uc, rfl⟩ : ∃ a n c, u = .slice a n c := by
    rcases ho.form with ⟨rfl, _⟩ | ⟨g, c, rfl, _⟩
    · exact ⟨_, _, _, rfl⟩
    · exact ⟨_, _, _, rfl⟩
  have KSL := Lib.hid (slot_sn (HS6.out.below hb7))
  have HB7 := Lib.hid (HB6.out.trans (hb7.mono HB6.out.size))
  clear ho hb7 KL
  go_wp2_with fail
  refine KSL.out.mono ?_
  rintro e w8 ⟨rfl, hb8⟩
  have HB8 := Lib.hid (HB7.out.trans (hb8.mono HB7.out.size))
  clear hb8
  go_wp2_with fail
  go_ret
  exact ⟨rfl, HB8.out⟩
end Go.Proofs.YtomhfnaekjmjnaaDoor
