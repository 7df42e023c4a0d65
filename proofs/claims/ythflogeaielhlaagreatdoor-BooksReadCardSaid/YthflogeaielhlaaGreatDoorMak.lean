/- Laws that belong together: A line of books read by a cursor (layer 14). No condition.; Books read at any bytes (layer 14). Condition: the length's bound; the errors' table.; Books' bytes: one number, one line (layer 14). Condition: the numbers fit. -/
import Derived.Test.YthflogeaielhlaaGreatDoorMag
import Derived.Test.YthflogeaielhlaaGreatDoorMaj
import Derived.Test.YthflogeaielhlaaGreatDoorMaf
import Derived.Test.YthflogeaielhlaaGreatDoorMad
namespace Go.Proofs.YthflogeaielhlaaGreatDoor
set_option linter.unusedVariables false
open Go.ChangeShapes Go.WideShapes Go.ChangeAt Go.RowKit Bk
attribute [local go_sem ↓] Go.wp_at_zero Go.wp_at_succ comesTo_value_eq comesTo_skip_eq comesTo_enter_eq

def mosts : List Int := [16, 1073741824, 1073741824, 1073741824, 1073741824, 1073741824, 1125899906842624, 1125899906842624, 1099511627776]
def rdL : CS → List Int → CS × LV
  | st, [] => (st, [])
  | st, m :: ms => ((rdL (smallF st m).1 ms).1, (smallF st m).2 :: (rdL (smallF st m).1 ms).2)
/-- of the blocks that were there just the cursor's may have turned: a set of blocks -/
def FC (C n : Nat) (j : Nat) : Prop := j = C ∨ n ≤ j
theorem fr_small {w : World} {C : Nat} {F : Nat → Prop} {st s : CS} {m v : Int} (e : smallF st m = (s, v)) {W : World} (h : Cur W C F st) (hf : Fr (FC C w.heap.size) w W) :
    Calls Tryz.prog 12 #[.pointer (some ⟨C, 0, none⟩), .int .i64 m] W fun r w' => r = .returned (.int .i64 v) ∧ Cur w' C F s ∧ Fr (FC C w.heap.size) w w' ∧ Fr (fun j => j = C) W w' := by
  have := small_cur h m
  rw [e] at this
  refine this.mono ?_
  rintro r w' ⟨h1, h2, h3⟩
  exact ⟨h1, h2, Fr.trans hf h3 (fun j hj => .inl (.inl hj)), h3⟩
set_option maxRecDepth 100000 in
set_option maxHeartbeats 4000000 in
theorem rline_cur {w : World} {C : Nat} {F : Nat → Prop} {st : CS} (h : Cur w C F st) (hF : ∀ j, F j → j < w.heap.size) :
    Calls Tryz.prog 13 #[.pointer (some ⟨C, 0, none⟩)] w fun e w' => e = .returned (.agg (vL (rdL st mosts).2).toArray) ∧ Cur w' C F (rdL st mosts).1 ∧ Fr (fun j => j = C) w w' := by
  obtain ⟨s1, v0, e0⟩ : ∃ s v, smallF st 16 = (s, v) := ⟨_, _, rfl⟩
  obtain ⟨s2, v1, e1⟩ : ∃ s v, smallF s1 1073741824 = (s, v) := ⟨_, _, rfl⟩
  obtain ⟨s3, v2, e2⟩ : ∃ s v, smallF s2 1073741824 = (s, v) := ⟨_, _, rfl⟩
  obtain ⟨s4, v3, e3⟩ : ∃ s v, smallF s3 1073741824 = (s, v) := ⟨_, _, rfl⟩
  obtain ⟨s5, v4, e4⟩ : ∃ s v, smallF s4 1073741824 = (s, v) := ⟨_, _, rfl⟩
  obtain ⟨s6, v5, e5⟩ : ∃ s v, smallF s5 1073741824 = (s, v) := ⟨_, _, rfl⟩
  obtain ⟨s7, v6, e6⟩ : ∃ s v, smallF s6 1125899906842624 = (s, v) := ⟨_, _, rfl⟩
  obtain ⟨s8, v7, e7⟩ : ∃ s v, smallF s7 1125899906842624 = (s, v) := ⟨_, _, rfl⟩
  obtain ⟨s9, v8, e8⟩ : ∃ s v, smallF s8 1099511627776 = (s, v) := ⟨_, _, rfl⟩
  have HR := Lib.hid (show rdL st mosts = (s9, [v0, v1, v2, v3, v4, v5, v6, v7, v8]) from by simp only [mosts, rdL, e0, e1, e2, e3, e4, e5, e6, e7, e8])
  have E0 := Lib.hid e0
  have E1 := Lib.hid e1
  have E2 := Lib.hid e2
  have E3 := Lib.hid e3
  have E4 := Lib.hid e4
  have E5 := Lib.hid e5
  have E6 := Lib.hid e6
  have E7 := Lib.hid e7
  have E8 := Lib.hid e8
  have hlt := h.lt
  have hb0 := below_alloc (Below.refl _ w) (.cells #[.int .i64 0, .int .i64 0, .int .i64 0, .int .i64 0, .int .i64 0, .int .i64 0, .int .i64 0, .int .i64 0, .int .i64 0] 46)
  have HN0 := Lib.hid (World.alloc_heap_new w (.cells #[.int .i64 0, .int .i64 0, .int .i64 0, .int .i64 0, .int .i64 0, .int .i64 0, .int .i64 0, .int .i64 0, .int .i64 0] 46))
  have HC0 := Lib.hid (h.below hb0)
  have HF0 := Lib.hid (show Fr (FC C w.heap.size) w _ from Fr.of_below hb0)
  have HCL := Lib.hid hlt
  clear e0 e1 e2 e3 e4 e5 e6 e7 e8 h hb0 hlt
  go_enter Tryz.func13, Tryz.ntmps13
  go_upto_region 1 with fail
  generalize w.alloc (.cells #[.int .i64 0, .int .i64 0, .int .i64 0, .int .i64 0, .int .i64 0, .int .i64 0, .int .i64 0, .int .i64 0, .int .i64 0] 46) = W0 at *
  obtain ⟨R, hR⟩ : ∃ R, R = w.heap.size := ⟨_, rfl⟩
  have HRW := Lib.hid hR
  rw [← hR] at HN0 ⊢
  clear hR
  go_wp2_with fail
  refine (fr_small E0.out HC0.out HF0.out).mono ?_
  rintro e w1 ⟨rfl, h1, f1, g1⟩
  have HN1 := Lib.hid ((g1.block R (Array.getElem?_eq_some_iff.1 HN0.out).1 (by have := HCL.out; have := HRW.out; omega)).trans HN0.out)
  have HP := Lib.hid (World.alloc_heap_new w1 (.cells #[.int .i64 v0, .int .i64 0, .int .i64 0, .int .i64 0, .int .i64 0, .int .i64 0, .int .i64 0, .int .i64 0, .int .i64 0] 46))
  have b2 := below_alloc (Below.refl _ w1) (.cells #[.int .i64 v0, .int .i64 0, .int .i64 0, .int .i64 0, .int .i64 0, .int .i64 0, .int .i64 0, .int .i64 0, .int .i64 0] 46)
  have HC2 := Lib.hid (h1.below b2)
  have HF2 := Lib.hid (show Fr (FC C w.heap.size) w _ from Fr.trans f1 (Fr.of_below (F := fun _ => False) b2) (fun _ hj => hj.elim))
  have HN2 := Lib.hid ((b2.block R (Array.getElem?_eq_some_iff.1 HN1.out).1).trans HN1.out)
  have HPR := Lib.hid (show R < w1.heap.size ∧ w.heap.size ≤ w1.heap.size from ⟨(Array.getElem?_eq_some_iff.1 HN1.out).1, f1.size⟩)
  clear h1 f1 g1 b2 HC0 HF0 HN0 HN1
  go_upto_region 2 with fail
  generalize w1.alloc (.cells #[.int .i64 v0, .int .i64 0, .int .i64 0, .int .i64 0, .int .i64 0, .int .i64 0, .int .i64 0, .int .i64 0, .int .i64 0] 46) = W2 at *
  generalize w1.heap.size = p at *
  go_wp2_with fail
  go_loopw [8] (fun i wr => ∃ k : Nat, k ≤ 5 ∧ i = .int .i64 k ∧ Fr (FC C w.heap.size) w wr ∧ wr.heap[R]? = some (.cells #[.int .i64 0, .int .i64 0, .int .i64 0, .int .i64 0, .int .i64 0, .int .i64 0, .int .i64 0, .int .i64 0, .int .i64 0] 46 (0, 0)) ∧ ((k = 0 ∧ Cur wr C F s1 ∧ wr.heap[p]? = some (.cells #[.int .i64 v0, .int .i64 0, .int .i64 0, .int .i64 0, .int .i64 0, .int .i64 0, .int .i64 0, .int .i64 0, .int .i64 0] 46 (0, 0))) ∨ (k = 1 ∧ Cur wr C F s2 ∧ wr.heap[p]? = some (.cells #[.int .i64 v0, .int .i64 v1, .int .i64 0, .int .i64 0, .int .i64 0, .int .i64 0, .int .i64 0, .int .i64 0, .int .i64 0] 46 (0, 0))) ∨ (k = 2 ∧ Cur wr C F s3 ∧ wr.heap[p]? = some (.cells #[.int .i64 v0, .int .i64 v1, .int .i64 v2, .int .i64 0, .int .i64 0, .int .i64 0, .int .i64 0, .int .i64 0, .int .i64 0] 46 (0, 0))) ∨ (k = 3 ∧ Cur wr C F s4 ∧ wr.heap[p]? = some (.cells #[.int .i64 v0, .int .i64 v1, .int .i64 v2, .int .i64 v3, .int .i64 0, .int .i64 0, .int .i64 0, .int .i64 0, .int .i64 0] 46 (0, 0))) ∨ (k = 4 ∧ Cur wr C F s5 ∧ wr.heap[p]? = some (.cells #[.int .i64 v0, .int .i64 v1, .int .i64 v2, .int .i64 v3, .int .i64 v4, .int .i64 0, .int .i64 0, .int .i64 0, .int .i64 0] 46 (0, 0))) ∨ (k = 5 ∧ Cur wr C F s6 ∧ wr.heap[p]? = some (.cells #[.int .i64 v0, .int .i64 v1, .int .i64 v2, .int .i64 v3, .int .i64 v4, .int .i64 v5, .int .i64 0, .int .i64 0, .int .i64 0] 46 (0, 0))))) (fun i _ => 5 - (intOf i).toNat)
  case atStart => exact ⟨0, Nat.zero_le _, rfl, HF2.out, HN2.out, .inl ⟨rfl, HC2.out, HP.out⟩⟩
  case round =>
    obtain ⟨k, hk, rfl, hf, hn, hh⟩ := hrel
    have HF3 := Lib.hid hf
    have HN3 := Lib.hid hn
    clear hf hn HF2 HN2 HC2 HP
    rcases hh with ⟨rfl, hc, hp⟩ | ⟨rfl, hc, hp⟩ | ⟨rfl, hc, hp⟩ | ⟨rfl, hc, hp⟩ | ⟨rfl, hc, hp⟩ | ⟨rfl, hc, hp⟩
    · have HC3 := Lib.hid hc
      have HP3 := Lib.hid hp
      clear hc hp
      go_wp2_with fail
      refine (fr_small E1.out HC3.out HF3.out).mono ?_
      rintro e w4 ⟨rfl, h4, f4, g4⟩
      have HN4 := Lib.hid ((g4.block R (Array.getElem?_eq_some_iff.1 HN3.out).1 (by have := HCL.out; have := HRW.out; omega)).trans HN3.out)
      have hp4 := (g4.block p (Array.getElem?_eq_some_iff.1 HP3.out).1 (by have := HCL.out; have := HPR.out; omega)).trans HP3.out
      have c4 := cell_of_block (o := 1) hp4 rfl
      have z4 := free_of_block 1 hp4
      have hw := (wrote_refl hp4).set 1 (.int .i64 v1)
      have HP5 := Lib.hid (show (w4.setCell ⟨p, 1, none⟩ (.int .i64 v1)).heap[p]? = some (.cells #[.int .i64 v0, .int .i64 v1, .int .i64 0, .int .i64 0, .int .i64 0, .int .i64 0, .int .i64 0, .int .i64 0, .int .i64 0] 46 (0, 0)) from hw.there)
      have HF5 := Lib.hid (f4.set (D := p) (.inr HPR.out.2) 1 (.int .i64 v1))
      have HC5 := Lib.hid (Fr.cur (G := fun j => j = p) h4 (show Fr (fun j => j = p) w4 _ from Fr.set (F := fun j => j = p) (Fr.of_below (Below.refl _ w4)) (D := p) rfl 1 (.int .i64 v1)) (fun j hj _ hjp => by have := hF j hj; have := HPR.out; have := HCL.out; omega))
      have HN5 := Lib.hid ((hw.rest R (by have := HPR.out; omega)).trans HN4.out)
      clear h4 f4 g4 hp4 hw HC3 HF3 HN3 HP3 HN4
      go_wp2_with fail
      go_roundw
      case rel => exact ⟨1, by omega, by rfl, HF5.out, HN5.out, .inr (.inl ⟨rfl, HC5.out, HP5.out⟩)⟩
      case measure => simp [intOf]
    · have HC3 := Lib.hid hc
      have HP3 := Lib.hid hp
      clear hc hp
      go_wp2_with fail
      refine (fr_small E2.out HC3.out HF3.out).mono ?_
      rintro e w4 ⟨rfl, h4, f4, g4⟩
      have HN4 := Lib.hid ((g4.block R (Array.getElem?_eq_some_iff.1 HN3.out).1 (by have := HCL.out; have := HRW.out; omega)).trans HN3.out)
      have hp4 := (g4.block p (Array.getElem?_eq_some_iff.1 HP3.out).1 (by have := HCL.out; have := HPR.out; omega)).trans HP3.out
      have c4 := cell_of_block (o := 2) hp4 rfl
      have z4 := free_of_block 2 hp4
      have hw := (wrote_refl hp4).set 2 (.int .i64 v2)
      have HP5 := Lib.hid (show (w4.setCell ⟨p, 2, none⟩ (.int .i64 v2)).heap[p]? = some (.cells #[.int .i64 v0, .int .i64 v1, .int .i64 v2, .int .i64 0, .int .i64 0, .int .i64 0, .int .i64 0, .int .i64 0, .int .i64 0] 46 (0, 0)) from hw.there)
      have HF5 := Lib.hid (f4.set (D := p) (.inr HPR.out.2) 2 (.int .i64 v2))
      have HC5 := Lib.hid (Fr.cur (G := fun j => j = p) h4 (show Fr (fun j => j = p) w4 _ from Fr.set (F := fun j => j = p) (Fr.of_below (Below.refl _ w4)) (D := p) rfl 2 (.int .i64 v2)) (fun j hj _ hjp => by have := hF j hj; have := HPR.out; have := HCL.out; omega))
      have HN5 := Lib.hid ((hw.rest R (by have := HPR.out; omega)).trans HN4.out)
      clear h4 f4 g4 hp4 hw HC3 HF3 HN3 HP3 HN4
      go_wp2_with fail
      go_roundw
      case rel => exact ⟨2, by omega, by rfl, HF5.out, HN5.out, .inr (.inr (.inl ⟨rfl, HC5.out, HP5.out⟩))⟩
      case measure => simp [intOf]
    · have HC3 := Lib.hid hc
      have HP3 := Lib.hid hp
      clear hc hp
      go_wp2_with fail
      refine (fr_small E3.out HC3.out HF3.out).mono ?_
      rintro e w4 ⟨rfl, h4, f4, g4⟩
      have HN4 := Lib.hid ((g4.block R (Array.getElem?_eq_some_iff.1 HN3.out).1 (by have := HCL.out; have := HRW.out; omega)).trans HN3.out)
      have hp4 := (g4.block p (Array.getElem?_eq_some_iff.1 HP3.out).1 (by have := HCL.out; have := HPR.out; omega)).trans HP3.out
      have c4 := cell_of_block (o := 3) hp4 rfl
      have z4 := free_of_block 3 hp4
      have hw := (wrote_refl hp4).set 3 (.int .i64 v3)
      have HP5 := Lib.hid (show (w4.setCell ⟨p, 3, none⟩ (.int .i64 v3)).heap[p]? = some (.cells #[.int .i64 v0, .int .i64 v1, .int .i64 v2, .int .i64 v3, .int .i64 0, .int .i64 0, .int .i64 0, .int .i64 0, .int .i64 0] 46 (0, 0)) from hw.there)
      have HF5 := Lib.hid (f4.set (D := p) (.inr HPR.out.2) 3 (.int .i64 v3))
      have HC5 := Lib.hid (Fr.cur (G := fun j => j = p) h4 (show Fr (fun j => j = p) w4 _ from Fr.set (F := fun j => j = p) (Fr.of_below (Below.refl _ w4)) (D := p) rfl 3 (.int .i64 v3)) (fun j hj _ hjp => by have := hF j hj; have := HPR.out; have := HCL.out; omega))
      have HN5 := Lib.hid ((hw.rest R (by have := HPR.out; omega)).trans HN4.out)
      clear h4 f4 g4 hp4 hw HC3 HF3 HN3 HP3 HN4
      go_wp2_with fail
      go_roundw
      case rel => exact ⟨3, by omega, by rfl, HF5.out, HN5.out, .inr (.inr (.inr (.inl ⟨rfl, HC5.out, HP5.out⟩)))⟩
      case measure => simp [intOf]
    · have HC3 := Lib.hid hc
      have HP3 := Lib.hid hp
      clear hc hp
      go_wp2_with fail
      refine (fr_small E4.out HC3.out HF3.out).mono ?_
      rintro e w4 ⟨rfl, h4, f4, g4⟩
      have HN4 := Lib.hid ((g4.block R (Array.getElem?_eq_some_iff.1 HN3.out).1 (by have := HCL.out; have := HRW.out; omega)).trans HN3.out)
      have hp4 := (g4.block p (Array.getElem?_eq_some_iff.1 HP3.out).1 (by have := HCL.out; have := HPR.out; omega)).trans HP3.out
      have c4 := cell_of_block (o := 4) hp4 rfl
      have z4 := free_of_block 4 hp4
      have hw := (wrote_refl hp4).set 4 (.int .i64 v4)
      have HP5 := Lib.hid (show (w4.setCell ⟨p, 4, none⟩ (.int .i64 v4)).heap[p]? = some (.cells #[.int .i64 v0, .int .i64 v1, .int .i64 v2, .int .i64 v3, .int .i64 v4, .int .i64 0, .int .i64 0, .int .i64 0, .int .i64 0] 46 (0, 0)) from hw.there)
      have HF5 := Lib.hid (f4.set (D := p) (.inr HPR.out.2) 4 (.int .i64 v4))
      have HC5 := Lib.hid (Fr.cur (G := fun j => j = p) h4 (show Fr (fun j => j = p) w4 _ from Fr.set (F := fun j => j = p) (Fr.of_below (Below.refl _ w4)) (D := p) rfl 4 (.int .i64 v4)) (fun j hj _ hjp => by have := hF j hj; have := HPR.out; have := HCL.out; omega))
      have HN5 := Lib.hid ((hw.rest R (by have := HPR.out; omega)).trans HN4.out)
      clear h4 f4 g4 hp4 hw HC3 HF3 HN3 HP3 HN4
      go_wp2_with fail
      go_roundw
      case rel => exact ⟨4, by omega, by rfl, HF5.out, HN5.out, .inr (.inr (.inr (.inr (.inl ⟨rfl, HC5.out, HP5.out⟩))))⟩
      case measure => simp [intOf]
    · have HC3 := Lib.hid hc
      have HP3 := Lib.hid hp
      clear hc hp
      go_wp2_with fail
      refine (fr_small E5.out HC3.out HF3.out).mono ?_
      rintro e w4 ⟨rfl, h4, f4, g4⟩
      have HN4 := Lib.hid ((g4.block R (Array.getElem?_eq_some_iff.1 HN3.out).1 (by have := HCL.out; have := HRW.out; omega)).trans HN3.out)
      have hp4 := (g4.block p (Array.getElem?_eq_some_iff.1 HP3.out).1 (by have := HCL.out; have := HPR.out; omega)).trans HP3.out
      have c4 := cell_of_block (o := 5) hp4 rfl
      have z4 := free_of_block 5 hp4
      have hw := (wrote_refl hp4).set 5 (.int .i64 v5)
      have HP5 := Lib.hid (show (w4.setCell ⟨p, 5, none⟩ (.int .i64 v5)).heap[p]? = some (.cells #[.int .i64 v0, .int .i64 v1, .int .i64 v2, .int .i64 v3, .int .i64 v4, .int .i64 v5, .int .i64 0, .int .i64 0, .int .i64 0] 46 (0, 0)) from hw.there)
      have HF5 := Lib.hid (f4.set (D := p) (.inr HPR.out.2) 5 (.int .i64 v5))
      have HC5 := Lib.hid (Fr.cur (G := fun j => j = p) h4 (show Fr (fun j => j = p) w4 _ from Fr.set (F := fun j => j = p) (Fr.of_below (Below.refl _ w4)) (D := p) rfl 5 (.int .i64 v5)) (fun j hj _ hjp => by have := hF j hj; have := HPR.out; have := HCL.out; omega))
      have HN5 := Lib.hid ((hw.rest R (by have := HPR.out; omega)).trans HN4.out)
      clear h4 f4 g4 hp4 hw HC3 HF3 HN3 HP3 HN4
      go_wp2_with fail
      go_roundw
      case rel => exact ⟨5, by omega, by rfl, HF5.out, HN5.out, .inr (.inr (.inr (.inr (.inr (⟨rfl, HC5.out, HP5.out⟩)))))⟩
      case measure => simp [intOf]
    · have HC3 := Lib.hid hc
      have HP3 := Lib.hid hp
      clear hc hp
      go_wp2_with fail
      refine (fr_small E6.out HC3.out HF3.out).mono ?_
      rintro e w4 ⟨rfl, h4, f4, g4⟩
      have HN4 := Lib.hid ((g4.block R (Array.getElem?_eq_some_iff.1 HN3.out).1 (by have := HCL.out; have := HRW.out; omega)).trans HN3.out)
      have hp4 := (g4.block p (Array.getElem?_eq_some_iff.1 HP3.out).1 (by have := HCL.out; have := HPR.out; omega)).trans HP3.out
      have c4 := cell_of_block (o := 6) hp4 rfl
      have z4 := free_of_block 6 hp4
      have hw := (wrote_refl hp4).set 6 (.int .i64 v6)
      have HP5 := Lib.hid (show (w4.setCell ⟨p, 6, none⟩ (.int .i64 v6)).heap[p]? = some (.cells #[.int .i64 v0, .int .i64 v1, .int .i64 v2, .int .i64 v3, .int .i64 v4, .int .i64 v5, .int .i64 v6, .int .i64 0, .int .i64 0] 46 (0, 0)) from hw.there)
      have HF5 := Lib.hid (f4.set (D := p) (.inr HPR.out.2) 6 (.int .i64 v6))
      have HC5 := Lib.hid (Fr.cur (G := fun j => j = p) h4 (show Fr (fun j => j = p) w4 _ from Fr.set (F := fun j => j = p) (Fr.of_below (Below.refl _ w4)) (D := p) rfl 6 (.int .i64 v6)) (fun j hj _ hjp => by have := hF j hj; have := HPR.out; have := HCL.out; omega))
      have HN5 := Lib.hid ((hw.rest R (by have := HPR.out; omega)).trans HN4.out)
      clear h4 f4 g4 hp4 hw HC3 HF3 HN3 HP3 HN4
      go_upto_region 8 with fail
      clear c4 z4
      generalize w4.setCell ⟨p, 6, none⟩ (.int .i64 v6) = W5 at *
      go_wp2_with fail
      refine (fr_small E7.out HC5.out HF5.out).mono ?_
      rintro e w6 ⟨rfl, h6, f6, g6⟩
      have HP6 := Lib.hid ((g6.block p (Array.getElem?_eq_some_iff.1 HP5.out).1 (by have := HCL.out; have := HPR.out; omega)).trans HP5.out)
      have HN6 := Lib.hid ((g6.block R (Array.getElem?_eq_some_iff.1 HN5.out).1 (by have := HCL.out; have := HRW.out; omega)).trans HN5.out)
      have HC6 := Lib.hid h6
      have HF6 := Lib.hid f6
      clear h6 f6 g6 HP5 HN5 HC5 HF5
      go_wp2_with fail
      refine (fr_small E8.out HC6.out HF6.out).mono ?_
      rintro e w7 ⟨rfl, h7, f7, g7⟩
      have hp7 := (g7.block p (Array.getElem?_eq_some_iff.1 HP6.out).1 (by have := HCL.out; have := HPR.out; omega)).trans HP6.out
      have HN7 := Lib.hid ((g7.block R (Array.getElem?_eq_some_iff.1 HN6.out).1 (by have := HCL.out; have := HRW.out; omega)).trans HN6.out)
      have c7 := cell_of_block (o := 7) hp7 rfl
      have z7 := free_of_block 7 hp7
      have c8 := cell_of_block (o := 8) hp7 rfl
      have z8 := free_of_block 8 hp7
      have hw := ((wrote_refl hp7).set 7 (.int .i64 v7)).set 8 (.int .i64 v8)
      have HP8 := Lib.hid (show ((w7.setCell ⟨p, 7, none⟩ (.int .i64 v7)).setCell ⟨p, 8, none⟩ (.int .i64 v8)).heap[p]? = some (.cells #[.int .i64 v0, .int .i64 v1, .int .i64 v2, .int .i64 v3, .int .i64 v4, .int .i64 v5, .int .i64 v6, .int .i64 v7, .int .i64 v8] 46 (0, 0)) from hw.there)
      have HF8 := Lib.hid ((f7.set (D := p) (.inr HPR.out.2) 7 (.int .i64 v7)).set (D := p) (.inr HPR.out.2) 8 (.int .i64 v8))
      have HC8 := Lib.hid (Fr.cur (G := fun j => j = p) h7 (show Fr (fun j => j = p) w7 _ from Fr.set (F := fun j => j = p) (Fr.set (F := fun j => j = p) (Fr.of_below (Below.refl _ w7)) (D := p) rfl 7 (.int .i64 v7)) (D := p) rfl 8 (.int .i64 v8)) (fun j hj _ hjp => by have := hF j hj; have := HPR.out; have := HCL.out; omega))
      have HN8 := Lib.hid ((hw.rest R (by have := HPR.out; omega)).trans HN7.out)
      clear h7 f7 g7 hp7 hw HC6 HF6 HN6 HP6 HN7
      go_upto_region 9 with fail
      clear c7 z7 c8 z8
      generalize (w7.setCell ⟨p, 7, none⟩ (.int .i64 v7)).setCell ⟨p, 8, none⟩ (.int .i64 v8) = W8 at *
      have q0 : W8.cell? ⟨p, 0, none⟩ = some (.int .i64 v0) := cell_of_block (o := 0) HP8.out rfl
      have q1 : W8.cell? ⟨p, 1, none⟩ = some (.int .i64 v1) := cell_of_block (o := 1) HP8.out rfl
      have q2 : W8.cell? ⟨p, 2, none⟩ = some (.int .i64 v2) := cell_of_block (o := 2) HP8.out rfl
      have q3 : W8.cell? ⟨p, 3, none⟩ = some (.int .i64 v3) := cell_of_block (o := 3) HP8.out rfl
      have q4 : W8.cell? ⟨p, 4, none⟩ = some (.int .i64 v4) := cell_of_block (o := 4) HP8.out rfl
      have q5 : W8.cell? ⟨p, 5, none⟩ = some (.int .i64 v5) := cell_of_block (o := 5) HP8.out rfl
      have q6 : W8.cell? ⟨p, 6, none⟩ = some (.int .i64 v6) := cell_of_block (o := 6) HP8.out rfl
      have q7 : W8.cell? ⟨p, 7, none⟩ = some (.int .i64 v7) := cell_of_block (o := 7) HP8.out rfl
      have q8 : W8.cell? ⟨p, 8, none⟩ = some (.int .i64 v8) := cell_of_block (o := 8) HP8.out rfl
      refine wp_region_lit ?_
      refine wpList_yield (w' := W8) (v := .agg (vL [v0, v1, v2, v3, v4, v5, v6, v7, v8]).toArray) rfl (by first | (go_simp; done) | (go_simp; rfl)) ?_
      refine wpList_store_all rfl 46 _ _ rfl R (T := 46) (vL [v0, v1, v2, v3, v4, v5, v6, v7, v8]) (by go_simp) (by go_simp) HN8.out (by rfl) (lineInfo rfl) (vL_one _) ?_
      intro w9 hw9
      have HR9 := Lib.hid hw9.there
      have HC9 := Lib.hid (Fr.cur (G := fun j => j = R) HC8.out ⟨hw9.os, hw9.tape, hw9.output, Nat.le_of_eq hw9.size.symm, fun j _ hj => hw9.rest j hj⟩ (fun j hj _ hjp => by have := hF j hj; have := HRW.out; omega))
      have HF9 := Lib.hid (show Fr (fun j => j = C) w w9 from Fr.trans (Fr.refl _ w) (Fr.trans HF8.out (G := fun j => j = R) ⟨hw9.os, hw9.tape, hw9.output, Nat.le_of_eq hw9.size.symm, fun j _ hj => hw9.rest j hj⟩ (fun j hj => .inl (.inr (by have := HRW.out; omega)))) (fun j hj => hj))
      clear hw9 q0 q1 q2 q3 q4 q5 q6 q7 q8
      rename_i hK
      refine hK _ _ ?_
      go_simp
      go_wp2_with fail
      rw [HR.out]
      refine bodyPost_ret (results_all (vL [v0, v1, v2, v3, v4, v5, v6, v7, v8]) _ Tryz.results13 (by go_simp) HR9.out Tryz.underlying46 rfl (lineInfo rfl)) rfl ?_
      exact ⟨by first | (go_simp; done) | simp, HC9.out, HF9.out⟩
end Go.Proofs.YthflogeaielhlaaGreatDoor
namespace Go.Proofs.YthflogeaielhlaaGreatDoor
set_option linter.unusedVariables false
open Go.ChangeShapes Go.WideShapes Go.ChangeAt Go.RowKit Bk
attribute [local go_sem ↓] Go.wp_at_zero Go.wp_at_succ comesTo_value_eq comesTo_skip_eq comesTo_enter_eq

def lastB (L : List LV) : Int := (L.getLast?.map usr).getD 0
def rdB : Nat → CS → List LV → Option (CS × List LV)
  | 0, st, L => some (st, L)
  | n + 1, st, L => if usr (rdL st mosts).2 ≤ lastB L then none else rdB n (rdL st mosts).1 (L ++ [(rdL st mosts).2])
/-- what bytes tell: the half-life and the lines -/
def okB (xs : List Int) : Option (Int × List LV) :=
  if 1 ≤ (intF ⟨xs, 0⟩).2 ∧ (intF ⟨xs, 0⟩).2 ≤ 1099511627776 then
    match rdB (smallF (intF ⟨xs, 0⟩).1 16).2.toNat (smallF (intF ⟨xs, 0⟩).1 16).1 [] with
    | none => none
    | some (st, L) => if endF st = 0 then some ((intF ⟨xs, 0⟩).2, L) else none
  else none
def BReadEnd (w : World) (xs : List Int) (e : Ending) (w' : World) : Prop :=
  (okB xs = none ∧ e = .returned (.tuple #[.pointer none, .int .i64 11]) ∧ Below w.heap.size w w') ∨
  ∃ h L b m, okB xs = some (h, L) ∧ e = .returned (.tuple #[.pointer (some ⟨b, 0, none⟩), .int .i64 0]) ∧ BkAt w' b m h L ∧ w.heap.size ≤ b ∧ w.heap.size ≤ m ∧ Below w.heap.size w w'
theorem rdL_len (st : CS) : ∀ ms, (rdL st ms).2.length = ms.length := fun ms => by
  induction ms generalizing st with
  | nil => rfl
  | cons m ms ih => unfold rdL; simp [ih]
theorem small_bd (st : CS) {m : Int} (hm : 0 ≤ m) : 0 ≤ (smallF st m).2 ∧ (smallF st m).2 ≤ m := by
  unfold smallF
  split
  · exact ⟨Int.le_refl _, hm⟩
  · omega
theorem rdL_usr (st : CS) : usr (rdL st mosts).2 = (smallF st 16).2 := rfl
theorem putB_end {x : LV} : ∀ {L : List LV}, (∀ l ∈ L, usr l < usr x) → putB L x = L ++ [x]
  | [], _ => rfl
  | y :: L, h => by
    have h1 := h y List.mem_cons_self
    unfold putB
    rw [if_neg (by omega), if_neg (by omega), putB_end fun l hl => h l (List.mem_cons_of_mem _ hl)]
    rfl
theorem last_le {L : List LV} (h : BG L) : ∀ l ∈ L, usr l ≤ lastB L := by
  intro l hl
  obtain ⟨M, z, rfl⟩ : ∃ M z, L = M ++ [z] := ⟨L.dropLast, L.getLast (by intro h0; rw [h0] at hl; cases hl), (List.dropLast_concat_getLast _).symm⟩
  have h1 := (List.pairwise_append.1 h.up).2.2
  unfold lastB
  rw [List.getLast?_append]
  simp only [List.getLast?_singleton, Option.some_or, Option.map_some, Option.getD_some]
  rcases List.mem_append.1 hl with h2 | h2
  · exact Int.le_of_lt (h1 l h2 z List.mem_cons_self)
  · rw [List.mem_singleton.1 h2]; exact Int.le_refl _
theorem last_app (L : List LV) (x : LV) : lastB (L ++ [x]) = usr x := by unfold lastB; simp
theorem last_ge {L : List LV} (h : BG L) : 0 ≤ lastB L := by
  cases L with
  | nil => decide
  | cons y L =>
    have h1 := last_le h y List.mem_cons_self
    have h2 := (h.all y List.mem_cons_self).2.1
    omega
theorem bnew_bad (h : Int) (hh : ¬ (1 ≤ h ∧ h ≤ 1099511627776)) (w : World) : Calls Tryz.prog 10 #[.int .i64 h] w fun e w' => e = .returned (.tuple #[.pointer none, .int .i64 2]) ∧ w' = w := by
  by_cases h1 : h < 1
  · have d1 : decide (h < 1) = true := decide_eq_true h1
    clear hh h1
    go_enter Tryz.func10, Tryz.ntmps10
    go_wp2
    go_ret2
    exact ⟨by simp, rfl⟩
  · have d1 : decide (h < 1) = false := decide_eq_false h1
    have d2 : decide (h > 1099511627776) = true := decide_eq_true (by omega)
    have d3 : decide (1099511627776 < h) = true := decide_eq_true (by omega)
    clear hh h1
    go_enter Tryz.func10, Tryz.ntmps10
    go_wp2
    go_ret2
    exact ⟨by simp, rfl⟩
set_option maxRecDepth 100000 in
set_option maxHeartbeats 4000000 in
theorem bread_any {w : World} {v : Value} {xs : List Int} (h : TxtAt w v xs) (hl : xs.length ≤ 1099511627775) (hE : ErrAt w) :
    Calls Tryz.prog 4 #[v] w fun e w' => BReadEnd w xs e w' := by
  have hmx : Tryz.prog.follows .mixedOrders = true := by kernel_rfl
  have KR := Lib.hid (read_cur h hl)
  have HE := Lib.hid (fun X (hX : Below w.heap.size w X) => hE.below hX)
  have HNO := Lib.hid (fun (hh : okB xs = none) e w' (he : e = .returned (.tuple #[.pointer none, .int .i64 11])) (hb : Below w.heap.size w w') => (.inl ⟨hh, he, hb⟩ : BReadEnd w xs e w'))
  have HYES := Lib.hid (fun hf L b m e w' (hh : okB xs = some (hf, L)) (he : e = .returned (.tuple #[.pointer (some ⟨b, 0, none⟩), .int .i64 0])) (hB : BkAt w' b m hf L) (h1 : w.heap.size ≤ b) (h2 : w.heap.size ≤ m) (hb : Below w.heap.size w w') => (.inr ⟨hf, L, b, m, hh, he, hB, h1, h2, hb⟩ : BReadEnd w xs e w'))
  obtain ⟨s1, hf, e1⟩ : ∃ s v, intF ⟨xs, 0⟩ = (s, v) := ⟨_, _, rfl⟩
  obtain ⟨s2, n, e2⟩ : ∃ s v, smallF s1 16 = (s, v) := ⟨_, _, rfl⟩
  have hnb := small_bd s1 (m := 16) (by decide)
  rw [e2] at hnb
  have HOK := Lib.hid (show okB xs = if 1 ≤ hf ∧ hf ≤ 1099511627776 then (match rdB n.toNat s2 [] with | none => none | some (st, L) => if endF st = 0 then some (hf, L) else none) else none from by unfold okB; rw [e1]; dsimp only; rw [e2])
  have E1 := Lib.hid e1
  have E2 := Lib.hid e2
  have HNB := Lib.hid (show 0 ≤ n ∧ n ≤ 16 from hnb)
  clear h hl hE e1 e2 hnb
  go_enter Tryz.func4, Tryz.ntmps4
  go_wp2_with fail
  refine KR.out.mono ?_
  rintro e w1 ⟨C, rfl, hc, hb⟩
  have hct := hc.tight
  have HFF := Lib.hid (fun j (hj : w.heap.size ≤ j ∧ j < w1.heap.size) => hj.2)
  have HC1 := Lib.hid hct
  have HB1 := Lib.hid hb
  have HCL := Lib.hid (show w.heap.size ≤ C ∧ C < w1.heap.size from hct.mem)
  clear hc hb hct KR
  have KI := Lib.hid (int_cur HC1.out)
  rw [E1.out] at KI
  go_wp2_with fail
  refine KI.out.mono ?_
  rintro e w2 ⟨rfl, h2, f2⟩
  have HC2 := Lib.hid h2
  have HS2 := Lib.hid f2.size
  have HB2 := Lib.hid (HB1.out.trans (f2.below (B := w.heap.size) HB1.out.size (fun j hj => by have := HCL.out; omega)))
  clear h2 f2 KI
  by_cases hfo : 1 ≤ hf ∧ hf ≤ 1099511627776
  · rw [if_pos hfo] at HOK
    have KN := Lib.hid (bnew_any hf hfo.1 hfo.2 w2)
    clear hfo
    go_wp2_with fail
    refine KN.out.mono ?_
    rintro e w3 ⟨rfl, h3, b3⟩
    obtain ⟨b, hbb⟩ : ∃ b, b = w2.heap.size + 1 := ⟨_, rfl⟩
    obtain ⟨m, hmm⟩ : ∃ m, m = w2.heap.size := ⟨_, rfl⟩
    have HBK := Lib.hid h3
    rw [← hbb] at HBK ⊢
    rw [← hmm] at HBK
    have HBM := Lib.hid (show w1.heap.size ≤ m ∧ w1.heap.size ≤ b ∧ w.heap.size ≤ w1.heap.size from by have := HS2.out; have := HB1.out.size; omega)
    have HC3 := Lib.hid (HC2.out.below b3)
    have HB3 := Lib.hid (below_next HB2.out b3)
    have HS3 := Lib.hid (Nat.le_trans HS2.out b3.size)
    clear hbb hmm h3 b3 HC2 HB2 HS2 KN
    have KS := Lib.hid (small_cur HC3.out 16)
    rw [E2.out] at KS
    go_wp2_with fail
    refine KS.out.mono ?_
    rintro e w4 ⟨rfl, h4, f4⟩
    have HC4 := Lib.hid h4
    have HB4 := Lib.hid (HB3.out.trans (f4.below (B := w.heap.size) HB3.out.size (fun j hj => by have := HCL.out; omega)))
    have HS4 := Lib.hid (Nat.le_trans HS3.out f4.size)
    have HBK4 := Lib.hid (HBK.out.keep (f4.block b HBK.out.lt.1 (by have := HCL.out; have := HBM.out; omega)) (f4.block m HBK.out.lt.2 (by have := HCL.out; have := HBM.out; omega)))
    clear h4 f4 HC3 HB3 HS3 HBK KS
    go_wp2_with fail
    obtain ⟨N, hN⟩ : ∃ N : Nat, n = (N : Int) := ⟨n.toNat, by have := HNB.out; omega⟩
    subst hN
    rw [Int.toNat_natCast] at HOK
    go_loopw [21, 7] (fun i la wr => ∃ (k : Nat) (st : CS) (L : List LV), k ≤ N ∧ i = .int .i64 k ∧ la = .int .i64 (lastB L) ∧ Cur wr C (fun j => w.heap.size ≤ j ∧ j < w1.heap.size) st ∧ BkAt wr b m hf L ∧ w1.heap.size ≤ wr.heap.size ∧ Below w.heap.size w wr ∧ rdB N s2 [] = rdB (N - k) st L) (fun i _ _ => N - (intOf i).toNat)
    case atStart => exact ⟨0, s2, [], Nat.zero_le _, rfl, rfl, HC4.out, HBK4.out, HS4.out, HB4.out, rfl⟩
    case round =>
      obtain ⟨k, st, L, hk, rfl, rfl, hc, hB, hs, hb, hr⟩ := hrel
      have HC5 := Lib.hid hc
      have HBK5 := Lib.hid hB
      have HS5 := Lib.hid hs
      have HB5 := Lib.hid hb
      have HR5 := Lib.hid hr
      clear hc hB hs hb hr HC4 HBK4 HS4 HB4
      by_cases hlt : k < N
      · have hd2 : decide ((k : Int) < (N : Int)) = true := decide_eq_true (by omega)
        have hkI : (k : Int) < (N : Int) := by omega
        have hw1 : IntKind.i64.wrap ((k : Int) + 1) = (k : Int) + 1 := by have := HNB.out; rw [IntKind.wrap_i64]; omega
        obtain ⟨q, hq⟩ : ∃ q, q = N - (k + 1) := ⟨_, rfl⟩
        have HR6 := Lib.hid (show rdB N s2 [] = if usr (rdL st mosts).2 ≤ lastB L then none else rdB q (rdL st mosts).1 (L ++ [(rdL st mosts).2]) from by rw [HR5.out, show N - k = q + 1 by omega]; rfl)
        have HQ := Lib.hid hq
        clear hq HR5
        have KL := rline_cur HC5.out (fun j hj => Nat.lt_of_lt_of_le hj.2 HS5.out)
        have hub := small_bd st (m := 16) (by decide)
        rw [← rdL_usr st] at hub
        have hxl : (rdL st mosts).2.length = 9 := by rw [rdL_len]; rfl
        obtain ⟨st', x, ex⟩ : ∃ s x, rdL st mosts = (s, x) := ⟨_, _, rfl⟩
        rw [ex] at HR6 KL hub hxl
        dsimp only at HR6 KL hub hxl
        have HXL := Lib.hid hxl
        obtain ⟨a0, a1, a2, a3, a4, a5, a6, a7, a8, e9⟩ := nine hxl
        have hu0 : usr x = a0 := by rw [e9]; rfl
        have HX9 := Lib.hid e9
        have HU0 := Lib.hid hu0
        have KL2 : Hid (Calls Tryz.prog 13 #[.pointer (some ⟨C, 0, none⟩)] wr fun e w' => e = .returned (.agg #[.int .i64 a0, .int .i64 a1, .int .i64 a2, .int .i64 a3, .int .i64 a4, .int .i64 a5, .int .i64 a6, .int .i64 a7, .int .i64 a8]) ∧ Cur w' C (fun j => w.heap.size ≤ j ∧ j < w1.heap.size) st' ∧ Fr (fun j => j = C) wr w') := by rw [e9] at KL; exact KL
        rw [hu0] at HR6 hub
        have HUB := Lib.hid hub
        clear KL hxl ex e9 hu0 hub
        go_wp2_with fail
        refine KL2.out.mono ?_
        rintro e w6 ⟨rfl, h6, f6⟩
        have b7 := below_alloc (Below.refl _ w6) (.cells #[.int .i64 a0, .int .i64 a1, .int .i64 a2, .int .i64 a3, .int .i64 a4, .int .i64 a5, .int .i64 a6, .int .i64 a7, .int .i64 a8] 46)
        have HP7 := Lib.hid (World.alloc_heap_new w6 (.cells #[.int .i64 a0, .int .i64 a1, .int .i64 a2, .int .i64 a3, .int .i64 a4, .int .i64 a5, .int .i64 a6, .int .i64 a7, .int .i64 a8] 46))
        have HC7 := Lib.hid (h6.below b7)
        have HBK6 := HBK5.out.keep (f6.block b HBK5.out.lt.1 (by have := HCL.out; have := HBM.out; omega)) (f6.block m HBK5.out.lt.2 (by have := HCL.out; have := HBM.out; omega))
        have HBK7 := Lib.hid (HBK6.below b7)
        have HMP := Lib.hid (show m < w6.heap.size from HBK6.lt.2)
        have HB7 := Lib.hid (below_next (HB5.out.trans (f6.below (B := w.heap.size) HB5.out.size (fun j hj => by have := HCL.out; omega))) b7)
        have HS7 := Lib.hid (Nat.le_trans (Nat.le_trans HS5.out f6.size) b7.size)
        clear h6 f6 b7 HC5 HBK5 HB5 HS5 HBK6 KL2
        go_upto_region 9 with fail
        generalize w6.alloc (.cells #[.int .i64 a0, .int .i64 a1, .int .i64 a2, .int .i64 a3, .int .i64 a4, .int .i64 a5, .int .i64 a6, .int .i64 a7, .int .i64 a8] 46) = W7 at *
        generalize w6.heap.size = p at *
        have p0 : W7.cell? ⟨p, 0, none⟩ = some (.int .i64 a0) := cell_of_block (o := 0) HP7.out rfl
        obtain ⟨la, hla⟩ : ∃ la, la = lastB L := ⟨_, rfl⟩
        have HLA := Lib.hid hla
        rw [← hla] at HR6 ⊢
        clear hla
        by_cases hle : a0 ≤ la
        · have hd : decide (a0 ≤ la) = true := decide_eq_true hle
          rw [if_pos hle] at HR6
          have HZ := Lib.hid (show okB xs = none from by rw [HOK.out, HR6.out])
          clear hle
          go_wp2_with fail
          go_ret2
          exact HNO.out HZ.out _ _ (by simp) HB7.out
        · have hd : decide (a0 ≤ la) = false := decide_eq_false hle
          rw [if_neg hle] at HR6
          have HPE := Lib.hid (show putB L x = L ++ [x] from putB_end fun l hl => by have := last_le HBK7.out.good l hl; have := HU0.out; have := HLA.out; omega)
          have HU1 := Lib.hid (show 1 ≤ usr x ∧ usr x ≤ 16 from by have := last_ge HBK7.out.good; have := HU0.out; have := HLA.out; have := HUB.out; omega)
          clear hle
          go_upto_region 12 with fail
          clear p0
          refine wp_region_held (S := fun X => X.cell? ⟨b, 1, none⟩ = some (.map (some m)) ∧ X.heap[p]? = some (.cells #[.int .i64 a0, .int .i64 a1, .int .i64 a2, .int .i64 a3, .int .i64 a4, .int .i64 a5, .int .i64 a6, .int .i64 a7, .int .i64 a8] 46 (0, 0))) hmx ?_
          change wpAnyH _ _ _ _ _ 8 _ _ W7.drew
          have HD := Lib.hid (show Below W7.heap.size W7 W7.drew from (Below.refl _ _).drew)
          generalize W7.drew = wd at *
          have HBKd := Lib.hid (HBK7.out.below HD.out)
          have HCd := Lib.hid (HC7.out.below HD.out)
          have HBd := Lib.hid (below_next HB7.out HD.out)
          have HSd := Lib.hid (Nat.le_trans HS7.out HD.out.size)
          have hS : wd.cell? ⟨b, 1, none⟩ = some (.map (some m)) ∧ wd.heap[p]? = some (.cells #[.int .i64 a0, .int .i64 a1, .int .i64 a2, .int .i64 a3, .int .i64 a4, .int .i64 a5, .int .i64 a6, .int .i64 a7, .int .i64 a8] 46 (0, 0)) := ⟨cell_of_block (o := 1) HBKd.out.blk rfl, (HD.out.block p (Array.getElem?_eq_some_iff.1 HP7.out).1).trans HP7.out⟩
          clear HD HBK7 HC7 HB7 HS7 HP7
          (refine wpAnyH_take (i := 0) (v := .pointer (some ⟨b, 0, none⟩)) rfl (by decide +kernel) (by decide +kernel) (by decide +kernel) (fun _ _ _ h => h) (.inl ⟨by first | rfl | (go_simp; done), fun X hX => by obtain ⟨hx0, hx1⟩ := hX; first | (go_simp; done) | (go_simp; rfl)⟩) hS ?_)
          (refine wpAnyH_take (i := 1) (v := .pointer (some ⟨b, 0, none⟩)) rfl (by decide +kernel) (by decide +kernel) (by decide +kernel) (fun _ _ _ h => h) (.inl ⟨by first | rfl | (go_simp; done), fun X hX => by obtain ⟨hx0, hx1⟩ := hX; first | (go_simp; done) | (go_simp; rfl)⟩) hS ?_)
          (refine wpAnyH_take (i := 2) (v := .pointer (some ⟨b, 1, none⟩)) rfl (by decide +kernel) (by decide +kernel) (by decide +kernel) (fun _ _ _ h => h) (.inl ⟨by first | rfl | (go_simp; done), fun X hX => by obtain ⟨hx0, hx1⟩ := hX; first | (go_simp; done) | (go_simp; rfl)⟩) hS ?_)
          (refine wpAnyH_take (i := 3) (v := .map (some m)) rfl (by decide +kernel) (by decide +kernel) (by decide +kernel) (fun _ _ _ h => h) (.inl ⟨by first | rfl | (go_simp; done), fun X hX => by obtain ⟨hx0, hx1⟩ := hX; first | (go_simp; done) | (go_simp; rfl)⟩) hS ?_)
          (refine wpAnyH_take (i := 4) (v := .pointer (some ⟨p, 0, none⟩)) rfl (by decide +kernel) (by decide +kernel) (by decide +kernel) (fun _ _ _ h => h) (.inl ⟨by first | rfl | (go_simp; done), fun X hX => by obtain ⟨hx0, hx1⟩ := hX; first | (go_simp; done) | (go_simp; rfl)⟩) hS ?_)
          refine wpAnyH_take (i := 5) (v := .int .i64 a0) rfl (by decide +kernel) (by decide +kernel) (by decide +kernel) (fun _ _ _ h => h) (.inl ⟨by first | rfl | (go_simp; done), fun X hX => by
            have q0 : X.cell? ⟨p, 0, none⟩ = some (.int .i64 a0) := cell_of_block (o := 0) hX.2 rfl
            clear hX
            first | (go_simp; done) | (go_simp; rfl)⟩) hS ?_
          refine wpAnyH_take (i := 6) (v := .agg #[.int .i64 a0, .int .i64 a1, .int .i64 a2, .int .i64 a3, .int .i64 a4, .int .i64 a5, .int .i64 a6, .int .i64 a7, .int .i64 a8]) rfl (by decide +kernel) (by decide +kernel) (by decide +kernel) (fun _ _ _ h => h) (.inl ⟨by first | rfl | (go_simp; done), fun X hX => exec_load_allH 46 _ rfl p [.int .i64 a0, .int .i64 a1, .int .i64 a2, .int .i64 a3, .int .i64 a4, .int .i64 a5, .int .i64 a6, .int .i64 a7, .int .i64 a8] _ (by go_simp) hX.2 Tryz.underlying46 rfl (lineInfo (l := [a0, a1, a2, a3, a4, a5, a6, a7, a8]) rfl)⟩) hS ?_
          obtain ⟨w8, e8, h8, g8⟩ := HBKd.out.upd HXL.out HU1.out.1 HU1.out.2
          rw [HU0.out, HX9.out] at e8
          rw [HPE.out] at h8
          have HBK8 := Lib.hid h8
          have hS8 : w8.cell? ⟨b, 1, none⟩ = some (.map (some m)) ∧ w8.heap[p]? = some (.cells #[.int .i64 a0, .int .i64 a1, .int .i64 a2, .int .i64 a3, .int .i64 a4, .int .i64 a5, .int .i64 a6, .int .i64 a7, .int .i64 a8] 46 (0, 0)) := ⟨cell_of_block (o := 1) h8.blk rfl, (g8.block p (Array.getElem?_eq_some_iff.1 hS.2).1 (by have := HMP.out; intro h9; injection h9 with h9; omega)).trans hS.2⟩
          have HFm := (show Fr (fun j => j = m) wd w8 from ⟨g8.os, g8.tape, g8.output, g8.size, fun j hj hne => g8.block j hj (by intro h9; injection h9 with h9; exact hne h9)⟩)
          have HC8 := Lib.hid (Fr.cur (G := fun j => j = m) HCd.out HFm (fun j hj _ hjm => by have := HBM.out; omega))
          have HB8 := Lib.hid (HBd.out.trans (HFm.below (B := w.heap.size) HBd.out.size (fun j hj => by have := HBM.out; omega)))
          have HS8 := Lib.hid (Nat.le_trans HSd.out g8.size)
          refine anyH_store (i := 7) (w' := w8) (by decide +kernel) rfl rfl (exec_mapUpdate 48 _ _ _ rfl (by go_simp) (by go_simp) (by first | (go_simp; done) | (go_simp; rfl)) e8) hS8 ?_
          refine wpAnyH_done (by decide +kernel) ?_ _
          clear hS hS8 e8 h8 g8 HFm HBKd HCd HBd HSd
          go_simp
          go_wp2_with fail
          go_roundw
          case rel => exact ⟨k + 1, st', L ++ [x], by omega, by go_num, by rw [last_app, HU0.out], HC8.out, HBK8.out, HS8.out, HB8.out, by rw [HR6.out, HQ.out]⟩
          case measure => simp [intOf]; omega
      · have hke : k = N := by omega
        subst hke
        have hd2 : decide ((k : Int) < (k : Int)) = false := decide_eq_false (by omega)
        rw [Nat.sub_self] at HR5
        have HR6 := Lib.hid (show rdB k s2 [] = some (st, L) from HR5.out)
        rw [HR6.out] at HOK
        dsimp only at HOK
        have KE := Lib.hid (end_cur HC5.out (HE.out _ HB5.out))
        clear hlt hk
        by_cases hen : endF st = 0
        · rw [if_pos hen] at HOK
          rw [hen] at KE
          clear hen
          go_wp2_with fail
          refine KE.out.mono ?_
          rintro e w9 ⟨rfl, b9⟩
          have HBK9 := Lib.hid (HBK5.out.below b9)
          have HB9 := Lib.hid (below_next HB5.out b9)
          clear b9 HBK5 HB5 HC5 KE
          go_wp2_with fail
          go_ret2
          exact HYES.out hf L b m _ _ HOK.out (by simp) HBK9.out (by have := HBM.out; omega) (by have := HBM.out; omega) HB9.out
        · rw [if_neg hen] at HOK
          have hbe : (endF st == 0) = false := by simpa using hen
          clear hen
          generalize endF st = en at *
          go_wp2_with fail
          refine KE.out.mono ?_
          rintro e w9 ⟨rfl, b9⟩
          have HB9 := Lib.hid (below_next HB5.out b9)
          clear b9 HBK5 HB5 HC5 KE
          go_wp2_with fail
          go_ret2
          exact HNO.out HOK.out _ _ (by simp) HB9.out
  · rw [if_neg hfo] at HOK
    have KN := Lib.hid (bnew_bad hf hfo w2)
    clear hfo
    go_wp2_with fail
    refine KN.out.mono ?_
    rintro e w3 ⟨rfl, hw⟩
    obtain rfl := hw
    go_wp2_with fail
    go_ret2
    exact HNO.out HOK.out _ _ (by simp) HB2.out
end Go.Proofs.YthflogeaielhlaaGreatDoor
namespace Go.Proofs.YthflogeaielhlaaGreatDoor
set_option linter.unusedVariables false
open Go.ChangeShapes Go.WideShapes Go.ChangeAt Go.RowKit Bk
attribute [local go_sem ↓] Go.wp_at_zero Go.wp_at_succ comesTo_value_eq comesTo_skip_eq comesTo_enter_eq

def i64B (x : Int) : Prop := -9223372036854775808 ≤ x ∧ x ≤ 9223372036854775807
def putsB (l : List Int) : List Int := l.flatMap putI
theorem putsB_app (l m : List Int) : putsB (l ++ m) = putsB l ++ putsB m := by unfold putsB; rw [List.flatMap_append]
theorem putsB_one (x : Int) : putsB [x] = putI x := by unfold putsB; simp
/-- the box of the bytes, and a row of its own behind it -/
structure LayB (B : Nat) (xs : List Int) (wr : World) : Prop where
  ex : ∃ a n c, wr.heap[B]? = some (.cells #[.slice a n c] 22 (0, 0)) ∧ OwnTxt wr (B + 1) (.slice a n c) xs
/-- of the blocks that were there just B may have turned -/
def FrB (B : Nat) (w w' : World) : Prop := Fr (fun j => j = B) w w'
set_option maxRecDepth 100000 in
set_option maxHeartbeats 2000000 in
theorem layn_any {w : World} {B : Nat} {xs : List Int} (h : LayB B xs w) (hl : xs.length ≤ 100000) {x : Int} (hx : i64B x) :
    Calls Tryz.prog 35 #[.int .i64 x, .pointer (some ⟨B, 0, none⟩)] w fun e w' => e = .returned (.tuple #[]) ∧ LayB B (xs ++ putI x) w' ∧ FrB B w w' := by
  obtain ⟨a, n, c, hv, ho⟩ := h.ex
  have KP := Lib.hid (putint_any ho.at (by omega) hx)
  have b0 := cell_of_block (o := 0) hv rfl
  have HV := Lib.hid hv
  clear h hv ho hl hx
  go_enter Tryz.func35, Tryz.ntmps35
  go_wp2_with fail
  refine KP.out.mono ?_
  rintro e w2 ⟨u, rfl, hu, hb⟩
  have hlt2 := (Array.getElem?_eq_some_iff.1 HV.out).1
  have hV2 := (hb.block _ hlt2).trans HV.out
  have d0 := cell_of_block (o := 0) hV2 rfl
  have e0 := free_of_block 0 hV2
  have hw := (wrote_refl hV2).set 0 u
  have HU := Lib.hid ((hu.base (B' := B + 1) (by omega)).of_block (fun g hg => hw.rest g (by have := hu.blockGe hg; omega)))
  have HFR := Lib.hid (show FrB B w _ from ((Fr.of_below (F := fun j => j = B) hb)).set (D := B) rfl 0 u)
  obtain ⟨ua, uc, hue, _⟩ := hu.shape
  have HTH := Lib.hid (show (w2.setCell ⟨B, 0, none⟩ u).heap[B]? = some (.cells #[u] 22 (0, 0)) from hw.there)
  subst hue
  clear hu hb hV2 hw hlt2 b0 HV KP
  generalize (xs ++ putI x).length = nn at *
  go_wp2_with fail
  go_end0
  exact ⟨rfl, ⟨_, _, _, HTH.out, HU.out⟩, HFR.out⟩
theorem FrB.trans {B : Nat} {a b c : World} (h : FrB B a b) (k : FrB B b c) : FrB B a c := Fr.trans h k (fun _ h => .inl h)
theorem FrB.stays {B : Nat} {w w' : World} (h : FrB B w w') {j : Nat} {o : Obj} (hj : w.heap[j]? = some o) (hne : j ≠ B) : w'.heap[j]? = some o := (h.block j (Array.getElem?_eq_some_iff.1 hj).1 hne).trans hj
theorem putI_le {x : Int} (h : i64B x) : (putI x).length ≤ 10 := putI_len h
theorem putsB_len : ∀ m : List Int, (∀ x ∈ m, i64B x) → (putsB m).length ≤ 10 * m.length := fun m => by
  unfold putsB
  induction m with
  | nil => simp
  | cons y m ih =>
    intro hm
    have h1 := ih fun z hz => hm z (List.mem_cons_of_mem _ hz)
    have h2 := putI_le (hm y List.mem_cons_self)
    simp only [List.flatMap_cons, List.length_append, List.length_cons]
    omega
theorem idx5_0 (a1 a2 a3 a4 a5 : Int) (W : World) : (Instr.index 42 (.agg #[.int .i64 a1, .int .i64 a2, .int .i64 a3, .int .i64 a4, .int .i64 a5]) (.int .i64 0)).run Tryz.prog W = .ok (.int .i64 a1) W := by kernel_rfl
theorem idx5_1 (a1 a2 a3 a4 a5 : Int) (W : World) : (Instr.index 42 (.agg #[.int .i64 a1, .int .i64 a2, .int .i64 a3, .int .i64 a4, .int .i64 a5]) (.int .i64 1)).run Tryz.prog W = .ok (.int .i64 a2) W := by kernel_rfl
theorem idx5_2 (a1 a2 a3 a4 a5 : Int) (W : World) : (Instr.index 42 (.agg #[.int .i64 a1, .int .i64 a2, .int .i64 a3, .int .i64 a4, .int .i64 a5]) (.int .i64 2)).run Tryz.prog W = .ok (.int .i64 a3) W := by kernel_rfl
theorem idx5_3 (a1 a2 a3 a4 a5 : Int) (W : World) : (Instr.index 42 (.agg #[.int .i64 a1, .int .i64 a2, .int .i64 a3, .int .i64 a4, .int .i64 a5]) (.int .i64 3)).run Tryz.prog W = .ok (.int .i64 a4) W := by kernel_rfl
theorem idx5_4 (a1 a2 a3 a4 a5 : Int) (W : World) : (Instr.index 42 (.agg #[.int .i64 a1, .int .i64 a2, .int .i64 a3, .int .i64 a4, .int .i64 a5]) (.int .i64 4)).run Tryz.prog W = .ok (.int .i64 a5) W := by kernel_rfl
set_option maxRecDepth 100000 in
set_option maxHeartbeats 4000000 in
/-- a line is laid -/
theorem layl_any {w : World} {B Q : Nat} {xs : List Int} (h : LayB B xs w) (hQ : w.heap[Q]? = some (.cells #[.func (.func 35) #[] #[.pointer (some ⟨B, 0, none⟩)]] 85 (0, 0))) (hne : Q ≠ B) (hl : xs.length ≤ 50000) {l : LV} (hl9 : l.length = 9) (hx : ∀ x ∈ l, i64B x) :
    Calls Tryz.prog 37 #[.agg (vL l).toArray, .pointer (some ⟨Q, 0, none⟩)] w fun e w' => e = .returned (.tuple #[]) ∧ LayB B (xs ++ putsB l) w' ∧ FrB B w w' := by
  obtain ⟨a0, a1, a2, a3, a4, a5, a6, a7, a8, rfl⟩ := nine hl9
  have HX := Lib.hid hx
  have hE := enters_of (P := Tryz.prog) Tryz.func35 (by kernel_rfl) rfl
  unfold Go.Proofs.Enters at hE
  have HL := Lib.hid hl
  have b3 := below_alloc (Below.refl _ w) (.cells #[.int .i64 a0, .int .i64 a1, .int .i64 a2, .int .i64 a3, .int .i64 a4, .int .i64 a5, .int .i64 a6, .int .i64 a7, .int .i64 a8] 46)
  have HP := Lib.hid (World.alloc_heap_new w (.cells #[.int .i64 a0, .int .i64 a1, .int .i64 a2, .int .i64 a3, .int .i64 a4, .int .i64 a5, .int .i64 a6, .int .i64 a7, .int .i64 a8] 46))
  have HQ := Lib.hid ((b3.block Q (Array.getElem?_eq_some_iff.1 hQ).1).trans hQ)
  obtain ⟨sa, sn, sc, hv, ho⟩ := h.ex
  have HH := Lib.hid (show LayB B xs _ from ⟨sa, sn, sc, (b3.block B (Array.getElem?_eq_some_iff.1 hv).1).trans hv, ho.below b3⟩)
  have HF := Lib.hid (show FrB B w _ from Fr.of_below (F := fun j => j = B) b3)
  have HPB := Lib.hid (show w.heap.size ≠ B from by have := (Array.getElem?_eq_some_iff.1 hv).1; omega)
  have HQB := Lib.hid hne
  clear h hQ hne hl hl9 hx b3 hv ho
  show Calls Tryz.prog 37 #[.agg #[.int .i64 a0, .int .i64 a1, .int .i64 a2, .int .i64 a3, .int .i64 a4, .int .i64 a5, .int .i64 a6, .int .i64 a7, .int .i64 a8], .pointer (some ⟨Q, 0, none⟩)] w _
  go_enter Tryz.func37, Tryz.ntmps37
  go_upto_region 1 with fail
  generalize w.alloc (.cells #[.int .i64 a0, .int .i64 a1, .int .i64 a2, .int .i64 a3, .int .i64 a4, .int .i64 a5, .int .i64 a6, .int .i64 a7, .int .i64 a8] 46) = W1 at *
  generalize w.heap.size = p at *
  have cQ : W1.cell? ⟨Q, 0, none⟩ = some (.func (.func 35) #[] #[.pointer (some ⟨B, 0, none⟩)]) := cell_of_block (o := 0) HQ.out rfl
  have c0 : W1.cell? ⟨p, 0, none⟩ = some (.int .i64 a0) := cell_of_block (o := 0) HP.out rfl
  have KL := Lib.hid (layn_any HH.out (by have := HL.out; omega) (HX.out a0 (by simp)))
  go_wp2_with fail
  refine KL.out.mono ?_
  rintro e w2 ⟨rfl, h2, f2⟩
  have HH2 := Lib.hid h2
  have HQ2 := Lib.hid (f2.stays HQ.out HQB.out)
  have HP2 := Lib.hid (f2.stays HP.out HPB.out)
  have HF2 := Lib.hid (HF.out.trans f2)
  clear h2 f2 cQ c0 KL HH HQ HP HF
  have d1 : w2.cell? ⟨p, 1, none⟩ = some (.int .i64 a1) := cell_of_block (o := 1) HP2.out rfl
  have d2 : w2.cell? ⟨p, 2, none⟩ = some (.int .i64 a2) := cell_of_block (o := 2) HP2.out rfl
  have d3 : w2.cell? ⟨p, 3, none⟩ = some (.int .i64 a3) := cell_of_block (o := 3) HP2.out rfl
  have d4 : w2.cell? ⟨p, 4, none⟩ = some (.int .i64 a4) := cell_of_block (o := 4) HP2.out rfl
  have d5 : w2.cell? ⟨p, 5, none⟩ = some (.int .i64 a5) := cell_of_block (o := 5) HP2.out rfl
  go_wp2_with fail
  clear d1 d2 d3 d4 d5
  go_loopw [11] (fun i wr => ∃ k : Nat, k ≤ 5 ∧ i = .int .i64 k ∧ LayB B (xs ++ putI a0 ++ putsB ([a1, a2, a3, a4, a5].take k)) wr ∧ wr.heap[Q]? = some (.cells #[.func (.func 35) #[] #[.pointer (some ⟨B, 0, none⟩)]] 85 (0, 0)) ∧ wr.heap[p]? = some (.cells #[.int .i64 a0, .int .i64 a1, .int .i64 a2, .int .i64 a3, .int .i64 a4, .int .i64 a5, .int .i64 a6, .int .i64 a7, .int .i64 a8] 46 (0, 0)) ∧ FrB B w wr) (fun i _ => 5 - (intOf i).toNat)
  case atStart => exact ⟨0, Nat.zero_le _, rfl, by simpa [putsB] using HH2.out, HQ2.out, HP2.out, HF2.out⟩
  case round =>
    obtain ⟨k, hk, rfl, h3, q3, p3, f3⟩ := hrel
    have HH3 := Lib.hid h3
    have HQ3 := Lib.hid q3
    have HP3 := Lib.hid p3
    have HF3 := Lib.hid f3
    clear h3 q3 p3 f3 HH2 HQ2 HP2 HF2
    have hlx : ([a1, a2, a3, a4, a5].take k).length ≤ 5 := by rw [List.length_take]; omega
    have hpl : (putsB ([a1, a2, a3, a4, a5].take k)).length ≤ 50 := by
      have := putsB_len ([a1, a2, a3, a4, a5].take k) (fun x hx => HX.out x (by have := List.mem_of_mem_take hx; simp at this ⊢; omega))
      omega
    have h0l := putI_le (HX.out a0 (by simp))
    have HLN := Lib.hid (show (xs ++ putI a0 ++ putsB ([a1, a2, a3, a4, a5].take k)).length ≤ 100000 from by rw [List.length_append, List.length_append]; have := HL.out; omega)
    clear hlx hpl h0l
    have cQ : wr.cell? ⟨Q, 0, none⟩ = some (.func (.func 35) #[] #[.pointer (some ⟨B, 0, none⟩)]) := cell_of_block (o := 0) HQ3.out rfl
    rcases (by omega : k = 0 ∨ k = 1 ∨ k = 2 ∨ k = 3 ∨ k = 4 ∨ k = 5) with rfl | rfl | rfl | rfl | rfl | rfl
    · have KL := Lib.hid (layn_any HH3.out HLN.out (HX.out a1 (by simp)))
      have qI := idx5_0 a1 a2 a3 a4 a5
      have HT := Lib.hid (show xs ++ putI a0 ++ putsB ([a1, a2, a3, a4, a5].take 0) ++ putI a1 = xs ++ putI a0 ++ putsB ([a1, a2, a3, a4, a5].take 1) from by simp [putsB])
      go_wp2_with fail
      refine KL.out.mono ?_
      rintro e w4 ⟨rfl, h4, f4⟩
      rw [HT.out] at h4
      have HH4 := Lib.hid h4
      have HQ4 := Lib.hid (f4.stays HQ3.out HQB.out)
      have HP4 := Lib.hid (f4.stays HP3.out HPB.out)
      have HF4 := Lib.hid (HF3.out.trans f4)
      clear h4 f4 cQ KL HH3 HQ3 HP3 HF3
      go_wp2_with fail
      go_roundw
      case rel => exact ⟨1, by omega, by rfl, HH4.out, HQ4.out, HP4.out, HF4.out⟩
      case measure => simp [intOf]
    · have KL := Lib.hid (layn_any HH3.out HLN.out (HX.out a2 (by simp)))
      have qI := idx5_1 a1 a2 a3 a4 a5
      have HT := Lib.hid (show xs ++ putI a0 ++ putsB ([a1, a2, a3, a4, a5].take 1) ++ putI a2 = xs ++ putI a0 ++ putsB ([a1, a2, a3, a4, a5].take 2) from by simp [putsB])
      go_wp2_with fail
      refine KL.out.mono ?_
      rintro e w4 ⟨rfl, h4, f4⟩
      rw [HT.out] at h4
      have HH4 := Lib.hid h4
      have HQ4 := Lib.hid (f4.stays HQ3.out HQB.out)
      have HP4 := Lib.hid (f4.stays HP3.out HPB.out)
      have HF4 := Lib.hid (HF3.out.trans f4)
      clear h4 f4 cQ KL HH3 HQ3 HP3 HF3
      go_wp2_with fail
      go_roundw
      case rel => exact ⟨2, by omega, by rfl, HH4.out, HQ4.out, HP4.out, HF4.out⟩
      case measure => simp [intOf]
    · have KL := Lib.hid (layn_any HH3.out HLN.out (HX.out a3 (by simp)))
      have qI := idx5_2 a1 a2 a3 a4 a5
      have HT := Lib.hid (show xs ++ putI a0 ++ putsB ([a1, a2, a3, a4, a5].take 2) ++ putI a3 = xs ++ putI a0 ++ putsB ([a1, a2, a3, a4, a5].take 3) from by simp [putsB])
      go_wp2_with fail
      refine KL.out.mono ?_
      rintro e w4 ⟨rfl, h4, f4⟩
      rw [HT.out] at h4
      have HH4 := Lib.hid h4
      have HQ4 := Lib.hid (f4.stays HQ3.out HQB.out)
      have HP4 := Lib.hid (f4.stays HP3.out HPB.out)
      have HF4 := Lib.hid (HF3.out.trans f4)
      clear h4 f4 cQ KL HH3 HQ3 HP3 HF3
      go_wp2_with fail
      go_roundw
      case rel => exact ⟨3, by omega, by rfl, HH4.out, HQ4.out, HP4.out, HF4.out⟩
      case measure => simp [intOf]
    · have KL := Lib.hid (layn_any HH3.out HLN.out (HX.out a4 (by simp)))
      have qI := idx5_3 a1 a2 a3 a4 a5
      have HT := Lib.hid (show xs ++ putI a0 ++ putsB ([a1, a2, a3, a4, a5].take 3) ++ putI a4 = xs ++ putI a0 ++ putsB ([a1, a2, a3, a4, a5].take 4) from by simp [putsB])
      go_wp2_with fail
      refine KL.out.mono ?_
      rintro e w4 ⟨rfl, h4, f4⟩
      rw [HT.out] at h4
      have HH4 := Lib.hid h4
      have HQ4 := Lib.hid (f4.stays HQ3.out HQB.out)
      have HP4 := Lib.hid (f4.stays HP3.out HPB.out)
      have HF4 := Lib.hid (HF3.out.trans f4)
      clear h4 f4 cQ KL HH3 HQ3 HP3 HF3
      go_wp2_with fail
      go_roundw
      case rel => exact ⟨4, by omega, by rfl, HH4.out, HQ4.out, HP4.out, HF4.out⟩
      case measure => simp [intOf]
    · have KL := Lib.hid (layn_any HH3.out HLN.out (HX.out a5 (by simp)))
      have qI := idx5_4 a1 a2 a3 a4 a5
      have HT := Lib.hid (show xs ++ putI a0 ++ putsB ([a1, a2, a3, a4, a5].take 4) ++ putI a5 = xs ++ putI a0 ++ putsB ([a1, a2, a3, a4, a5].take 5) from by simp [putsB])
      go_wp2_with fail
      refine KL.out.mono ?_
      rintro e w4 ⟨rfl, h4, f4⟩
      rw [HT.out] at h4
      have HH4 := Lib.hid h4
      have HQ4 := Lib.hid (f4.stays HQ3.out HQB.out)
      have HP4 := Lib.hid (f4.stays HP3.out HPB.out)
      have HF4 := Lib.hid (HF3.out.trans f4)
      clear h4 f4 cQ KL HH3 HQ3 HP3 HF3
      go_wp2_with fail
      go_roundw
      case rel => exact ⟨5, by omega, by rfl, HH4.out, HQ4.out, HP4.out, HF4.out⟩
      case measure => simp [intOf]
    · have HT0 := Lib.hid (show xs ++ putI a0 ++ putsB ([a1, a2, a3, a4, a5].take 5) = xs ++ putsB [a0, a1, a2, a3, a4, a5] from by simp [putsB])
      rw [HT0.out] at HH3 HLN
      have HL9 := Lib.hid (show ∀ m : List Int, (∀ x ∈ m, i64B x) → (putsB m).length ≤ 10 * m.length from putsB_len)
      have c6 : wr.cell? ⟨p, 6, none⟩ = some (.int .i64 a6) := cell_of_block (o := 6) HP3.out rfl
      have KL := Lib.hid (layn_any HH3.out HLN.out (HX.out a6 (by simp)))
      go_wp2_with fail
      refine KL.out.mono ?_
      rintro e w4 ⟨rfl, h4, f4⟩
      rw [show xs ++ putsB [a0, a1, a2, a3, a4, a5] ++ putI a6 = xs ++ putsB [a0, a1, a2, a3, a4, a5, a6] from by simp [putsB]] at h4
      have HH4 := Lib.hid h4
      have HQ4 := Lib.hid (f4.stays HQ3.out HQB.out)
      have HP4 := Lib.hid (f4.stays HP3.out HPB.out)
      have HF4 := Lib.hid (HF3.out.trans f4)
      clear h4 f4 cQ c6 KL HH3 HQ3 HP3 HF3
      have cQ : w4.cell? ⟨Q, 0, none⟩ = some (.func (.func 35) #[] #[.pointer (some ⟨B, 0, none⟩)]) := cell_of_block (o := 0) HQ4.out rfl
      have c7 : w4.cell? ⟨p, 7, none⟩ = some (.int .i64 a7) := cell_of_block (o := 7) HP4.out rfl
      have KL := Lib.hid (layn_any HH4.out (by have h70 : (putsB [a0, a1, a2, a3, a4, a5, a6]).length ≤ 70 := HL9.out [a0, a1, a2, a3, a4, a5, a6] (fun x hx => HX.out x (by simp only [List.mem_cons, List.not_mem_nil, or_false] at hx ⊢; omega)); have := HL.out; rw [List.length_append]; omega) (HX.out a7 (by simp)))
      go_wp2_with fail
      refine KL.out.mono ?_
      rintro e w5 ⟨rfl, h5, f5⟩
      rw [show xs ++ putsB [a0, a1, a2, a3, a4, a5, a6] ++ putI a7 = xs ++ putsB [a0, a1, a2, a3, a4, a5, a6, a7] from by simp [putsB]] at h5
      have HH5 := Lib.hid h5
      have HQ5 := Lib.hid (f5.stays HQ4.out HQB.out)
      have HP5 := Lib.hid (f5.stays HP4.out HPB.out)
      have HF5 := Lib.hid (HF4.out.trans f5)
      clear h5 f5 cQ c7 KL HH4 HQ4 HP4 HF4
      have cQ : w5.cell? ⟨Q, 0, none⟩ = some (.func (.func 35) #[] #[.pointer (some ⟨B, 0, none⟩)]) := cell_of_block (o := 0) HQ5.out rfl
      have c8 : w5.cell? ⟨p, 8, none⟩ = some (.int .i64 a8) := cell_of_block (o := 8) HP5.out rfl
      have KL := Lib.hid (layn_any HH5.out (by have h70 : (putsB [a0, a1, a2, a3, a4, a5, a6, a7]).length ≤ 80 := HL9.out [a0, a1, a2, a3, a4, a5, a6, a7] (fun x hx => HX.out x (by simp only [List.mem_cons, List.not_mem_nil, or_false] at hx ⊢; omega)); have := HL.out; rw [List.length_append]; omega) (HX.out a8 (by simp)))
      go_wp2_with fail
      refine KL.out.mono ?_
      rintro e w6 ⟨rfl, h6, f6⟩
      rw [show xs ++ putsB [a0, a1, a2, a3, a4, a5, a6, a7] ++ putI a8 = xs ++ putsB [a0, a1, a2, a3, a4, a5, a6, a7, a8] from by simp [putsB]] at h6
      have HH6 := Lib.hid h6
      have HF6 := Lib.hid (HF5.out.trans f6)
      clear h6 f6 cQ c8 KL HH5 HQ5 HP5 HF5
      go_wp2_with fail
      go_end0
      exact ⟨rfl, HH6.out, HF6.out⟩
end Go.Proofs.YthflogeaielhlaaGreatDoor
