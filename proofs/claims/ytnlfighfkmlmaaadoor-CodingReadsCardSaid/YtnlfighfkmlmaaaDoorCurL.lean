/- A cursor's lists of numbers; a cursor that is nil. Its condition: errors.errorType reads as the program's text lays it. -/
import Derived.Test.YtnlfighfkmlmaaaDoorCurT
namespace Go.Proofs.YtnlfighfkmlmaaaDoor
set_option linter.unusedVariables false
open Go.ChangeShapes Go.WideShapes Go.ChangeAt Go.RowKit
attribute [local go_sem ↓] Go.wp_at_zero Go.wp_at_succ comesTo_value_eq comesTo_skip_eq comesTo_enter_eq

theorem OwnL.fr {w w' : World} {B : Nat} {v : Value} {l : List Int} {G : Nat → Prop} (h : OwnL w B v l) (hf : Fr G w w') (hG : ∀ j, B ≤ j → ¬ G j) : OwnL w' B v l := by
  refine ⟨h.1, ?_⟩
  rcases h.2 with hn | ⟨g, cap, cur, hv, hB, hg, rest⟩
  · exact .inl hn
  · refine .inr ⟨g, cap, cur, hv, hB, ?_, rest⟩
    rw [hf.block g (Array.getElem?_eq_some_iff.1 hg).1 (hG g hB)]; exact hg
theorem scan_less (xs : List Int) : ∀ (i u : Nat), (scan i u xs).2.1 = 0 → (scan i u xs).1.length < xs.length := by
  induction xs with
  | nil => intro i u h; simp [scan] at h
  | cons x xs ih =>
    intro i u h
    unfold scan at h ⊢
    split
    · rename_i h1; rw [if_pos h1] at h; simp at h
    · rename_i h1
      rw [if_neg h1] at h
      split
      · rename_i h2
        rw [if_pos h2] at h
        have := ih _ _ h
        simp; omega
      · rename_i h2
        rw [if_neg h2] at h
        split
        · rename_i h3; rw [if_pos h3] at h; simp at h
        · simp
theorem intF_less {st : CS} (h : st.bad = 0) (h' : (intF st).1.bad = 0) : (intF st).1.xs.length < st.xs.length := by
  unfold intF at *
  rw [if_pos h] at *
  exact scan_less _ _ _ h'
/-- so many numbers that are read, as long as nothing is wrong -/
def readN : Nat → CS → CS × List Int
  | 0, st => (st, [])
  | k + 1, st => if st.bad = 0 then ((readN k (intF st).1).1, (intF st).2 :: (readN k (intF st).1).2) else (st, [])
def intsF (st : CS) (most : Int) : CS × List Int :=
  if (readN (smallF st most).2.toNat (smallF st most).1).1.bad = 0 then readN (smallF st most).2.toNat (smallF st most).1 else ((readN (smallF st most).2.toNat (smallF st most).1).1, [])
theorem readN_succ (k : Nat) (st : CS) : readN (k + 1) st = if st.bad = 0 then ((readN k (intF st).1).1, (intF st).2 :: (readN k (intF st).1).2) else (st, []) := rfl
theorem readN_bad {st : CS} (h : st.bad ≠ 0) (k : Nat) : readN k st = (st, []) := by
  cases k with
  | zero => rfl
  | succ k => unfold readN; rw [if_neg h]
set_option maxRecDepth 100000 in
theorem ints_cur {w : World} {C : Nat} {F : Nat → Prop} {st : CS} (h : Cur w C F st) (hE : ErrAt w) {most : Int} (hm : most ≤ 9223372036854775807) :
    Calls Tryd.prog 28 #[.pointer (some ⟨C, 0, none⟩), .int .i64 most] w fun r w' => ∃ u, r = .returned u ∧ OwnL w' w.heap.size u (intsF st most).2 ∧ Cur w' C F (intsF st most).1 ∧ Fr (fun j => j = C) w w' := by
  have K := Lib.hid (small_cur h.tight most)
  have hlt := h.lt
  have hap := h.apart hE
  have hbd := smallF_bad (st := st) (most := most)
  have hin0 : 0 ≤ (smallF st most).2 := by unfold smallF; split <;> omega
  have hin1 : (smallF st most).2 ≤ 9223372036854775807 := by
    unfold smallF
    split
    · omega
    · exact (intF_in h.bytes).2
  unfold intsF
  clear h hbd hm
  generalize smallF st most = p at *
  obtain ⟨st1, v⟩ := p
  simp only at *
  obtain ⟨n, rfl⟩ : ∃ n : Nat, v = (n : Int) := ⟨v.toNat, by omega⟩
  rw [show ((n : Int)).toNat = n from rfl]
  have HE := Lib.hid hE
  have HA := Lib.hid hap
  have HLT := Lib.hid hlt
  generalize hR : (if (readN n st1).1.bad = 0 then readN n st1 else ((readN n st1).1, [])) = R
  have HR := Lib.hid hR
  clear hin0 hE hap hlt hR
  go_enter Tryd.func28, Tryd.ntmps28
  go_wp2_with fail
  refine K.out.mono ?_
  rintro e w1 ⟨rfl, hc, hf⟩
  have HC := Lib.hid hc
  have HFIT := Lib.hid hc.fits
  have HF := Lib.hid hf
  clear hc hf K
  go_wp2_with fail
  go_loopw [6, 7] (fun l i wr => ∃ (k : Nat) (st' : CS) (acc : List Int) (v' : Value), k ≤ n ∧ i = .int .i64 k ∧ l = v' ∧ readN n st1 = ((readN (n - k) st').1, acc ++ (readN (n - k) st').2) ∧ (st'.bad = 0 → acc.length + st'.xs.length ≤ st1.xs.length) ∧ OwnL wr w.heap.size v' acc ∧ Cur wr C (fun j => F j ∧ j < w.heap.size) st' ∧ Fr (fun j => j = C) w wr) (fun _ i _ => n - (intOf i).toNat)
  case atStart => exact ⟨0, st1, [], _, Nat.zero_le _, rfl, rfl, rfl, fun _ => by simp, OwnL.nil, HC.out, HF.out⟩
  case round =>
    obtain ⟨k, st', acc, v', hk, rfl, rfl, hrd, hlen, ho, hc, hf⟩ := hrel
    have HE1 := Lib.hid (HE.out.fr hf (fun h => HA.out h.symm))
    have HO := Lib.hid ho
    have HC1 := Lib.hid hc
    have HF1 := Lib.hid hf
    have HLN := Lib.hid hlen
    have HRD := Lib.hid hrd
    clear ho hc hf hlen hrd HC HF
    have KB := Lib.hid (bad_cur HC1.out HE1.out)
    by_cases hlt : k < n
    · have hd1 : decide ((k : Int) < (n : Int)) = true := decide_eq_true (by omega)
      by_cases hb0 : st'.bad = 0
      · rw [hb0] at KB
        go_wp2_with fail
        refine KB.out.mono ?_
        rintro e w2 ⟨rfl, hb2⟩
        have HB2 := Lib.hid hb2
        have KI := Lib.hid (int_cur (HC1.out.below hb2))
        clear hb2
        go_wp2_with fail
        refine KI.out.mono ?_
        rintro e w3 ⟨rfl, hc3, hf3⟩
        generalize hx : (intF st').2 = x at *
        have hA := below_alloc (Below.refl _ w3) (.cells #[.int .i64 x] 2)
        have hF3 : Fr (fun j => j = C) w w3 := (HF1.out.trans (Fr.of_below HB2.out) (fun j hj => .inr (Nat.le_trans HF1.out.size hj))).trans hf3 (fun j hj => .inl hj)
        have hO3 : OwnL w3 w.heap.size u6 acc := (HO.out.below HB2.out).fr hf3 (fun j hj he => by have := HLT.out; omega)
        have HO3 := Lib.hid (hO3.below hA)
        have HC3 := Lib.hid (hc3.below hA)
        have hF4 : Fr (fun j => j = C) w (w3.alloc (.cells #[.int .i64 x] 2)) := hF3.trans (Fr.of_below hA) (fun j hj => .inr (Nat.le_trans hF3.size hj))
        have HF4 := Lib.hid hF4
        have HN := Lib.hid (cell_of_block (o := 0) (World.alloc_heap_new w3 (.cells #[.int .i64 x] 2)) rfl)
        have h9 : acc.length + 1 ≤ 1099511627776 := by have := HLN.out hb0; have := HFIT.out; omega
        have hsz : w.heap.size ≤ (w3.alloc (.cells #[.int .i64 x] 2)).heap.size := HF4.out.size
        have HB0 := Lib.hid hb0
        have HX := Lib.hid hx
        clear hc3 hf3 hA hF3 hO3 hF4 hb0 KI KB hx
        go_wp2_with (at_builtin; go_loud (refine wpList_append_intL 23 Tryd.underlying23 (by rfl) _ _ (by rfl) w.heap.size u6 acc (by rfl) HO3.out w3.heap.size 1 x (by rfl) HN.out h9 hsz ?_; intro v5 w5 o5 b5; have O5 := Lib.hid o5; have B5 := Lib.hid b5; clear o5 b5))
        go_roundw
        case rel =>
          refine ⟨k + 1, (intF st').1, acc ++ [x], _, by omega, by go_num, rfl, ?_, fun h => ?_, O5.out, Fr.cur HC3.out (Fr.of_under B5.out) (fun j hj _ hge => by have := hj.2; omega), HF4.out.trans (Fr.of_under B5.out) (fun j hj => .inr hj)⟩
          · rw [HRD.out, show n - k = n - (k + 1) + 1 by omega]
            rw [readN_succ, if_pos HB0.out, HX.out]
            simp
          · have h1 := intF_less HB0.out h
            have h2 := HLN.out HB0.out
            simp only [List.length_append, List.length_cons, List.length_nil]
            omega
        case measure => simp [intOf]; omega
      · have hne : (st'.bad == 0) = false := by rw [beq_eq_false_iff_ne]; exact hb0
        have HB0 := Lib.hid hb0
        clear hb0
        go_wp2_with fail
        refine KB.out.mono ?_
        rintro e w2 ⟨rfl, hb2⟩
        have HB2 := Lib.hid hb2
        have KB2 := Lib.hid (bad_cur (HC1.out.below hb2) (HE1.out.below hb2))
        clear hb2
        go_wp2_with fail
        refine KB2.out.mono ?_
        rintro e w3 ⟨rfl, hb3⟩
        have HB3 := Lib.hid (below_next HB2.out hb3)
        clear hb3
        go_wp2
        go_ret
        have hR := HR.out
        rw [HRD.out, readN_bad HB0.out] at hR
        dsimp only at hR
        rw [if_neg HB0.out] at hR
        subst hR
        exact ⟨_, rfl, OwnL.nil, (HC1.out.below HB3.out).more (fun j hj => hj.1), HF1.out.trans (Fr.of_below HB3.out) (fun j hj => .inr (Nat.le_trans HF1.out.size hj))⟩
    · have hd1 : decide ((k : Int) < (n : Int)) = false := decide_eq_false (by omega)
      obtain rfl : k = n := by omega
      rw [Nat.sub_self] at HRD
      by_cases hb0 : st'.bad = 0
      · rw [hb0] at KB
        have HB0 := Lib.hid hb0
        clear hb0
        go_wp2_with fail
        refine KB.out.mono ?_
        rintro e w2 ⟨rfl, hb2⟩
        have HB2 := Lib.hid hb2
        clear hb2
        go_wp2
        go_ret
        have hR := HR.out
        rw [HRD.out, show readN 0 st' = (st', []) from rfl] at hR
        dsimp only at hR
        rw [if_pos HB0.out, List.append_nil] at hR
        subst hR
        exact ⟨_, rfl, HO.out.below HB2.out, (HC1.out.below HB2.out).more (fun j hj => hj.1), HF1.out.trans (Fr.of_below HB2.out) (fun j hj => .inr (Nat.le_trans HF1.out.size hj))⟩
      · have hne : (st'.bad == 0) = false := by rw [beq_eq_false_iff_ne]; exact hb0
        have HB0 := Lib.hid hb0
        clear hb0
        go_wp2_with fail
        refine KB.out.mono ?_
        rintro e w2 ⟨rfl, hb2⟩
        have HB2 := Lib.hid hb2
        clear hb2
        go_wp2
        go_ret
        have hR := HR.out
        rw [HRD.out, show readN 0 st' = (st', []) from rfl] at hR
        dsimp only at hR
        rw [if_neg HB0.out] at hR
        subst hR
        exact ⟨_, rfl, OwnL.nil, (HC1.out.below HB2.out).more (fun j hj => hj.1), HF1.out.trans (Fr.of_below HB2.out) (fun j hj => .inr (Nat.le_trans HF1.out.size hj))⟩
/-! ### a cursor that is nil -/
theorem rest_nil (w : World) : Calls Tryd.prog 29 #[.pointer none] w fun r w' => r = .returned (.int .i64 0) ∧ w = w' := by
  go_enter Tryd.func29, Tryd.ntmps29
  go_wp2
  go_ret
  exact ⟨rfl, rfl⟩
theorem bad_nil (w : World) : Calls Tryd.prog 30 #[.pointer none] w fun r w' => r = .returned (.int .i64 0) ∧ Below w.heap.size w w' := by
  have hA := below_alloc (Below.refl _ w) (.cells #[.int .i64 0] 52)
  go_enter Tryd.func30, Tryd.ntmps30
  go_wp2
  go_ret
  exact ⟨rfl, hA⟩
theorem int_nil (w : World) : Calls Tryd.prog 22 #[.pointer none] w fun r w' => r = .returned (.int .i64 0) ∧ w = w' := by
  go_enter Tryd.func22, Tryd.ntmps22
  go_wp2
  go_ret
  exact ⟨rfl, rfl⟩
theorem fail_nil (e : Int) (w : World) : Calls Tryd.prog 53 #[.pointer none, .int .i64 e] w fun r w' => r = .returned (.int .i64 0) ∧ w = w' := by
  go_enter Tryd.func53, Tryd.ntmps53
  go_wp2
  go_ret
  exact ⟨rfl, rfl⟩
theorem small_nil (most : Int) (w : World) : Calls Tryd.prog 24 #[.pointer none, .int .i64 most] w fun r w' => r = .returned (.int .i64 0) ∧ w = w' := by
  have KI := Lib.hid (int_nil w)
  have KF := Lib.hid (fail_nil 2 w)
  by_cases h : most < 0
  · have hd : decide ((0 : Int) > most) = true := decide_eq_true h
    go_enter Tryd.func24, Tryd.ntmps24
    go_wp2_with fail
    refine KI.out.mono ?_
    rintro e w' ⟨rfl, rfl⟩
    go_wp2_with fail
    refine KF.out.mono ?_
    rintro e w' ⟨rfl, rfl⟩
    go_wp2
    go_ret
    exact ⟨rfl, rfl⟩
  · have hd : decide ((0 : Int) > most) = false := decide_eq_false h
    go_enter Tryd.func24, Tryd.ntmps24
    go_wp2_with fail
    refine KI.out.mono ?_
    rintro e w' ⟨rfl, rfl⟩
    go_wp2
    go_ret
    exact ⟨rfl, rfl⟩
theorem text_nil (w : World) : Calls Tryd.prog 26 #[.pointer none] w fun r w' => r = .returned (.string .empty) ∧ w = w' := by
  have KS := Lib.hid (small_nil 65536 w)
  have KR := Lib.hid (rest_nil w)
  go_enter Tryd.func26, Tryd.ntmps26
  go_wp2_with fail
  refine KS.out.mono ?_
  rintro e w' ⟨rfl, rfl⟩
  go_wp2_with fail
  refine KR.out.mono ?_
  rintro e w' ⟨rfl, rfl⟩
  go_wp2
  go_ret
  exact ⟨rfl, rfl⟩
theorem ints_nil (most : Int) (w : World) : Calls Tryd.prog 28 #[.pointer none, .int .i64 most] w fun r w' => r = .returned (.slice none 0 0) ∧ Below w.heap.size w w' := by
  have KS := Lib.hid (small_nil most w)
  have KB := Lib.hid (bad_nil w)
  go_enter Tryd.func28, Tryd.ntmps28
  go_wp2_with fail
  refine KS.out.mono ?_
  rintro e w' ⟨rfl, rfl⟩
  go_wp2_with fail
  go_loop [6, 7] (fun l i => l = .slice none 0 0 ∧ i = .int .i64 0) (fun _ _ => 0)
  case atStart => exact ⟨rfl, rfl⟩
  case round =>
    obtain ⟨rfl, rfl⟩ := hrel
    go_wp2_with fail
    refine KB.out.mono ?_
    rintro e w' ⟨rfl, hb⟩
    have HB := Lib.hid hb
    clear hb
    go_wp2
    go_ret
    exact ⟨rfl, HB.out⟩
end Go.Proofs.YtnlfighfkmlmaaaDoor
