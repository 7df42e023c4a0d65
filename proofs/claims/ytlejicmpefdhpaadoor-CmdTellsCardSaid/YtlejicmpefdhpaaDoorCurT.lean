/- A cursor's small numbers, texts, lists of numbers, and its end. No condition but that errors.errorType reads as the program's text lays it. -/
import Derived.Test.YtlejicmpefdhpaaDoorPut
import Derived.Test.YtlejicmpefdhpaaDoorOwnL
namespace Go.Proofs.YtlejicmpefdhpaaDoor
set_option linter.unusedVariables false
open Go.ChangeShapes Go.WideShapes Go.ChangeAt Go.RowKit
attribute [local go_sem ↓] Go.wp_at_zero Go.wp_at_succ comesTo_value_eq comesTo_skip_eq comesTo_enter_eq

theorem Cur.apart {w : World} {C : Nat} {F : Nat → Prop} {st : CS} (h : Cur w C F st) (hE : ErrAt w) : C ≠ 1 := by
  rintro rfl
  obtain ⟨_, _, _, ad, n, c, hb, _⟩ := h
  have h1 := cell_of_block (o := 0) hb rfl
  unfold ErrAt at hE
  rw [h1] at hE
  cases hE
theorem ErrAt.fr {w w' : World} {G : Nat → Prop} (h : ErrAt w) (hf : Fr G w w') (hg : ¬ G 1) : ErrAt w' := by
  unfold ErrAt at h ⊢
  have hlt := World.block_lt_of_cell? w _ h
  have := hf.block _ hlt hg
  simp only [World.cell?, this] at h ⊢
  exact h
theorem ErrAt.below {w w' : World} (h : ErrAt w) (hb : Below w.heap.size w w') : ErrAt w' := h.fr (G := fun _ => False) (Fr.of_below hb) (fun h => h)
theorem intF_bad (st : CS) : (intF st).1.bad = 0 ∨ (intF st).2 = 0 ∧ (st.bad = 0 → (intF st).1.xs = []) := by
  unfold intF
  split
  · rcases scan_bad 0 0 st.xs with h | h
    · exact .inl h
    · exact .inr ⟨h.2, fun _ => h.1⟩
  · rename_i h
    exact .inr ⟨rfl, fun h' => absurd h' h⟩
def CS.bytes (st : CS) : Prop := ∀ x ∈ st.xs, 0 ≤ x ∧ x ≤ 255
theorem Cur.bytes {w : World} {C : Nat} {F : Nat → Prop} {st : CS} (h : Cur w C F st) : st.bytes := by
  obtain ⟨_, _, _, ad, n, c, _, ht, _⟩ := h
  intro x hx
  rcases ht.form.2 with ⟨_, e⟩ | ⟨e, _⟩ | ⟨b, o, _, _, hr⟩
  · rw [e] at hx; cases hx
  · rw [e] at hx; cases hx
  · obtain ⟨k, hk, rfl⟩ := List.mem_iff_getElem.1 hx
    have h1 := hr.lo k hk
    have h2 := hr.hi k hk
    simp [List.getD, List.getElem?_eq_getElem hk] at h1 h2
    exact ⟨h1, h2⟩
theorem intF_in {st : CS} (h : st.bytes) : -9223372036854775808 ≤ (intF st).2 ∧ (intF st).2 ≤ 9223372036854775807 := by
  unfold intF
  split
  · exact scan_in st.xs 0 0 h (Nat.zero_le 9) Nat.one_pos
  · show -9223372036854775808 ≤ (0 : Int) ∧ (0 : Int) ≤ 9223372036854775807
    omega
/-- a small number that is read -/
def smallF (st : CS) (most : Int) : CS × Int := if (intF st).2 < 0 ∨ most < (intF st).2 then (failF (intF st).1 2, 0) else intF st
set_option maxRecDepth 100000 in
theorem small_cur {w : World} {C : Nat} {F : Nat → Prop} {st : CS} (h : Cur w C F st) (most : Int) :
    Calls Tryd.prog 37 #[.pointer (some ⟨C, 0, none⟩), .int .i64 most] w fun r w' => r = .returned (.int .i64 (smallF st most).2) ∧ Cur w' C F (smallF st most).1 ∧ Fr (fun j => j = C) w w' := by
  have K := Lib.hid (int_cur h)
  have hin := intF_in h.bytes
  unfold smallF
  clear h
  generalize intF st = p at *
  obtain ⟨st1, v⟩ := p
  simp only at *
  have hw : IntKind.i64.wrap v = v := IntWalk.i64_in v hin
  rcases (by omega : v < 0 ∨ ¬ v < 0 ∧ most < v ∨ ¬ v < 0 ∧ ¬ most < v) with h1 | ⟨h1, h2⟩ | ⟨h1, h2⟩
  · rw [if_pos (Or.inl h1)]
    have hd1 : decide (v < 0) = true := decide_eq_true h1
    clear hin
    go_enter Tryd.func37, Tryd.ntmps37
    go_wp2_with fail
    refine K.out.mono ?_
    rintro e w1 ⟨rfl, hc, hf⟩
    have KF := Lib.hid (fail_cur hc 2 (by decide))
    have HF := Lib.hid hf
    clear hc hf K
    go_wp2_with fail
    refine KF.out.mono ?_
    rintro e w2 ⟨rfl, hc2, hf2⟩
    have HC := Lib.hid hc2
    have HF2 := Lib.hid (HF.out.trans hf2 (fun j hj => .inl hj))
    clear hc2 hf2
    go_wp2
    go_ret
    exact ⟨rfl, HC.out, HF2.out⟩
  · rw [if_pos (Or.inr h2)]
    have hd1 : decide (v < 0) = false := decide_eq_false h1
    have hd2 : decide (v > most) = true := decide_eq_true h2
    clear hin
    go_enter Tryd.func37, Tryd.ntmps37
    go_wp2_with fail
    refine K.out.mono ?_
    rintro e w1 ⟨rfl, hc, hf⟩
    have KF := Lib.hid (fail_cur hc 2 (by decide))
    have HF := Lib.hid hf
    clear hc hf K
    go_wp2_with fail
    refine KF.out.mono ?_
    rintro e w2 ⟨rfl, hc2, hf2⟩
    have HC := Lib.hid hc2
    have HF2 := Lib.hid (HF.out.trans hf2 (fun j hj => .inl hj))
    clear hc2 hf2
    go_wp2
    go_ret
    exact ⟨rfl, HC.out, HF2.out⟩
  · rw [if_neg (by omega)]
    have hd1 : decide (v < 0) = false := decide_eq_false h1
    have hd2 : decide (v > most) = false := decide_eq_false h2
    clear hin
    go_enter Tryd.func37, Tryd.ntmps37
    go_wp2_with fail
    refine K.out.mono ?_
    rintro e w1 ⟨rfl, hc, hf⟩
    have HC := Lib.hid hc
    have HF2 := Lib.hid hf
    clear hc hf K
    go_wp2
    go_ret
    exact ⟨rfl, HC.out, HF2.out⟩
/-- what is wrong in the end -/
def endF (st : CS) : Int := if st.bad = 0 ∧ 0 < st.xs.length then 11 else st.bad
set_option maxRecDepth 100000 in
theorem end_cur {w : World} {C : Nat} {F : Nat → Prop} {st : CS} (h : Cur w C F st) (hE : ErrAt w) :
    Calls Tryd.prog 34 #[.pointer (some ⟨C, 0, none⟩)] w fun r w' => r = .returned (.int .i64 (endF st)) ∧ Below w.heap.size w w' := by
  have K := Lib.hid (bad_cur h hE)
  have H := Lib.hid h
  have HE := Lib.hid hE
  clear h hE
  unfold endF
  by_cases h0 : st.bad = 0
  · rw [h0] at K ⊢
    have hl : ∃ n : Nat, st.xs.length = n := ⟨_, rfl⟩
    obtain ⟨n, hn⟩ := hl
    have KR0 := fun (w1 : World) (hb : Below w.heap.size w w1) => rest_cur (H.out.below hb)
    rw [hn] at KR0 ⊢
    have KR := Lib.hid KR0
    clear KR0 hn
    by_cases hx : 0 < n
    · rw [if_pos ⟨rfl, hx⟩]
      have hd : decide ((n : Int) > 0) = true := decide_eq_true (by omega)
      go_enter Tryd.func34, Tryd.ntmps34
      go_wp2_with fail
      refine K.out.mono ?_
      rintro e w1 ⟨rfl, hb⟩
      have HB := Lib.hid hb
      have KR1 := Lib.hid (KR.out w1 hb)
      clear hb
      go_wp2_with fail
      refine KR1.out.mono ?_
      rintro e w2 ⟨rfl, rfl⟩
      go_wp2_with fail
      go_ret
      exact ⟨rfl, HB.out⟩
    · rw [if_neg (by omega)]
      have hd : decide ((n : Int) > 0) = false := decide_eq_false (by omega)
      obtain rfl : n = 0 := by omega
      go_enter Tryd.func34, Tryd.ntmps34
      go_wp2_with fail
      refine K.out.mono ?_
      rintro e w1 ⟨rfl, hb⟩
      have HB := Lib.hid hb
      have KR1 := Lib.hid (KR.out w1 hb)
      have KB0 := bad_cur (H.out.below hb) (HE.out.below hb)
      rw [h0] at KB0
      have KB := Lib.hid KB0
      clear hb KB0
      go_wp2_with fail
      refine KR1.out.mono ?_
      rintro e w2 ⟨rfl, rfl⟩
      go_wp2_with fail
      refine KB.out.mono ?_
      rintro e w3 ⟨rfl, hb3⟩
      have HB3 := Lib.hid (below_next HB.out hb3)
      clear hb3
      go_wp2_with fail
      go_ret
      exact ⟨rfl, HB3.out⟩
  · rw [if_neg (by omega)]
    go_enter Tryd.func34, Tryd.ntmps34
    go_wp2_with fail
    refine K.out.mono ?_
    rintro e w1 ⟨rfl, hb⟩
    have KB := Lib.hid (bad_cur (H.out.below hb) (HE.out.below hb))
    have HB := Lib.hid hb
    clear hb
    go_wp2_with fail
    refine KB.out.mono ?_
    rintro e w3 ⟨rfl, hb3⟩
    have HB3 := Lib.hid (below_next HB.out hb3)
    clear hb3
    go_wp2_with fail
    go_ret
    exact ⟨rfl, HB3.out⟩
/-- a text that is read -/
def textF (st : CS) : CS × List Int :=
  if ((smallF st 65536).1.xs.length : Int) < (smallF st 65536).2 then (failF (smallF st 65536).1 10, [])
  else (⟨(smallF st 65536).1.xs.drop (smallF st 65536).2.toNat, (smallF st 65536).1.bad⟩, (smallF st 65536).1.xs.take (smallF st 65536).2.toNat)
theorem smallF_in {st : CS} {most : Int} (hm : 0 ≤ most) : 0 ≤ (smallF st most).2 ∧ (smallF st most).2 ≤ most := by
  unfold smallF
  split
  · exact ⟨Int.le_refl _, hm⟩
  · omega
theorem smallF_bad {st : CS} {most : Int} (h : (smallF st most).1.bad ≠ 0) : (smallF st most).2 = 0 := by
  unfold smallF at *
  split
  · rfl
  · rename_i hn
    rw [if_neg hn] at h
    rcases intF_bad st with h1 | h1
    · exact absurd h1 h
    · exact h1.1
end Go.Proofs.YtlejicmpefdhpaaDoor
