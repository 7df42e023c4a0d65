/- Join of layer 1 (tick): any spans; those of which none counts. Condition: at most 2^40. -/
import Derived.Test.YtnmhdodcfbjalaaJoinPlain
import Derived.Shelf.SlSortCmp.NoneTotal
namespace Go.Proofs.Ytnmhdodcfbjalaa
set_option linter.unusedVariables false
open Go.ChangeShapes Go.WideShapes Go.ChangeAt Go.RowKit Go.Sort Go.Shelf

theorem cutsOf_none {l : List (Int × Int)} (h : cutsOf l = []) (k : Nat) (hk : k < l.length) : clampI (l.getD k (0, 0)).2 ≤ clampI (l.getD k (0, 0)).1 := by
  unfold cutsOf at h
  rw [List.filterMap_eq_nil_iff] at h
  have := h (l.getD k (0, 0)) (by simp [List.getD, hk])
  split at this
  · assumption
  · cases this
theorem sort_none (w : World) :
    Calls Try.prog 56 #[.slice none 0 0, .func (.func 57) #[] #[]] w fun e w' => e = .returned (.tuple #[]) ∧ w' = w :=
  AnyF.slices_SortFunc_none { Try.sortSpan with } none 0 (.func (.func 57) #[] #[]) w
set_option maxRecDepth 100000 in
set_option maxHeartbeats 2000000 in
theorem join_none (a : Option Addr) (cap : Nat) (l : List (Int × Int)) (h63 : l.length ≤ 1099511627776) (h0 : cutsOf l = []) (w : World) (hrow : 0 < l.length → ∃ b off, a = some ⟨b, off, none⟩ ∧ SpanRow w b off l) :
    Calls Try.prog 29 #[.slice a l.length cap] w fun e w' => e = .returned (.slice none 0 0) ∧ Below w.heap.size w w' := by
  have HR := Lib.hid hrow
  have H0 := Lib.hid h0
  clear hrow h0
  go_enter Try.func29, Try.ntmps29
  go_wp2_with fail
  go_loopw [3, 13] (fun v i wr => ∃ k : Nat, k ≤ l.length ∧ i = .int .i64 k ∧ v = .slice none 0 0 ∧ Below w.heap.size w wr) (fun _ i _ => l.length - (intOf i).toNat)
  case atStart => exact ⟨0, Nat.zero_le _, rfl, rfl, Below.refl _ _⟩
  case round =>
    obtain ⟨k, hk, rfl, rfl, hbel⟩ := hrel
    by_cases hlt : k < l.length
    · obtain ⟨b, off, rfl, hr⟩ := HR.out (by omega)
      have hc0 := (hr.below hbel).c0 k hlt
      have hc1 := (hr.below hbel).c1 k hlt
      have hE := cutsOf_none H0.out k hlt
      generalize (l.getD k (0, 0)).1 = f at *
      generalize (l.getD k (0, 0)).2 = t at *
      have HB := Lib.hid hbel
      have hd : decide (clampI t ≤ clampI f) = true := by simp [hE]
      clear hbel hr hE
      go_wp2_with fail
      refine (empty_any f t _).mono ?_
      rintro e w1 ⟨rfl, hb1⟩
      rw [hd]
      have HW := Lib.hid (show Below w.heap.size w w1 from below_next (below_alloc HB.out _) hb1)
      clear hb1
      go_wp2_with fail
      go_roundw
      case rel => exact ⟨k + 1, by omega, by go_num, rfl, HW.out⟩
      case measure => simp [intOf]; omega
    · have HB := Lib.hid hbel
      clear hbel
      go_wp2_with fail
      refine (sort_none _).mono ?_
      rintro e w1 ⟨rfl, rfl⟩
      go_wp2_with fail
      go_loopw [7, 30] (fun v i w2 => i = .int .i64 0 ∧ v = .slice none 0 0 ∧ w2 = w1) (fun _ _ _ => 0)
      case atStart => exact ⟨rfl, rfl, rfl⟩
      case round =>
        obtain ⟨rfl, rfl, rfl⟩ := hrel
        go_wp2_with fail
        go_ret
        exact ⟨rfl, HB.out⟩
/-- any spans -/
theorem join_all (a : Option Addr) (cap : Nat) (l : List (Int × Int)) (h63 : l.length ≤ 1099511627776) (w : World) (hrow : 0 < l.length → ∃ b off, a = some ⟨b, off, none⟩ ∧ SpanRow w b off l) :
    Calls Try.prog 29 #[.slice a l.length cap] w fun e w' => ∃ (ad : Option Addr) (c : Nat), e = .returned (.slice ad (refJ (cutsOf l)).length c) ∧ OwnS w' w.heap.size (.slice ad (refJ (cutsOf l)).length c) (refJ (cutsOf l)) ∧ Below w.heap.size w w' := by
  by_cases h0 : cutsOf l = []
  · refine (join_none a cap l h63 h0 w hrow).mono ?_
    rintro e w' ⟨rfl, hb⟩
    rw [h0]
    exact ⟨none, 0, rfl, OwnS.nil, hb⟩
  · have hne : 0 < (cutsOf l).length := List.length_pos_iff.2 h0
    have hl : 0 < l.length := Nat.lt_of_lt_of_le hne (cutsOf_len l)
    obtain ⟨b, off, rfl, hr⟩ := hrow hl
    refine (join_any b off cap l h63 hne w hr).mono ?_
    rintro e w' ⟨l', v, hp, hs, rfl, ho, hb⟩
    rw [foldJ_refJ hp (cutsOf_lt l) hs] at ho
    obtain ⟨ad, c, rfl, _⟩ := ho.form
    exact ⟨ad, c, rfl, ho, hb⟩
end Go.Proofs.Ytnmhdodcfbjalaa
