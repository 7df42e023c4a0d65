/- Any (bits): the sets of a row together. No condition. -/
import Derived.Test.YtkllhnfnkgkelaaDoorBits
namespace Go.Proofs.YtkllhnfnkgkelaaDoor
set_option linter.unusedVariables false
open Go.ChangeShapes Go.WideShapes Go.ChangeAt Go.RowKit
attribute [local go_sem ↓] Go.wp_at_zero Go.wp_at_succ

/-- sets together -/
def orS (l : List NSet) : NSet := l.foldl (· ||| ·) 0#64
theorem orS_snoc (l : List NSet) (s : NSet) : orS (l ++ [s]) = orS l ||| s := by unfold orS; rw [List.foldl_append]; rfl
theorem put_sets (g c : Nat) (l : List NSet) (w : World) (hl : l.length ≤ 9223372036854775807) (hc : ∀ k, k < l.length → w.cell? ⟨g, k, none⟩ = some (.int .u64 (nv (l.getD k 0#64)))) :
    Calls Tryd.prog 53 #[.func (.func 29) #[] #[], .slice (some ⟨g, 0, none⟩) l.length c] w fun e w' => e = .returned (.int .u64 (nv (orS l))) ∧ w = w' := by
  have HC := Lib.hid hc
  clear hc
  go_enter Tryd.func53, Tryd.ntmps53
  go_wp2
  go_loop [5, 10] (fun s i => ∃ k : Nat, k ≤ l.length ∧ i = .int .i64 k ∧ s = .int .u64 (nv (orS (l.take k)))) (fun _ i => l.length - (intOf i).toNat)
  case atStart => exact ⟨0, Nat.zero_le _, rfl, rfl⟩
  case round =>
    obtain ⟨k, hk, rfl, rfl⟩ := hrel
    by_cases hlt : k < l.length
    · have hcell := HC.out k hlt
      have e : orS (l.take (k + 1)) = orS (l.take k) ||| l.getD k 0#64 := by
        rw [List.take_succ_eq_append_getElem hlt, orS_snoc]
        simp [List.getD, hlt]
      have KW := Lib.hid (fun W => or_any (orS (l.take k)) (l.getD k 0#64) W)
      rw [← e] at KW
      clear e
      generalize l.getD k 0#64 = x at *
      generalize hT : orS (l.take (k + 1)) = T2 at *
      have HT := Lib.hid hT
      clear hT
      go_wp2_with (go_at_call 29; refine (KW.out _).mono ?_; rintro e w' ⟨rfl, rfl⟩)
      go_round
      case rel => exact ⟨k + 1, by omega, by go_num, by rw [HT.out]⟩
      case measure => simp [intOf]; omega
    · obtain rfl : k = l.length := by omega
      rw [List.take_of_length_le (Nat.le_refl _)]
      go_wp2
      go_ret
      exact ⟨rfl, rfl⟩
theorem any_sets (g c : Nat) (l : List NSet) (w : World) (hl : l.length ≤ 9223372036854775807) (hc : ∀ k, k < l.length → w.cell? ⟨g, k, none⟩ = some (.int .u64 (nv (l.getD k 0#64)))) :
    Calls Tryd.prog 31 #[.slice (some ⟨g, 0, none⟩) l.length c] w fun e w' => e = .returned (.int .u64 (nv (orS l))) ∧ w = w' := by
  have KP := Lib.hid (put_sets g c l w hl hc)
  clear hc
  go_enter Tryd.func31, Tryd.ntmps31
  go_wp2_with fail
  refine KP.out.mono ?_
  rintro e w' ⟨rfl, rfl⟩
  go_wp2
  go_ret
  exact ⟨rfl, rfl⟩
theorem any_none (w : World) :
    Calls Tryd.prog 31 #[.slice none 0 0] w fun e w' => e = .returned (.int .u64 0) ∧ w = w' := by
  have KP : Calls Tryd.prog 53 #[.func (.func 29) #[] #[], .slice none 0 0] w fun e w' => e = .returned (.int .u64 0) ∧ w = w' := by
    go_enter Tryd.func53, Tryd.ntmps53
    go_wp2
    go_loop [5, 10] (fun s i => i = .int .i64 0 ∧ s = .int .u64 0) (fun _ _ => 0)
    case atStart => exact ⟨rfl, rfl⟩
    case round =>
      obtain ⟨rfl, rfl⟩ := hrel
      go_wp2
      go_ret
      exact ⟨rfl, rfl⟩
  have KP := Lib.hid KP
  go_enter Tryd.func31, Tryd.ntmps31
  go_wp2_with fail
  refine KP.out.mono ?_
  rintro e w' ⟨rfl, rfl⟩
  go_wp2
  go_ret
  exact ⟨rfl, rfl⟩
/-- sets that lie in a block -/
theorem any_block (l : List NSet) (x : NSet) (hx : orS l = x) (hl : l.length ≤ 1000) (b : Nat) (W : World) {T : TypeId} (hb : W.heap[b]? = some (.cells (l.map fun s => Value.int .u64 (nv s)).toArray T (0, 0))) :
    Calls Tryd.prog 31 #[.slice (some ⟨b, 0, none⟩) l.length l.length] W fun e w' => e = .returned (.int .u64 (nv x)) ∧ Below W.heap.size W w' := by
  have := any_sets b l.length l W (by omega) (fun k hk => by simp [World.cell?, hb, hk])
  rw [hx] at this
  exact this.mono fun _ _ ⟨h1, h2⟩ => ⟨h1, by subst h2; exact Below.refl _ _⟩
end Go.Proofs.YtkllhnfnkgkelaaDoor
