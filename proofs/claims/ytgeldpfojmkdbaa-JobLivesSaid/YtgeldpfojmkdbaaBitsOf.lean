/- bits.Of: the set of the nodes of a row. No condition. -/
import Derived.Test.YtgeldpfojmkdbaaBits
namespace Go.Proofs.Ytgeldpfojmkdbaa
set_option linter.unusedVariables false
open Go.ChangeShapes Go.WideShapes Go.ChangeAt Go.RowKit
attribute [local go_sem ↓] Go.wp_at_zero Go.wp_at_succ comesTo_value_eq comesTo_skip_eq comesTo_enter_eq

/-- the set of nodes -/
def ofS (l : List Int) : NSet := l.foldl (fun s n => s ||| oneI n) 0#64
theorem ofS_snoc (l : List Int) (n : Int) : ofS (l ++ [n]) = ofS l ||| oneI n := by unfold ofS; rw [List.foldl_append]; rfl
theorem of_ints (g c : Nat) (l : List Int) (w : World) (hl : l.length ≤ 9223372036854775807) (hc : ∀ k, k < l.length → w.cell? ⟨g, k, none⟩ = some (.int .i64 (l.getD k 0))) :
    Calls Try.prog 31 #[.slice (some ⟨g, 0, none⟩) l.length c] w fun e w' => e = .returned (.int .u64 (nv (ofS l))) ∧ w = w' := by
  have HC := Lib.hid hc
  clear hc
  go_enter Try.func31, Try.ntmps31
  go_wp2
  go_loop [3, 8] (fun s i => ∃ k : Nat, k ≤ l.length ∧ i = .int .i64 k ∧ s = .int .u64 (nv (ofS (l.take k)))) (fun _ i => l.length - (intOf i).toNat)
  case atStart => exact ⟨0, Nat.zero_le _, rfl, rfl⟩
  case round =>
    obtain ⟨k, hk, rfl, rfl⟩ := hrel
    by_cases hlt : k < l.length
    · have hcell := HC.out k hlt
      have e : ofS (l.take (k + 1)) = ofS (l.take k) ||| oneI (l.getD k 0) := by
        rw [List.take_succ_eq_append_getElem hlt, ofS_snoc]
        simp [List.getD, hlt]
      have KW := Lib.hid (fun W => with_any (ofS (l.take k)) (l.getD k 0) W)
      rw [← e] at KW
      clear e
      generalize l.getD k 0 = x at *
      generalize hT : ofS (l.take (k + 1)) = T2 at *
      have HT := Lib.hid hT
      clear hT
      go_wp2_with (go_at_call 26; refine (KW.out _).mono ?_; rintro e w' ⟨rfl, rfl⟩)
      go_round
      case rel => exact ⟨k + 1, by omega, by go_num, by rw [HT.out]⟩
      case measure => simp [intOf]; omega
    · obtain rfl : k = l.length := by omega
      rw [List.take_of_length_le (Nat.le_refl _)]
      go_wp2
      go_ret
      exact ⟨rfl, rfl⟩
/-- numbers that lie in a block -/
theorem of_block (l : List Int) (x : NSet) (hx : ofS l = x) (hl : l.length ≤ 1000) (b : Nat) (W : World) {T : TypeId} (hb : W.heap[b]? = some (.cells (l.map (Value.int .i64)).toArray T (0, 0))) :
    Calls Try.prog 31 #[.slice (some ⟨b, 0, none⟩) l.length l.length] W fun e w' => e = .returned (.int .u64 (nv x)) ∧ Below W.heap.size W w' := by
  have := of_ints b l.length l W (by omega) (fun k hk => cell_of_block hb (by simp [hk]))
  rw [hx] at this
  exact this.mono fun _ _ ⟨h1, h2⟩ => ⟨h1, by subst h2; exact Below.refl _ _⟩
end Go.Proofs.Ytgeldpfojmkdbaa
