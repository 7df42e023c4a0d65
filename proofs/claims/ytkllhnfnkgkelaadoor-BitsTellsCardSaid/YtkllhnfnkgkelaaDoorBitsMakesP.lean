/- What BitsMakes asks of lists of nodes; bits.Of of ints that may be read. No condition but that. -/
import Derived.Test.YtkllhnfnkgkelaaDoorBitsRef
import Derived.Test.YtkllhnfnkgkelaaDoorBitsOne
namespace Go.Proofs.YtkllhnfnkgkelaaDoor
set_option linter.unusedVariables false
open Go.ChangeShapes Go.WideShapes Go.ChangeAt Go.RowKit
attribute [local go_sem ↓] Go.wp_at_zero Go.wp_at_succ

theorem with_set (s : NSet) (n : Int) : addL 0#64 (nodes s ++ [n]) = s ||| oneI n := by rw [addL_snoc, addL_nodes]
def lessL (l : List Int) (n : Int) : List Int := l.filter (fun x => decide (x ≠ n))
theorem lessL_yes (l : List Int) (n x : Int) (h : ¬ x = n) : lessL (l ++ [x]) n = lessL l n ++ [x] := by unfold lessL; rw [List.filter_append]; simp [h]
theorem lessL_no (l : List Int) (n x : Int) (h : x = n) : lessL (l ++ [x]) n = lessL l n := by unfold lessL; rw [List.filter_append]; simp [h]
theorem lessL_length (l : List Int) (n : Int) : (lessL l n).length ≤ l.length := List.length_filter_le _ _
theorem mem_nodes_get (s : NSet) (i : Nat) : ((i : Int) ∈ nodes s) ↔ s.getLsbD i = true := by
  rw [nodes_mem (card s) s rfl, hasI_nat]
theorem less_set (s : NSet) (n : Int) : addL 0#64 (lessL (nodes s) n) = s &&& ~~~oneI n := by
  apply BitVec.eq_of_getLsbD_eq
  intro i hi
  rw [addL_get i hi, BitVec.getLsbD_zero, Bool.false_or, get_diff _ _ _ hi, oneI_get]
  simp only [hi, decide_true, Bool.true_and]
  unfold lessL
  by_cases h : (i : Int) ∈ nodes s
  · have h1 := (mem_nodes_get s i).1 h
    by_cases hn : n = (i : Int)
    · have : ¬ (i : Int) ≠ n := fun e => e hn.symm
      simp [h, h1, hn]
    · have : (i : Int) ≠ n := fun e => hn e.symm
      simp [h, h1, hn, this]
  · have h1 : s.getLsbD i = false := by
      cases hb : s.getLsbD i with
      | false => rfl
      | true => exact absurd ((mem_nodes_get s i).2 hb) h
    simp [h, h1]
theorem less_sorted (s : NSet) (n : Int) : (lessL (nodes s) n).Pairwise (· < ·) := (nodes_sorted (card s) s rfl).filter _
theorem nodes_range (s : NSet) : ∀ x ∈ nodes s, 0 ≤ x ∧ x < 64 := fun x hx => hasI_lt ((nodes_mem (card s) s rfl x).1 hx)
theorem less_range (s : NSet) (n : Int) : ∀ x ∈ lessL (nodes s) n, 0 ≤ x ∧ x < 64 := fun x hx => nodes_range s x (List.mem_filter.1 hx).1
theorem first_set (n : Int) : addL 0#64 (upto (fun _ => true) (min 64 n.toNat)) = firstI n := by
  apply BitVec.eq_of_getLsbD_eq
  intro i hi
  rw [addL_get i hi, BitVec.getLsbD_zero, Bool.false_or, firstI_get n i hi]
  congr 1
  rw [mem_upto]
  simp only [and_true, eq_iff_iff]
  omega
theorem first_range (m : Nat) (h : m ≤ 64) : ∀ x ∈ upto (fun _ => true) m, 0 ≤ x ∧ x < 64 := fun x hx => by
  have := mem_upto.1 hx
  omega
set_option maxRecDepth 100000 in
theorem bof_row (g o c : Nat) (l : List Int) (w : World) (hl : l.length ≤ 9223372036854775807) (hc : ∀ k, k < l.length → w.cell? ⟨g, o + k, none⟩ = some (.int .i64 (l.getD k 0))) :
    Calls Tryd.prog 12 #[.slice (some ⟨g, o, none⟩) l.length c] w fun e w' => e = .returned (.int .u64 (nv (addL 0#64 l))) ∧ w = w' := by
  have HC := Lib.hid hc
  clear hc
  go_enter Tryd.func12, Tryd.ntmps12
  go_wp2
  go_loop [3, 8] (fun s i => ∃ k : Nat, k ≤ l.length ∧ i = .int .i64 k ∧ s = .int .u64 (nv (addL 0#64 (l.take k)))) (fun _ i => l.length - (intOf i).toNat)
  case atStart => exact ⟨0, Nat.zero_le _, rfl, rfl⟩
  case round =>
    obtain ⟨k, hk, rfl, rfl⟩ := hrel
    by_cases hlt : k < l.length
    · have hcell := HC.out k hlt
      have e : addL 0#64 (l.take (k + 1)) = addL 0#64 (l.take k) ||| oneI (l.getD k 0) := by
        rw [List.take_succ_eq_append_getElem hlt, addL_snoc]
        simp [List.getD, hlt]
      have KW := Lib.hid (fun W => with_any (addL 0#64 (l.take k)) (l.getD k 0) W)
      rw [← e] at KW
      clear e
      generalize l.getD k 0 = x at *
      generalize hT : addL 0#64 (l.take (k + 1)) = T2 at *
      have HT := Lib.hid hT
      clear hT
      go_wp2_with (go_at_call 15; refine (KW.out _).mono ?_; rintro e w' ⟨rfl, rfl⟩)
      go_round
      case rel => exact ⟨k + 1, by omega, by go_num, by rw [HT.out]⟩
      case measure => simp [intOf]; omega
    · obtain rfl : k = l.length := by omega
      rw [List.take_of_length_le (Nat.le_refl _)]
      go_wp2
      go_ret
      exact ⟨rfl, rfl⟩
theorem bof_none (a : Option Addr) (c : Nat) (w : World) : Calls Tryd.prog 12 #[.slice a 0 c] w fun e w' => e = .returned (.int .u64 0) ∧ w = w' := by
  go_enter Tryd.func12, Tryd.ntmps12
  go_wp2
  go_loop [3, 8] (fun s i => i = .int .i64 0 ∧ s = .int .u64 0) (fun _ i => 0)
  case atStart => exact ⟨rfl, rfl⟩
  case round =>
    obtain ⟨rfl, rfl⟩ := hrel
    go_wp2
    go_ret
    exact ⟨rfl, rfl⟩
theorem bof_any {v : Value} {l : List Int} (w : World) (h : ReadsI w v l) : Calls Tryd.prog 12 #[v] w fun e w' => e = .returned (.int .u64 (nv (addL 0#64 l))) ∧ w = w' := by
  rcases h with ⟨rfl, a, c, rfl⟩ | ⟨h0, h1, g, o, c, rfl, _, hc⟩
  · exact bof_none a c w
  · exact bof_row g o c l w h1 hc
end Go.Proofs.YtkllhnfnkgkelaaDoor
