/- Levels (layer 10): what levels are in memory; bound, there, Flat, and runs over any visitor. No condition but the lengths' bound. -/
import Derived.Test.YtbhnjmdlagjfbaaMab
import Derived.Test.YtbhnjmdlagjfbaaMFr
import Derived.Test.YtbhnjmdlagjfbaaMad
namespace Go.Proofs.Ytbhnjmdlagjfbaa
set_option linter.unusedVariables false
open Go.ChangeShapes Go.WideShapes Go.ChangeAt Go.RowKit
attribute [local go_sem ↓] Go.wp_at_zero Go.wp_at_succ comesTo_value_eq comesTo_skip_eq comesTo_enter_eq

/-- a level kept in its bounds -/
def boundU (n : Int) : Int := if n < -1000000 then -1000000 else if 1000000 < n then 1000000 else n
theorem boundU_in (n : Int) : -1000000 ≤ boundU n ∧ boundU n ≤ 1000000 := by unfold boundU; split; omega; split <;> omega
theorem boundU_id {n : Int} (h : -1000000 ≤ n ∧ n ≤ 1000000) : boundU n = n := by unfold boundU; rw [if_neg (by omega), if_neg (by omega)]
theorem bound_any (n : Int) (w : World) : Calls Try.prog 100 #[.int .i64 n] w fun e w' => e = .returned (.int .i64 (boundU n)) ∧ w = w' := by
  by_cases h1 : n < -1000000
  · have E : boundU n = -1000000 := by unfold boundU; rw [if_pos h1]
    rw [E]
    go_enter Try.func100, Try.ntmps100
    go_wp2
    go_ret
    exact ⟨rfl, rfl⟩
  · by_cases h2 : 1000000 < n
    · have E : boundU n = 1000000 := by unfold boundU; rw [if_neg h1, if_pos h2]
      have h3 : -1000000 ≤ n := by omega
      rw [E]
      go_enter Try.func100, Try.ntmps100
      go_wp2
      go_ret
      exact ⟨rfl, rfl⟩
    · have E : boundU n = n := boundU_id (by omega)
      have h3 : -1000000 ≤ n := by omega
      have h4 : n ≤ 1000000 := by omega
      rw [E]
      go_enter Try.func100, Try.ntmps100
      go_wp2
      go_ret
      exact ⟨rfl, rfl⟩
/-- steps in a row of memory: a time and a level, one behind the other -/
def URow (w : World) (g : Nat) (L : List (Int × Int)) : Prop := ∀ k, k < L.length → w.cell? ⟨g, k * 2, none⟩ = some (.int .i64 (L.getD k (0, 0)).1) ∧ w.cell? ⟨g, k * 2 + 1, none⟩ = some (.int .i64 (L.getD k (0, 0)).2)
theorem URow.mono {w w' : World} {g : Nat} {L : List (Int × Int)} (h : URow w g L) (he : w'.heap[g]? = w.heap[g]?) : URow w' g L := fun k hk => by
  have := h k hk
  unfold World.cell? at *
  simp only [he]
  exact this
/-- levels in block S -/
structure USt (w : World) (S : Nat) (L : List (Int × Int)) : Prop where
  at_ : ∃ g c, g ≠ S ∧ w.heap[S]? = some (.cells #[.slice (some ⟨g, 0, none⟩) L.length c] 162 (0, 0)) ∧ L.length ≤ c ∧ g < w.heap.size ∧ URow w g L
  pos : 0 < L.length
  len : L.length ≤ 1099511627776
theorem USt.below {w w' : World} {S : Nat} {L : List (Int × Int)} (h : USt w S L) (hb : Below w.heap.size w w') : USt w' S L := by
  obtain ⟨g, c, hg, hS, hc, hs, hr⟩ := h.at_
  exact ⟨⟨g, c, hg, (hb.block _ (Array.getElem?_eq_some_iff.1 hS).1).trans hS, hc, Nat.lt_of_lt_of_le hs hb.size, hr.mono (hb.block _ hs)⟩, h.pos, h.len⟩
theorem there_any {w : World} {S : Nat} {L : List (Int × Int)} (h : USt w S L) : Calls Try.prog 112 #[.pointer (some ⟨S, 0, none⟩)] w fun e w' => e = .returned (.bool true) ∧ w = w' := by
  obtain ⟨g, c, hg, hb, hc, hs, hr⟩ := h.at_
  have hp := h.pos
  have hd : decide ((L.length : Int) > 0) = true := decide_eq_true (by omega)
  have c0 := cell_of_block (o := 0) hb rfl
  clear hb hr h
  go_enter Try.func112, Try.ntmps112
  go_wp2
  go_ret
  exact ⟨rfl, rfl⟩
theorem there_nil (w : World) : Calls Try.prog 112 #[.pointer none] w fun e w' => e = .returned (.bool false) ∧ w = w' := by
  go_enter Try.func112, Try.ntmps112
  go_wp2
  go_ret
  exact ⟨rfl, rfl⟩
theorem there_none {w : World} {S : Nat} (hb : w.cell? ⟨S, 0, none⟩ = some (.slice none 0 0)) : Calls Try.prog 112 #[.pointer (some ⟨S, 0, none⟩)] w fun e w' => e = .returned (.bool false) ∧ w = w' := by
  go_enter Try.func112, Try.ntmps112
  go_wp2
  go_ret
  exact ⟨rfl, rfl⟩
end Go.Proofs.Ytbhnjmdlagjfbaa
