/- A cursor in memory: what it holds; what its readings answer, and leave. No condition. -/
import Derived.Test.YtbhnjmdlagjfbaaAs
import Derived.Test.YtbhnjmdlagjfbaaMFr
import Derived.Test.YtbhnjmdlagjfbaaCodP
namespace Go.Proofs.Ytbhnjmdlagjfbaa
set_option linter.unusedVariables false
open Go.ChangeShapes Go.WideShapes Go.ChangeAt Go.RowKit
attribute [local go_sem ↓] Go.wp_at_zero Go.wp_at_succ comesTo_value_eq comesTo_skip_eq comesTo_enter_eq

/-- an error, as it is held -/
def badV (e : Int) : Value := if e = 0 then .nilIface else .iface 47 (.int .i64 e)
/-- what a cursor holds: what is left, what was wrong -/
structure CS where
  xs : List Int
  bad : Int
theorem TxtAt.form {w : World} {ad : Option Addr} {n c : Nat} {xs : List Int} (h : TxtAt w (.slice ad n c) xs) : n = xs.length ∧ ((ad = none ∧ xs = []) ∨ (xs = [] ∧ ad.isSome) ∨ ∃ b o, ad = some ⟨b, o, none⟩ ∧ 0 < n ∧ BytesRow w b o xs) := by
  rcases h with ⟨b, o, cap, h1, h2, h3⟩ | ⟨rfl, a, cap, h1, h2⟩
  · injection h1 with e1 e2 e3
    subst e1 e2 e3
    exact ⟨rfl, .inr (.inr ⟨b, o, rfl, h2, h3⟩)⟩
  · injection h1 with e1 e2 e3
    subst e1 e2 e3
    cases ad with
    | none => exact ⟨rfl, .inl ⟨rfl, rfl⟩⟩
    | some p => exact ⟨rfl, .inr (.inl ⟨rfl, rfl⟩)⟩
/-- bytes where their block is as it was -/
theorem TxtAt.of_blocks {w w' : World} {ad : Option Addr} {n c : Nat} {xs : List Int} (h : TxtAt w (.slice ad n c) xs) (hb : ∀ p, ad = some p → p.block < w.heap.size → w'.heap[p.block]? = w.heap[p.block]?) : TxtAt w' (.slice ad n c) xs := by
  rcases h with ⟨b, o, cap, h1, h2, h3⟩ | h
  · refine .inl ⟨b, o, cap, h1, h2, ⟨fun k hk => ?_, h3.lo, h3.hi, h3.len⟩⟩
    injection h1 with e1 e2 e3
    subst e1 e2 e3
    have hlt := World.block_lt_of_cell? w _ (h3.cell 0 (by omega))
    have := hb _ rfl hlt
    have hc := h3.cell k hk
    simp only [World.cell?, this] at hc ⊢
    exact hc
  · exact .inr h
def failF (st : CS) (e : Int) : CS := if st.bad = 0 then ⟨[], e⟩ else st
theorem fold_any {v : Int} (hv : -9223372036854775808 ≤ v ∧ v ≤ 9223372036854775807) (w : World) : Calls Try.prog 156 #[.int .i64 v] w fun e w' => e = .returned (.int .u64 (foldF v : Int)) ∧ w = w' := by
  have H := Lib.hid (fold_bits hv)
  clear hv
  go_enter Try.func156, Try.ntmps156
  go_wp2
  go_ret
  rw [← H.out]
  exact ⟨rfl, rfl⟩
end Go.Proofs.Ytbhnjmdlagjfbaa
