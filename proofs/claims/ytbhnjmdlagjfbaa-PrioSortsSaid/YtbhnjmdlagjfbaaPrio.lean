/- Contracts of the functions of layer 13 (prio) and of its reference on weights and facts. No condition but that arguments fit their kinds. -/
import Derived.Test.YtbhnjmdlagjfbaaTick
import Derived.Test.YtbhnjmdlagjfbaaTxt
import Derived.Test.YtbhnjmdlagjfbaaBoxC
import Derived.OpenShut
import Derived.Outline
import Derived.WalkLawsBesides
import Derived.RegionTactic
import Derived.BigRegion
import Derived.BigQuiet
import Derived.Deep.QuietTactic
import Derived.Deep.RegionHeld3
import Derived.Deep.DrawnRows
import Derived.Deep.DeepCutAuto
import Derived.Lib.Hide
import Derived.IntWalk
import Derived.LoopTactic
import Derived.Laws.AppendOwnNone
import Derived.OwnWalk
namespace Go.Proofs.Ytbhnjmdlagjfbaa
set_option linter.unusedVariables false
open Go.ChangeShapes Go.WideShapes Go.ChangeAt Go.RowKit
attribute [local go_sem ↓] Go.wp_at_zero Go.wp_at_succ comesTo_value_eq comesTo_skip_eq comesTo_enter_eq

def minI (x y : Int) : Int := if y < x then y else x
def maxI (x y : Int) : Int := if y > x then y else x
theorem run_minI {P : Program} (w : World) (ts : Array TypeId) (t : TypeId) (k k' : IntKind) (x y : Int) : (Builtin.min_ ts t #[.int k x, .int k' y]).run P w = .ok (.int k (minI x y)) w := run_min_int2 w ts t k k' x y
theorem run_maxI {P : Program} (w : World) (ts : Array TypeId) (t : TypeId) (k k' : IntKind) (x y : Int) : (Builtin.max_ ts t #[.int k x, .int k' y]).run P w = .ok (.int k (maxI x y)) w := run_max_int2 w ts t k k' x y
attribute [local go_sem high] run_minI run_maxI

theorem all_any (a b c d : Int) (w : World) :
    Calls Try.prog 146 #[.agg #[.int .i64 a, .int .i64 b, .int .i64 c, .int .i64 d]] w fun e w' => e = .returned (.agg #[.int .i64 a, .int .i64 b, .int .i64 c, .int .i64 d]) ∧ Below w.heap.size w w' := by
  go_enter Try.func146, Try.ntmps146
  go_wp2
  exact bodyPost_ret (v := .agg #[.int .i64 a, .int .i64 b, .int .i64 c, .int .i64 d]) (by simp [results, Try.results146, go_sem]) rfl ⟨rfl, (by repeat (first | exact Below.refl _ _ | assumption | refine below_drewN ?_ _ | refine Below.drew ?_ | refine below_alloc ?_ _ | refine Below.alloc ?_ (by first | omega | (simp; done) | (simp; omega)) _ | refine Below.setCell ?_ (Below.size (by assumption)) _ | refine Below.setCell ?_ (by first | omega | (simp; done) | (simp; omega)) _ | (refine Below.trans ?_ (Below.mono (by assumption) (by first | omega | (simp; done) | (simp; omega)))) | refine below_next ?_ (by assumption)))⟩

/-- may weights be? -/
def RightP (a b c d : Int) : Prop := (0 ≤ a ∧ a ≤ 1000) ∧ (0 ≤ b ∧ b ≤ 1000) ∧ (0 ≤ c ∧ c ≤ 1000) ∧ 0 ≤ d ∧ d ≤ 1000
def rightB (a b c d : Int) : Bool := decide ((0 ≤ a ∧ a ≤ 1000) ∧ (0 ≤ b ∧ b ≤ 1000) ∧ (0 ≤ c ∧ c ≤ 1000) ∧ 0 ≤ d ∧ d ≤ 1000)
theorem rightB_iff (a b c d : Int) : rightB a b c d = true ↔ RightP a b c d := by unfold rightB RightP; rw [decide_eq_true_iff]

theorem right_any (a b c d : Int) (w : World) :
    Calls Try.prog 145 #[.agg #[.int .i64 a, .int .i64 b, .int .i64 c, .int .i64 d]] w fun e w' => e = .returned (.bool (rightB a b c d)) ∧ Below w.heap.size w w' := by
  have i0 : ∀ w, (Instr.index 203 (.agg #[.int .i64 a, .int .i64 b, .int .i64 c, .int .i64 d]) (.int .i64 0)).run Try.prog w = .ok (.int .i64 a) w := fun _ => by kernel_rfl
  have i1 : ∀ w, (Instr.index 203 (.agg #[.int .i64 a, .int .i64 b, .int .i64 c, .int .i64 d]) (.int .i64 1)).run Try.prog w = .ok (.int .i64 b) w := fun _ => by kernel_rfl
  have i2 : ∀ w, (Instr.index 203 (.agg #[.int .i64 a, .int .i64 b, .int .i64 c, .int .i64 d]) (.int .i64 2)).run Try.prog w = .ok (.int .i64 c) w := fun _ => by kernel_rfl
  have i3 : ∀ w, (Instr.index 203 (.agg #[.int .i64 a, .int .i64 b, .int .i64 c, .int .i64 d]) (.int .i64 3)).run Try.prog w = .ok (.int .i64 d) w := fun _ => by kernel_rfl
  have HQ := Lib.hid (rightB_iff a b c d)
  generalize rightB a b c d = R at *
  go_enter Try.func145, Try.ntmps145
  go_wp2_with (go_at_call 146; refine (all_any _ _ _ _ _).mono ?_; rintro e w1 ⟨rfl, hb1⟩)
  have HB := Lib.hid (show Below w.heap.size w w1 from Below.trans (by exact (by repeat (first | exact Below.refl _ _ | assumption | refine below_drewN ?_ _ | refine Below.drew ?_ | refine below_alloc ?_ _ | refine Below.alloc ?_ (by first | omega | (simp; done) | (simp; omega)) _ | refine Below.setCell ?_ (Below.size (by assumption)) _ | refine Below.setCell ?_ (by first | omega | (simp; done) | (simp; omega)) _ | (refine Below.trans ?_ (Below.mono (by assumption) (by first | omega | (simp; done) | (simp; omega)))) | refine below_next ?_ (by assumption)))) (hb1.mono (by simp)))
  clear hb1
  go_loop [7] (fun i => ∃ k : Int, 0 ≤ k ∧ k ≤ 4 ∧ i = .int .i64 k ∧ (0 < k → 0 ≤ a ∧ a ≤ 1000) ∧ (1 < k → 0 ≤ b ∧ b ≤ 1000) ∧ (2 < k → 0 ≤ c ∧ c ≤ 1000) ∧ (3 < k → 0 ≤ d ∧ d ≤ 1000)) (fun i => 4 - (intOf i).toNat)
  case atStart => exact ⟨0, by omega, by omega, rfl, by omega, by omega, by omega, by omega⟩
  case round =>
    obtain ⟨k, hk0, hk, rfl, r0, r1, r2, r3⟩ := hrel
    have HR := Lib.hid (And.intro r0 (And.intro r1 (And.intro r2 r3)))
    clear r0 r1 r2 r3
    have hk5 : k = 0 ∨ k = 1 ∨ k = 2 ∨ k = 3 ∨ k = 4 := by omega
    clear hk0 hk
    rcases hk5 with rfl | rfl | rfl | rfl | rfl
    · by_cases h0 : a < 0
      · go_wp2
        go_ret
        exact ⟨ret_bool (Eq.symm (by rw [← Bool.not_eq_true, HQ.out]; unfold RightP; omega)), HB.out⟩
      · by_cases h1 : 1000 < a
        · go_wp2
          go_ret
          exact ⟨ret_bool (Eq.symm (by rw [← Bool.not_eq_true, HQ.out]; unfold RightP; omega)), HB.out⟩
        · go_wp2
          go_round
          case rel => exact ⟨1, by omega, by omega, rfl, fun h => ⟨by omega, by omega⟩, fun h => by omega, fun h => by omega, fun h => by omega⟩
          case measure => simp [intOf]
    · by_cases h0 : b < 0
      · go_wp2
        go_ret
        exact ⟨ret_bool (Eq.symm (by rw [← Bool.not_eq_true, HQ.out]; unfold RightP; omega)), HB.out⟩
      · by_cases h1 : 1000 < b
        · go_wp2
          go_ret
          exact ⟨ret_bool (Eq.symm (by rw [← Bool.not_eq_true, HQ.out]; unfold RightP; omega)), HB.out⟩
        · go_wp2
          go_round
          case rel => exact ⟨2, by omega, by omega, rfl, fun h => HR.out.1 (by omega), fun h => ⟨by omega, by omega⟩, fun h => by omega, fun h => by omega⟩
          case measure => simp [intOf]
    · by_cases h0 : c < 0
      · go_wp2
        go_ret
        exact ⟨ret_bool (Eq.symm (by rw [← Bool.not_eq_true, HQ.out]; unfold RightP; omega)), HB.out⟩
      · by_cases h1 : 1000 < c
        · go_wp2
          go_ret
          exact ⟨ret_bool (Eq.symm (by rw [← Bool.not_eq_true, HQ.out]; unfold RightP; omega)), HB.out⟩
        · go_wp2
          go_round
          case rel => exact ⟨3, by omega, by omega, rfl, fun h => HR.out.1 (by omega), fun h => HR.out.2.1 (by omega), fun h => ⟨by omega, by omega⟩, fun h => by omega⟩
          case measure => simp [intOf]
    · by_cases h0 : d < 0
      · go_wp2
        go_ret
        exact ⟨ret_bool (Eq.symm (by rw [← Bool.not_eq_true, HQ.out]; unfold RightP; omega)), HB.out⟩
      · by_cases h1 : 1000 < d
        · go_wp2
          go_ret
          exact ⟨ret_bool (Eq.symm (by rw [← Bool.not_eq_true, HQ.out]; unfold RightP; omega)), HB.out⟩
        · go_wp2
          go_round
          case rel => exact ⟨4, by omega, by omega, rfl, fun h => HR.out.1 (by omega), fun h => HR.out.2.1 (by omega), fun h => HR.out.2.2.1 (by omega), fun h => ⟨by omega, by omega⟩⟩
          case measure => simp [intOf]
    · go_wp2
      go_ret
      exact ⟨ret_bool (Eq.symm (HQ.out.2 ⟨HR.out.1 (by omega), HR.out.2.1 (by omega), HR.out.2.2.1 (by omega), HR.out.2.2.2 (by omega)⟩)), HB.out⟩
end Go.Proofs.Ytbhnjmdlagjfbaa
