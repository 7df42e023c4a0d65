/- For any times and number, the law TimersMoves of layer 17 returns true, and its arguments read as before. No condition. -/
import Derived.Test.YtfakejfpicjedaaTmN
import Derived.ShutString
import Derived.ChangeOld
import Derived.Carry
import Derived.Lib.SmallJoins
import Derived.JoinedCond
import Derived.Laws.IdiomArrays
namespace Go.Proofs.Ytfakejfpicjedaa.lawTimersMoves
set_option linter.unusedVariables false
open Go.Proofs.Ytfakejfpicjedaa
open Go.ChangeShapes Go.WideShapes Go.ChangeAt Go.RowKit
open Go.ChangeMaps (open_string shut_string)
open Go.Joins (open_agg2 open_agg3 open_agg4 array3 array4)

theorem own : ownKnob Try.prog.godebug = none := by kernel_rfl
theorem laidOut : laidOutB Try.prog = true := by kernel_rfl
set_option maxRecDepth 100000 in
theorem lifted (os : Os) (started : os.Started) (H : Type) (enc : TypeId × Value → H) :
    ReturnsInHanded {} Try.checked os 7 .any (Rows.timersMovesSpec.pre6 enc Try.prog Try.f7 Rows.timersMovesRow.domain false) (Rows.timersMovesSpec.post enc Try.prog Try.f7 false true false false) := by
  refine returnsInHanded_of_change (C := Try.checked) own started (by kernel_rfl) Try.func7
    (ChangeSpec.witness6 (enc := enc) (C := Try.checked) false ⟨#[], #[.agg #[.int .i64 0, .int .i64 0, .int .i64 0, .int .i64 0], .int .i64 0], []⟩ 8 (by kernel_rfl) (by kernel_rfl) (by kernel_rfl) (by kernel_rfl)) ?_
  intro W base args ds gs before hval0 hW _ _
  have hval : ∀ (j : Nat) t v, Try.f7.params[j]? = some t → args[j]? = some v → Value.okWide Try.prog W .any base t v := hval0
  have hW' := hW
  obtain ⟨p, q, hA0, hV, rfl, _, _⟩ := hW
  have hA : DataW.TrodAll enc Try.prog W 0 (fun _ => true) true Try.f7.params.toList args.toList ds p := hA0
  rw [Try.params7] at hA hval
  obtain ⟨v0, vs0, d0, ds0, p0, q0, hargs, rfl, rfl, h0, r0⟩ := trodAll_cons hA
  obtain ⟨v1, vs1, d1, ds1, p1, q1, rfl, rfl, rfl, h1, r1⟩ := trodAll_cons r0
  obtain ⟨rfl, rfl, rfl⟩ := trodAll_nil r1
  obtain rfl : args = #[v0, v1] := by cases args; simp_all
  obtain ⟨rfl, rfl⟩ := trodVars_none hV
  have k0 := h0
  have lt0 : ∀ x ∈ p0, x.block < W.heap.size := by obtain ⟨m, hm⟩ := k0; exact DataW.trod_lt m _ _ _ hm
  have k1 := h1
  have lt1 : ∀ x ∈ p1, x.block < W.heap.size := by obtain ⟨m, hm⟩ := k1; exact DataW.trod_lt m _ _ _ hm
  obtain ⟨a1, rfl, rfl, rfl, w1⟩ := open_int Try.underlying3 (hval 1 3 v1 rfl rfl) h1
  have l1 : (-9223372036854775808 : Int) ≤ a1 ∧ a1 ≤ 9223372036854775807 := by simpa [Lit.wf, IntKind.min, IntKind.max, IntKind.signed, IntKind.bits] using w1
  obtain ⟨cs0, rfl, hsz0, _⟩ : ∃ cs, v0 = .agg cs ∧ cs.size = Try.prog.cellsOf 56 ∧ Row.okWide Try.prog W .any base 56 cs := by
    have := hval 0 56 v0 rfl rfl
    simpa [Value.okWide, Try.underlying56] using this
  obtain ⟨c0_0, c0_1, c0_2, c0_3, rfl⟩ := array4 (hsz0.trans (by kernel_rfl : Try.prog.cellsOf 56 = 4))
  obtain ⟨fu0, hf0⟩ := h0
  obtain ⟨y0_0, y0_1, y0_2, y0_3, n0, hx0, hy0_0, hy0_1, hy0_2, hy0_3⟩ := trod_array4 Try.underlying56 (by kernel_rfl) hf0
  obtain ⟨f0_0, e0_0, ey0_0, w0_0⟩ := DataW.trod_int Try.underlying27 hy0_0
  obtain rfl : c0_0 = .int .i64 f0_0 := by simpa using e0_0
  have g0_0 : (-9223372036854775808 : Int) ≤ f0_0 ∧ f0_0 ≤ 9223372036854775807 := by simpa [Lit.wf, IntKind.min, IntKind.max, IntKind.signed, IntKind.bits] using w0_0
  obtain ⟨f0_1, e0_1, ey0_1, w0_1⟩ := DataW.trod_int Try.underlying27 hy0_1
  obtain rfl : c0_1 = .int .i64 f0_1 := by simpa using e0_1
  have g0_1 : (-9223372036854775808 : Int) ≤ f0_1 ∧ f0_1 ≤ 9223372036854775807 := by simpa [Lit.wf, IntKind.min, IntKind.max, IntKind.signed, IntKind.bits] using w0_1
  obtain ⟨f0_2, e0_2, ey0_2, w0_2⟩ := DataW.trod_int Try.underlying27 hy0_2
  obtain rfl : c0_2 = .int .i64 f0_2 := by simpa using e0_2
  have g0_2 : (-9223372036854775808 : Int) ≤ f0_2 ∧ f0_2 ≤ 9223372036854775807 := by simpa [Lit.wf, IntKind.min, IntKind.max, IntKind.signed, IntKind.bits] using w0_2
  obtain ⟨f0_3, e0_3, ey0_3, w0_3⟩ := DataW.trod_int Try.underlying27 hy0_3
  obtain rfl : c0_3 = .int .i64 f0_3 := by simpa using e0_3
  have g0_3 : (-9223372036854775808 : Int) ≤ f0_3 ∧ f0_3 ≤ 9223372036854775807 := by simpa [Lit.wf, IntKind.min, IntKind.max, IntKind.signed, IntKind.bits] using w0_3
  clear hA0 hval0
  refine (tmoves_walk f0_0 f0_1 f0_2 f0_3 a1 W).mono fun e W' ⟨he, bel⟩ => ?_
  subst he
  exact ⟨_, rfl, _, _, _, [], _, [], hW', trodAll_mk1 (shut_bool Try.underlying4 _), (trodAll_cons_mk (Below.trod laidOut (by kernel_rfl) (of_decide_eq_true (by kernel_rfl)) k0 bel lt0) (trodAll_cons_mk (Below.trod laidOut (by kernel_rfl) (of_decide_eq_true (by kernel_rfl)) k1 bel lt1) trodAll_mk0)), rfl, bel.frame _, fun h => by cases h⟩

/-- THE STATEMENT. -/
theorem proved : Rows.TimersMovesSaid :=
  OpenClaim.holds_of_wide 7 Try.f7 rfl rfl rfl rfl rfl rfl rfl ⟨rfl, rfl, rfl, rfl, rfl⟩ rfl rfl rfl rfl rfl (by kernel_rfl) Try.func7 (by kernel_rfl)
    (of_decide_eq_true (by kernel_rfl)) (by unfold Func.isWrapper; first | (rw [if_pos (by decide +kernel)]; kernel_rfl) | (rw [if_neg (by decide +kernel)]; exact ⟨rfl, rfl⟩))
    (fun os started H enc _ => lifted os started H enc)
end Go.Proofs.Ytfakejfpicjedaa.lawTimersMoves
