/- For any weights, facts and numbers, the law PrioAges of layer 13 returns true, and its arguments read as before. No condition. -/
import Derived.Test.YtnmhdodcfbjalaaPrioAges
import Derived.ShutString
import Derived.ChangeOld
import Derived.Carry
import Derived.Lib.SmallJoins
import Derived.JoinedCond
import Derived.Laws.IdiomArrays
namespace Go.Proofs.Ytnmhdodcfbjalaa.lawPrioAges
set_option linter.unusedVariables false
open Go.Proofs.Ytnmhdodcfbjalaa
open Go.ChangeShapes Go.WideShapes Go.ChangeAt Go.RowKit
open Go.ChangeMaps (open_string shut_string)
open Go.Joins (open_agg2 open_agg3 open_agg4 array3 array4)

theorem cells71 : Try.prog.cellsOf 71 = 4 := by kernel_rfl
theorem cells69 : Try.prog.cellsOf 69 = 4 := by kernel_rfl
theorem own : ownKnob Try.prog.godebug = none := by kernel_rfl
theorem laidOut : laidOutB Try.prog = true := by kernel_rfl
set_option maxRecDepth 100000 in
theorem lifted (os : Os) (started : os.Started) (H : Type) (enc : TypeId × Value → H) :
    ReturnsInHanded {} Try.checked os 12 .any (Rows.prioAgesSpec.pre6 enc Try.prog Try.f12 Rows.prioAgesRow.domain false) (Rows.prioAgesSpec.post enc Try.prog Try.f12 false true false false) := by
  refine returnsInHanded_of_change (C := Try.checked) own started (by kernel_rfl) Try.func12
    (ChangeSpec.witness6 (enc := enc) (C := Try.checked) false ⟨#[], #[.agg #[.int .i64 0, .int .i64 0, .int .i64 0, .int .i64 0], .agg #[.int .i64 0, .int .i64 0, .int .i64 0, .int .i64 0], .agg #[.int .i64 0, .int .i64 0, .int .i64 0, .int .i64 0]], []⟩ 8 (by kernel_rfl) (by kernel_rfl) (by kernel_rfl) (by kernel_rfl)) ?_
  intro W base args ds gs before hval0 hW _ _
  have hval : ∀ (j : Nat) t v, Try.f12.params[j]? = some t → args[j]? = some v → Value.okWide Try.prog W .any base t v := hval0
  have hW' := hW
  obtain ⟨p, q, hA0, hV, rfl, _, _⟩ := hW
  have hA : DataW.TrodAll enc Try.prog W 0 (fun _ => true) true Try.f12.params.toList args.toList ds p := hA0
  rw [Try.params12] at hA hval
  obtain ⟨v0, vs0, d0, ds0, p0, q0, hargs, rfl, rfl, h0, r0⟩ := trodAll_cons hA
  obtain ⟨v1, vs1, d1, ds1, p1, q1, rfl, rfl, rfl, h1, r1⟩ := trodAll_cons r0
  obtain ⟨v2, vs2, d2, ds2, p2, q2, rfl, rfl, rfl, h2, r2⟩ := trodAll_cons r1
  obtain ⟨rfl, rfl, rfl⟩ := trodAll_nil r2
  obtain rfl : args = #[v0, v1, v2] := by cases args; simp_all
  obtain ⟨rfl, rfl⟩ := trodVars_none hV
  have k0 := h0
  have lt0 : ∀ x ∈ p0, x.block < W.heap.size := by obtain ⟨m, hm⟩ := k0; exact DataW.trod_lt m _ _ _ hm
  have k1 := h1
  have lt1 : ∀ x ∈ p1, x.block < W.heap.size := by obtain ⟨m, hm⟩ := k1; exact DataW.trod_lt m _ _ _ hm
  have k2 := h2
  have lt2 : ∀ x ∈ p2, x.block < W.heap.size := by obtain ⟨m, hm⟩ := k2; exact DataW.trod_lt m _ _ _ hm
  obtain ⟨c0_0, c0_1, c0_2, c0_3, y0_0, y0_1, y0_2, y0_3, fu0, rfl, rfl, hp0, hy0_0, hy0_1, hy0_2, hy0_3⟩ := open_agg4 Try.underlying69 (by kernel_rfl) cells69 (hval 0 69 v0 rfl rfl) h0
  obtain ⟨f0_0, e0_0, ey0_0, w0_0⟩ := DataW.trod_int Try.underlying3 hy0_0
  obtain rfl : c0_0 = .int .i64 f0_0 := by simpa using e0_0
  have g0_0 : (-9223372036854775808 : Int) ≤ f0_0 ∧ f0_0 ≤ 9223372036854775807 := by simpa [Lit.wf, IntKind.min, IntKind.max, IntKind.signed, IntKind.bits] using w0_0
  obtain ⟨f0_1, e0_1, ey0_1, w0_1⟩ := DataW.trod_int Try.underlying3 hy0_1
  obtain rfl : c0_1 = .int .i64 f0_1 := by simpa using e0_1
  have g0_1 : (-9223372036854775808 : Int) ≤ f0_1 ∧ f0_1 ≤ 9223372036854775807 := by simpa [Lit.wf, IntKind.min, IntKind.max, IntKind.signed, IntKind.bits] using w0_1
  obtain ⟨f0_2, e0_2, ey0_2, w0_2⟩ := DataW.trod_int Try.underlying3 hy0_2
  obtain rfl : c0_2 = .int .i64 f0_2 := by simpa using e0_2
  have g0_2 : (-9223372036854775808 : Int) ≤ f0_2 ∧ f0_2 ≤ 9223372036854775807 := by simpa [Lit.wf, IntKind.min, IntKind.max, IntKind.signed, IntKind.bits] using w0_2
  obtain ⟨f0_3, e0_3, ey0_3, w0_3⟩ := DataW.trod_int Try.underlying3 hy0_3
  obtain rfl : c0_3 = .int .i64 f0_3 := by simpa using e0_3
  have g0_3 : (-9223372036854775808 : Int) ≤ f0_3 ∧ f0_3 ≤ 9223372036854775807 := by simpa [Lit.wf, IntKind.min, IntKind.max, IntKind.signed, IntKind.bits] using w0_3
  obtain ⟨c1_0, c1_1, c1_2, c1_3, y1_0, y1_1, y1_2, y1_3, fu1, rfl, rfl, hp1, hy1_0, hy1_1, hy1_2, hy1_3⟩ := open_agg4 Try.underlying71 (by kernel_rfl) cells71 (hval 1 71 v1 rfl rfl) h1
  obtain ⟨f1_0, e1_0, ey1_0, w1_0⟩ := DataW.trod_int Try.underlying22 hy1_0
  obtain rfl : c1_0 = .int .i64 f1_0 := by simpa using e1_0
  have g1_0 : (-9223372036854775808 : Int) ≤ f1_0 ∧ f1_0 ≤ 9223372036854775807 := by simpa [Lit.wf, IntKind.min, IntKind.max, IntKind.signed, IntKind.bits] using w1_0
  obtain ⟨f1_1, e1_1, ey1_1, w1_1⟩ := DataW.trod_int Try.underlying3 hy1_1
  obtain rfl : c1_1 = .int .i64 f1_1 := by simpa using e1_1
  have g1_1 : (-9223372036854775808 : Int) ≤ f1_1 ∧ f1_1 ≤ 9223372036854775807 := by simpa [Lit.wf, IntKind.min, IntKind.max, IntKind.signed, IntKind.bits] using w1_1
  obtain ⟨f1_2, e1_2, ey1_2, w1_2⟩ := DataW.trod_int Try.underlying3 hy1_2
  obtain rfl : c1_2 = .int .i64 f1_2 := by simpa using e1_2
  have g1_2 : (-9223372036854775808 : Int) ≤ f1_2 ∧ f1_2 ≤ 9223372036854775807 := by simpa [Lit.wf, IntKind.min, IntKind.max, IntKind.signed, IntKind.bits] using w1_2
  obtain ⟨f1_3, e1_3, ey1_3, w1_3⟩ := DataW.trod_int Try.underlying3 hy1_3
  obtain rfl : c1_3 = .int .i64 f1_3 := by simpa using e1_3
  have g1_3 : (-9223372036854775808 : Int) ≤ f1_3 ∧ f1_3 ≤ 9223372036854775807 := by simpa [Lit.wf, IntKind.min, IntKind.max, IntKind.signed, IntKind.bits] using w1_3
  obtain ⟨cs2, rfl, hsz2, _⟩ : ∃ cs, v2 = .agg cs ∧ cs.size = Try.prog.cellsOf 86 ∧ Row.okWide Try.prog W .any base 86 cs := by
    have := hval 2 86 v2 rfl rfl
    simpa [Value.okWide, Try.underlying86] using this
  obtain ⟨c2_0, c2_1, c2_2, c2_3, rfl⟩ := array4 (hsz2.trans (by kernel_rfl : Try.prog.cellsOf 86 = 4))
  obtain ⟨fu2, hf2⟩ := h2
  obtain ⟨y2_0, y2_1, y2_2, y2_3, n2, hx2, hy2_0, hy2_1, hy2_2, hy2_3⟩ := trod_array4 Try.underlying86 (by kernel_rfl) hf2
  obtain ⟨f2_0, e2_0, ey2_0, w2_0⟩ := DataW.trod_int Try.underlying3 hy2_0
  obtain rfl : c2_0 = .int .i64 f2_0 := by simpa using e2_0
  have g2_0 : (-9223372036854775808 : Int) ≤ f2_0 ∧ f2_0 ≤ 9223372036854775807 := by simpa [Lit.wf, IntKind.min, IntKind.max, IntKind.signed, IntKind.bits] using w2_0
  obtain ⟨f2_1, e2_1, ey2_1, w2_1⟩ := DataW.trod_int Try.underlying3 hy2_1
  obtain rfl : c2_1 = .int .i64 f2_1 := by simpa using e2_1
  have g2_1 : (-9223372036854775808 : Int) ≤ f2_1 ∧ f2_1 ≤ 9223372036854775807 := by simpa [Lit.wf, IntKind.min, IntKind.max, IntKind.signed, IntKind.bits] using w2_1
  obtain ⟨f2_2, e2_2, ey2_2, w2_2⟩ := DataW.trod_int Try.underlying3 hy2_2
  obtain rfl : c2_2 = .int .i64 f2_2 := by simpa using e2_2
  have g2_2 : (-9223372036854775808 : Int) ≤ f2_2 ∧ f2_2 ≤ 9223372036854775807 := by simpa [Lit.wf, IntKind.min, IntKind.max, IntKind.signed, IntKind.bits] using w2_2
  obtain ⟨f2_3, e2_3, ey2_3, w2_3⟩ := DataW.trod_int Try.underlying3 hy2_3
  obtain rfl : c2_3 = .int .i64 f2_3 := by simpa using e2_3
  have g2_3 : (-9223372036854775808 : Int) ≤ f2_3 ∧ f2_3 ≤ 9223372036854775807 := by simpa [Lit.wf, IntKind.min, IntKind.max, IntKind.signed, IntKind.bits] using w2_3
  clear hA0 hval0
  refine (ages_walk f0_0 f0_1 f0_2 f0_3 f1_0 f1_1 f1_2 f1_3 f2_0 f2_1 f2_2 f2_3 W).mono fun e W' ⟨he, bel⟩ => ?_
  subst he
  exact ⟨_, rfl, _, _, _, [], _, [], hW', trodAll_mk1 (shut_bool Try.underlying4 _), (trodAll_cons_mk (Below.trod laidOut (by kernel_rfl) (of_decide_eq_true (by kernel_rfl)) k0 bel lt0) (trodAll_cons_mk (Below.trod laidOut (by kernel_rfl) (of_decide_eq_true (by kernel_rfl)) k1 bel lt1) (trodAll_cons_mk (Below.trod laidOut (by kernel_rfl) (of_decide_eq_true (by kernel_rfl)) k2 bel lt2) trodAll_mk0))), rfl, bel.frame _, fun h => by cases h⟩

/-- THE STATEMENT. -/
theorem proved : Rows.PrioAgesSaid :=
  OpenClaim.holds_of_wide 12 Try.f12 rfl rfl rfl rfl rfl rfl rfl ⟨rfl, rfl, rfl, rfl, rfl⟩ rfl rfl rfl rfl rfl (by kernel_rfl) Try.func12 (by kernel_rfl)
    (of_decide_eq_true (by kernel_rfl)) (by unfold Func.isWrapper; first | (rw [if_pos (by decide +kernel)]; kernel_rfl) | (rw [if_neg (by decide +kernel)]; exact ⟨rfl, rfl⟩))
    (fun os started H enc _ => lifted os started H enc)
end Go.Proofs.Ytnmhdodcfbjalaa.lawPrioAges
