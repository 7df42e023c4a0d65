/- For any acts, drain and times, the law RollTimes of layer 21 returns true, and its arguments read as before, where the table of trailing zeros (math/bits) is laid as the text lays it (the card ties that). No condition. -/
import Derived.Test.YtdamemdfehopeaaDoorCards
import Derived.Test.YtdamemdfehopeaaDoorTie
import Derived.Test.YtdamemdfehopeaaDoorMRtb
import Derived.Test.YtdamemdfehopeaaDoorMan
import Derived.Test.YtdamemdfehopeaaDoorArr5
import Derived.Deep.DeepHandedRow
import Derived.Lib.LaidTab
import Derived.ShutString
import Derived.ChangeOld
import Derived.Carry
import Derived.Lib.SmallJoins
import Derived.JoinedCond
import Derived.Laws.IdiomArrays
namespace Go.Proofs.YtdamemdfehopeaaDoor.lawRollTimes
set_option linter.unusedVariables false
open Go.Proofs.YtdamemdfehopeaaDoor
open Go.ChangeShapes Go.WideShapes Go.ChangeAt Go.RowKit
open Go.ChangeMaps (open_string shut_string)
open Go.Joins (open_agg2 open_agg3 open_agg4 array3 array4)

theorem cells63 : Tryd.prog.cellsOf 63 = 4 := by kernel_rfl
theorem own : ownKnob Tryd.prog.godebug = none := by kernel_rfl
theorem laidOut : laidOutB Tryd.prog = true := by kernel_rfl
set_option maxRecDepth 100000 in
theorem contract (H : Type) (enc : TypeId × Value → H) (W : World) (base : Nat) (args : Array Value) (ds gs : List (DataW H)) (before : List MemPlace)
    (hval0 : ∀ (j : Nat) t v, Tryd.f5.params[j]? = some t → args[j]? = some v → Value.okWide Tryd.prog W .any base t v)
    (hW : DataW.Whole enc Tryd.prog Tryd.f5.params.toList Rows.rollTimesSpec.vars false W args.toList ds gs before) (hL : laidMetH Tryd.prog Rows.rollTimesRow.laid W) :
    Calls Tryd.prog 5 args W fun e W' => ∃ v, e = .returned v ∧ Rows.rollTimesSpec.post enc Tryd.prog Tryd.f5 false true false false W args v W' := by
  have hN : TabZ W := tabz_at hL
  clear hL
  have hval := hval0
  have hW' := hW
  obtain ⟨p, q, hA0, hV, rfl, _, _⟩ := hW
  have hA : DataW.TrodAll enc Tryd.prog W 0 (fun _ => true) true Tryd.f5.params.toList args.toList ds p := hA0
  rw [Tryd.params5] at hA hval
  obtain ⟨v0, vs0, d0, ds0, p0, q0, hargs, rfl, rfl, h0, r0⟩ := trodAll_cons hA
  obtain ⟨v1, vs1, d1, ds1, p1, q1, rfl, rfl, rfl, h1, r1⟩ := trodAll_cons r0
  obtain ⟨v2, vs2, d2, ds2, p2, q2, rfl, rfl, rfl, h2, r2⟩ := trodAll_cons r1
  obtain ⟨rfl, rfl, rfl⟩ := trodAll_nil r2
  obtain rfl : args = #[v0, v1, v2] := by cases args; simp_all
  obtain ⟨rfl, rfl⟩ := trodVars_none hV
  have k0 := h0
  have lt0 : ∀ x ∈ p0, x.block < W.heap.size := by obtain ⟨m, hm⟩ := k0; exact DataW.trod_lt m _ _ _ hm
  have k1 := h1
  have lt1 : ∀ x ∈ p1, x.block < W.heap.size := by obtain ⟨m, hm⟩ := k1; exact DataW.trod_lt m _ _ _ hm
  have k2 := h2
  have lt2 : ∀ x ∈ p2, x.block < W.heap.size := by obtain ⟨m, hm⟩ := k2; exact DataW.trod_lt m _ _ _ hm
  obtain ⟨v0, len0, cap0, rfl⟩ := okWide_slice Tryd.underlying59 (hval 0 59 v0 rfl rfl)
  obtain ⟨z0, t0⟩ := actsU_open h0
  obtain ⟨c1_0, c1_1, c1_2, c1_3, y1_0, y1_1, y1_2, y1_3, fu1, rfl, rfl, hp1, hy1_0, hy1_1, hy1_2, hy1_3⟩ := open_agg4 Tryd.underlying63 (by kernel_rfl) cells63 (hval 1 63 v1 rfl rfl) h1
  obtain ⟨f1_0, e1_0, ey1_0, w1_0⟩ := DataW.trod_int Tryd.underlying3 hy1_0
  obtain rfl : c1_0 = .int .i64 f1_0 := by simpa using e1_0
  have g1_0 : (-9223372036854775808 : Int) ≤ f1_0 ∧ f1_0 ≤ 9223372036854775807 := by simpa [Lit.wf, IntKind.min, IntKind.max, IntKind.signed, IntKind.bits] using w1_0
  obtain ⟨f1_1, e1_1, ey1_1, w1_1⟩ := DataW.trod_int Tryd.underlying36 hy1_1
  obtain rfl : c1_1 = .int .i64 f1_1 := by simpa using e1_1
  have g1_1 : (-9223372036854775808 : Int) ≤ f1_1 ∧ f1_1 ≤ 9223372036854775807 := by simpa [Lit.wf, IntKind.min, IntKind.max, IntKind.signed, IntKind.bits] using w1_1
  obtain ⟨f1_2, e1_2, ey1_2, w1_2⟩ := DataW.trod_int Tryd.underlying61 hy1_2
  obtain rfl : c1_2 = .int .u64 f1_2 := by simpa using e1_2
  have g1_2 : (0 : Int) ≤ f1_2 ∧ f1_2 ≤ 18446744073709551615 := by simpa [Lit.wf, IntKind.min, IntKind.max, IntKind.signed, IntKind.bits] using w1_2
  obtain ⟨f1_3, e1_3, ey1_3, w1_3⟩ := DataW.trod_int Tryd.underlying61 hy1_3
  obtain rfl : c1_3 = .int .u64 f1_3 := by simpa using e1_3
  have g1_3 : (0 : Int) ≤ f1_3 ∧ f1_3 ≤ 18446744073709551615 := by simpa [Lit.wf, IntKind.min, IntKind.max, IntKind.signed, IntKind.bits] using w1_3
  obtain ⟨cs2, rfl, hsz2, _⟩ : ∃ cs, v2 = .agg cs ∧ cs.size = Tryd.prog.cellsOf 64 ∧ Row.okWide Tryd.prog W .any base 64 cs := by
    have := hval 2 64 v2 rfl rfl
    simpa [Value.okWide, Tryd.underlying64] using this
  obtain ⟨c2_0, c2_1, c2_2, c2_3, c2_4, rfl⟩ := array5 (hsz2.trans (by kernel_rfl : Tryd.prog.cellsOf 64 = 5))
  obtain ⟨fu2, hf2⟩ := h2
  obtain ⟨y2_0, y2_1, y2_2, y2_3, y2_4, n2, hx2, hy2_0, hy2_1, hy2_2, hy2_3, hy2_4⟩ := trod_array5 Tryd.underlying64 (by kernel_rfl) hf2
  obtain ⟨f2_0, e2_0, ey2_0, w2_0⟩ := DataW.trod_int Tryd.underlying36 hy2_0
  obtain rfl : c2_0 = .int .i64 f2_0 := by simpa using e2_0
  have g2_0 : (-9223372036854775808 : Int) ≤ f2_0 ∧ f2_0 ≤ 9223372036854775807 := by simpa [Lit.wf, IntKind.min, IntKind.max, IntKind.signed, IntKind.bits] using w2_0
  obtain ⟨f2_1, e2_1, ey2_1, w2_1⟩ := DataW.trod_int Tryd.underlying36 hy2_1
  obtain rfl : c2_1 = .int .i64 f2_1 := by simpa using e2_1
  have g2_1 : (-9223372036854775808 : Int) ≤ f2_1 ∧ f2_1 ≤ 9223372036854775807 := by simpa [Lit.wf, IntKind.min, IntKind.max, IntKind.signed, IntKind.bits] using w2_1
  obtain ⟨f2_2, e2_2, ey2_2, w2_2⟩ := DataW.trod_int Tryd.underlying36 hy2_2
  obtain rfl : c2_2 = .int .i64 f2_2 := by simpa using e2_2
  have g2_2 : (-9223372036854775808 : Int) ≤ f2_2 ∧ f2_2 ≤ 9223372036854775807 := by simpa [Lit.wf, IntKind.min, IntKind.max, IntKind.signed, IntKind.bits] using w2_2
  obtain ⟨f2_3, e2_3, ey2_3, w2_3⟩ := DataW.trod_int Tryd.underlying36 hy2_3
  obtain rfl : c2_3 = .int .i64 f2_3 := by simpa using e2_3
  have g2_3 : (-9223372036854775808 : Int) ≤ f2_3 ∧ f2_3 ≤ 9223372036854775807 := by simpa [Lit.wf, IntKind.min, IntKind.max, IntKind.signed, IntKind.bits] using w2_3
  obtain ⟨f2_4, e2_4, ey2_4, w2_4⟩ := DataW.trod_int Tryd.underlying36 hy2_4
  obtain rfl : c2_4 = .int .i64 f2_4 := by simpa using e2_4
  have g2_4 : (-9223372036854775808 : Int) ≤ f2_4 ∧ f2_4 ≤ 9223372036854775807 := by simpa [Lit.wf, IntKind.min, IntKind.max, IntKind.signed, IntKind.bits] using w2_4
  clear hA0 hval0
  refine (rolltimes_walk v0 len0 cap0 z0 f1_0 f1_1 f1_2 f1_3 f2_0 f2_1 f2_2 f2_3 f2_4 W hN t0.1).mono fun e W' ⟨he, bel⟩ => ?_
  subst he
  exact ⟨_, rfl, _, _, _, [], _, [], hW', trodAll_mk1 (shut_bool Tryd.underlying4 _), (trodAll_cons_mk (Below.trod laidOut (by kernel_rfl) (of_decide_eq_true (by kernel_rfl)) k0 bel lt0) (trodAll_cons_mk (Below.trod laidOut (by kernel_rfl) (of_decide_eq_true (by kernel_rfl)) k1 bel lt1) (trodAll_cons_mk (Below.trod laidOut (by kernel_rfl) (of_decide_eq_true (by kernel_rfl)) k2 bel lt2) trodAll_mk0))), rfl, bel.frame _, fun h => by cases h⟩

/-- A world for the witness: the settled one, the variables laid. -/
noncomputable def laidWorld (os : Os) : World :=
  { World.holding Tryd.prog os ⟨#[], #[], []⟩ with heap := ((World.holding Tryd.prog os ⟨#[], #[], []⟩).heap.modify 1 fun | .cells _ t frozen => .cells #[.int .u8 0, .int .u8 1, .int .u8 56, .int .u8 2, .int .u8 57, .int .u8 49, .int .u8 28, .int .u8 3, .int .u8 61, .int .u8 58, .int .u8 42, .int .u8 50, .int .u8 38, .int .u8 29, .int .u8 17, .int .u8 4, .int .u8 62, .int .u8 47, .int .u8 59, .int .u8 36, .int .u8 45, .int .u8 43, .int .u8 51, .int .u8 22, .int .u8 53, .int .u8 39, .int .u8 33, .int .u8 30, .int .u8 24, .int .u8 18, .int .u8 12, .int .u8 5, .int .u8 63, .int .u8 55, .int .u8 48, .int .u8 27, .int .u8 60, .int .u8 41, .int .u8 37, .int .u8 16, .int .u8 46, .int .u8 35, .int .u8 44, .int .u8 21, .int .u8 52, .int .u8 32, .int .u8 23, .int .u8 11, .int .u8 54, .int .u8 26, .int .u8 40, .int .u8 15, .int .u8 34, .int .u8 20, .int .u8 31, .int .u8 10, .int .u8 25, .int .u8 14, .int .u8 19, .int .u8 9, .int .u8 13, .int .u8 8, .int .u8 7, .int .u8 6] t frozen | o => o) }
theorem laid_met (os : Os) : laidMet Tryd.prog Rows.rollTimesRow.laid ((laidWorld os).forCall (fun _ _ => 0) ⟨#[], #[.slice none 0 0, .agg #[.int .i64 0, .int .i64 0, .int .u64 0, .int .u64 0], .agg #[.int .i64 0, .int .i64 0, .int .i64 0, .int .i64 0, .int .i64 0]], []⟩).memory :=
  laidMet_of_run' 8 (by kernel_rfl) (by kernel_rfl)
theorem reads (os : Os) {H : Type} (enc : TypeId × Value → H) : ∃ places, DataW.whole enc Tryd.prog ((laidWorld os).forCall (fun _ _ => 0) ⟨#[], #[.slice none 0 0, .agg #[.int .i64 0, .int .i64 0, .int .u64 0, .int .u64 0], .agg #[.int .i64 0, .int .i64 0, .int .i64 0, .int .i64 0, .int .i64 0]], []⟩).memory Tryd.f5.params.toList Rows.rollTimesSpec.vars false (#[.slice none 0 0, .agg #[.int .i64 0, .int .i64 0, .int .u64 0, .int .u64 0], .agg #[.int .i64 0, .int .i64 0, .int .i64 0, .int .i64 0, .int .i64 0]] : Array Value).toList 8 = some ([.nil, .agg [.lit (.int .i64 0), .lit (.int .i64 0), .lit (.int .u64 0), .lit (.int .u64 0)], .agg [.lit (.int .i64 0), .lit (.int .i64 0), .lit (.int .i64 0), .lit (.int .i64 0), .lit (.int .i64 0)]], [], places) :=
  ⟨[], by kernel_rfl⟩
set_option maxRecDepth 100000 in
theorem lifted (os : Os) (started : os.Started) (H : Type) (enc : TypeId × Value → H) (F : Stop.Interp) :
    ReturnsInHanded {} Tryd.checked os 5 .any ((OpenSpec.ofChange Rows.rollTimesSpec).preRow enc Tryd.prog Tryd.f5 Rows.rollTimesRow.domain false Rows.rollTimesRow.laid) (((OpenSpec.ofChange Rows.rollTimesSpec).at F).post enc Tryd.prog Tryd.f5 false true false false) := by
  obtain ⟨places, hx⟩ := reads os enc
  refine returnsInHanded_of_row (C := Tryd.checked) (s := OpenSpec.ofChange Rows.rollTimesSpec) own started (by kernel_rfl) Tryd.func5
    (witness_row_at (enc := enc) (C := Tryd.checked) false (laidWorld os) #[.slice none 0 0, .agg #[.int .i64 0, .int .i64 0, .int .u64 0, .int .u64 0], .agg #[.int .i64 0, .int .i64 0, .int .i64 0, .int .i64 0, .int .i64 0]] rfl (by kernel_rfl) (by kernel_rfl) (by kernel_rfl)
      (OpenSpec.preRow_of_cond 8 hx (by kernel_rfl) (fun k hk => by cases hk) (by kernel_rfl) (laid_met os))) ?_
  intro W base args ds gs before hval hW _ _ _ hL _ _
  exact contract H enc W base args ds gs before hval hW hL
theorem said : Rows.RollTimesSaid :=
  OpenClaim.holds_of_cond 5 Tryd.f5 rfl rfl rfl rfl rfl rfl rfl ⟨rfl, rfl, rfl, rfl, rfl⟩ rfl rfl rfl rfl rfl (by kernel_rfl) Tryd.func5 (by kernel_rfl)
    (of_decide_eq_true (by kernel_rfl)) (by unfold Func.isWrapper; first | (rw [if_pos (by decide +kernel)]; kernel_rfl) | (rw [if_neg (by decide +kernel)]; exact ⟨rfl, rfl⟩))
    (fun os started H enc _ F => by rw [OpenClaim.pre_eq_preRow]; exact lifted os started H enc F)
theorem plain (f : FuncId) (fn : Func) (hf : Tryd.pinned.checked.prog.funcNamed "berthing/berthinglaw21.RollTimes" = some f) (hfn : Tryd.pinned.checked.prog.funcs[f]? = some fn) :
    true = Tryd.pinned.checked.prog.looks [] ∧ ∀ (j : Nat) t, fn.params[j]? = some t → Tryd.pinned.checked.prog.wantsStandIn t = false := by
  obtain rfl : f = 5 := Option.some.inj ((show Tryd.prog.funcNamed "berthing/berthinglaw21.RollTimes" = some 5 by kernel_rfl).symm.trans hf) |>.symm
  obtain rfl : fn = Tryd.f5 := (Option.some.inj (Tryd.func5.symm.trans hfn)).symm
  refine ⟨by kernel_rfl, fun j t ht => ?_⟩
  rw [Tryd.params5] at ht
  have hm : t ∈ (#[59, 63, 64] : Array TypeId) := Array.mem_of_getElem? ht
  simp only [List.mem_toArray, List.mem_cons, List.not_mem_nil, or_false] at hm
  rcases hm with rfl | rfl | rfl
  · exact (show Tryd.prog.wantsStandIn 59 = false by kernel_rfl)
  · exact (show Tryd.prog.wantsStandIn 63 = false by kernel_rfl)
  · exact (show Tryd.prog.wantsStandIn 64 = false by kernel_rfl)
/-- THE CARD. -/
theorem card : Rows.RollTimesCardSaid :=
  Claim7.holds_tied_plain_at .later [] _ _ _ _ said (fun _ h => by cases h) (by kernel_rfl) (fun _ h => by cases h) rollTimes_row_tie rfl ⟨rfl, rfl⟩ (by kernel_rfl) rfl plain (by kernel_rfl)
end Go.Proofs.YtdamemdfehopeaaDoor.lawRollTimes
