/- WHAT THE ROW's CONDITION GIVES A WALK: errors.errorType's cell and the names of the kinds; a command that comes in as an argument. -/
import Derived.Test.YtlejicmpefdhpaaDoorErrAt
import Derived.Test.YtlejicmpefdhpaaDoorCmdE
import Derived.Test.YtlejicmpefdhpaaDoorCmdN
import Derived.Lib.SmallJoins
namespace Go.Proofs.YtlejicmpefdhpaaDoor
set_option linter.unusedVariables false
open Go.ChangeShapes Go.WideShapes Go.RowKit Go.Deep
theorem errcmd_at {W : World} (h : laidMetH Tryd.prog [("errors.errorType", Rows.laid_errors_errorType), ("berthing/cmd.names", Rows.laid_berthing_cmd_names)] W) : ErrAt W ∧ CmdNamesAt W := by
  have h' : laidMet Tryd.prog [("berthing/cmd.names", Rows.laid_berthing_cmd_names)] W ∧ handlesMet Tryd.prog [("errors.errorType", Rows.laid_errors_errorType)] W := h
  refine ⟨errat_at (W := W) ?_, cmdnames_at h'.1⟩
  have h0 : laidMet Tryd.prog [] W := laidMet_nil _ _
  exact (show laidMet Tryd.prog [] W ∧ handlesMet Tryd.prog [("errors.errorType", Rows.laid_errors_errorType)] W from ⟨h0, h'.2⟩)
/-- a struct whose fields are one cell each, field by field -/
theorem open_flat {H : Type} {enc : TypeId × Value → H} {P : Program} {w : World} {base b0 : Nat} {spare : Nat → Bool} {held : Bool} {r : Reach} {t : TypeId} {fs : Array Field} {v : Value} {d : DataW H} {p : List MemPlace} (hs : P.underlying t = some (.struct fs)) (hone : oneCellFields P fs = true)
    (hv : Value.okWide P w r b0 t v) (h : DataW.Trod enc P w base spare held t v d p) :
    ∃ cs : Array Value, v = .agg cs ∧ cs.size = P.cellsOf t ∧ ∀ (i : Nat) (f : Field), fs[i]? = some f → i < cs.size → ∃ (n : Nat) (c : Value) (y : DataW H × List MemPlace), cs[i]? = some c ∧ DataW.trod enc P w base spare held n f.type [c] = some y := by
  obtain ⟨cs, rfl, hsz⟩ := okWide_struct hs hv
  obtain ⟨fuel, hf⟩ := h
  obtain ⟨xs, n, _, _, hl, hlen, hfs⟩ := DataW.trod_struct hs hf
  refine ⟨cs, rfl, hsz, fun i f hi hlt => ?_⟩
  obtain ⟨o, k⟩ := hone_of hone i f hi
  have hif : i < fs.size := (Array.getElem?_eq_some_iff.1 hi).1
  have hx := hfs i f hi
  rw [o, k, List.getElem?_eq_getElem (by omega)] at hx
  refine ⟨n, cs[i], xs[i], Array.getElem?_eq_getElem hlt, ?_⟩
  rw [← hx]
  congr 1
  have : (Value.agg cs).cells.toList = cs.toList := rfl
  rw [this, List.drop_eq_getElem_cons (by simpa using hlt), List.take_succ_cons, List.take_zero]
  simp
theorem one24 : oneCellFields Tryd.prog (Tryd.prog.fieldsOf 24) = true := by kernel_rfl
theorem typ24 : (Tryd.prog.fieldsOf 24).toList.map (fun f => Tryd.prog.underlying f.type) = [some (TypeDesc.int .i64), some (TypeDesc.int .i64), some (TypeDesc.int .i64), some (TypeDesc.int .i64), some (TypeDesc.int .i64), some (TypeDesc.int .i64), some (TypeDesc.int .i64), some (TypeDesc.int .i64), some (TypeDesc.int .i64), some (TypeDesc.int .i64), some (TypeDesc.int .i64), some .bool] := by kernel_rfl
theorem cells24 : Tryd.prog.cellsOf 24 = 12 := by kernel_rfl
theorem fsz24 : (Tryd.prog.fieldsOf 24).size = 12 := by kernel_rfl
theorem str24 : Tryd.prog.underlying 24 = some (.struct (Tryd.prog.fieldsOf 24)) := by kernel_rfl
theorem flds24 : ∃ fs : Array Field, Tryd.prog.underlying 24 = some (.struct fs) ∧ oneCellFields Tryd.prog fs = true ∧ fs.toList.map (fun f => Tryd.prog.underlying f.type) = [some (TypeDesc.int .i64), some (TypeDesc.int .i64), some (TypeDesc.int .i64), some (TypeDesc.int .i64), some (TypeDesc.int .i64), some (TypeDesc.int .i64), some (TypeDesc.int .i64), some (TypeDesc.int .i64), some (TypeDesc.int .i64), some (TypeDesc.int .i64), some (TypeDesc.int .i64), some .bool] ∧ fs.size = 12 := ⟨_, str24, one24, typ24, fsz24⟩
set_option maxRecDepth 10000 in
theorem cmd_open {H : Type} {enc : TypeId × Value → H} {W : World} {base b0 : Nat} {spare : Nat → Bool} {held : Bool} {r : Reach} {v : Value} {d : DataW H} {p : List MemPlace}
    (hv : Value.okWide Tryd.prog W r b0 24 v) (h : DataW.Trod enc Tryd.prog W base spare held 24 v d p) : ∃ xs, Cmd12 xs ∧ v = .agg (cmdC xs).toArray := by
  obtain ⟨fs, hS, hone, htyp, hfz⟩ := flds24
  obtain ⟨cs, rfl, hsz, hall⟩ := open_flat (P := Tryd.prog) (t := 24) (fs := fs) (w := W) (v := v) (d := d) (p := p) (r := r) (b0 := b0) hS hone hv h
  rw [cells24] at hsz
  have hty : ∀ i : Nat, i < 12 → ∃ f, fs[i]? = some f ∧ some (Tryd.prog.underlying f.type) = ([some (TypeDesc.int .i64), some (TypeDesc.int .i64), some (TypeDesc.int .i64), some (TypeDesc.int .i64), some (TypeDesc.int .i64), some (TypeDesc.int .i64), some (TypeDesc.int .i64), some (TypeDesc.int .i64), some (TypeDesc.int .i64), some (TypeDesc.int .i64), some (TypeDesc.int .i64), some .bool])[i]? := by
    intro i hi
    refine ⟨fs[i]'(by rw [hfz]; exact hi), Array.getElem?_eq_getElem _, ?_⟩
    rw [← htyp]
    simp [hfz, hi]
  have hint : ∀ i : Nat, i < 11 → ∃ n : Int, cs[i]? = some (.int .i64 n) ∧ -9223372036854775808 ≤ n ∧ n ≤ 9223372036854775807 := by
    intro i hi
    obtain ⟨f, hf, ht⟩ := hty i (by omega)
    obtain ⟨n, c, y, hc, hy⟩ := hall i f hf (by omega)
    have ht : some (Tryd.prog.underlying f.type) = some (some (TypeDesc.int .i64)) := by
      rw [ht]
      rcases (show i = 0 ∨ i = 1 ∨ i = 2 ∨ i = 3 ∨ i = 4 ∨ i = 5 ∨ i = 6 ∨ i = 7 ∨ i = 8 ∨ i = 9 ∨ i = 10 by omega) with rfl | rfl | rfl | rfl | rfl | rfl | rfl | rfl | rfl | rfl | rfl <;> rfl
    obtain ⟨a, ha, _, hw⟩ := DataW.trod_int (Option.some.inj ht) hy
    obtain rfl : c = .int .i64 a := by simpa using ha
    exact ⟨a, hc, by simpa [Lit.wf, IntKind.min, IntKind.max, IntKind.signed, IntKind.bits] using hw⟩
  have hbool : ∃ b : Bool, cs[11]? = some (.bool b) := by
    obtain ⟨f, hf, ht⟩ := hty 11 (by omega)
    obtain ⟨n, c, y, hc, hy⟩ := hall 11 f hf (by omega)
    obtain ⟨b, hb, _⟩ := DataW.trod_bool (Option.some.inj ht) hy
    obtain rfl : c = .bool b := by simpa using hb
    exact ⟨b, hc⟩
  obtain ⟨b, hb⟩ := hbool
  obtain ⟨x0, h0, l0⟩ := hint 0 (by decide)
  obtain ⟨x1, h1, l1⟩ := hint 1 (by decide)
  obtain ⟨x2, h2, l2⟩ := hint 2 (by decide)
  obtain ⟨x3, h3, l3⟩ := hint 3 (by decide)
  obtain ⟨x4, h4, l4⟩ := hint 4 (by decide)
  obtain ⟨x5, h5, l5⟩ := hint 5 (by decide)
  obtain ⟨x6, h6, l6⟩ := hint 6 (by decide)
  obtain ⟨x7, h7, l7⟩ := hint 7 (by decide)
  obtain ⟨x8, h8, l8⟩ := hint 8 (by decide)
  obtain ⟨x9, h9, l9⟩ := hint 9 (by decide)
  obtain ⟨x10, h10, l10⟩ := hint 10 (by decide)
  refine ⟨[x0, x1, x2, x3, x4, x5, x6, x7, x8, x9, x10, if b then 1 else 0], ⟨rfl, ?_, ?_⟩, ?_⟩
  · show (if b then (1 : Int) else 0) = 0 ∨ (if b then (1 : Int) else 0) = 1
    cases b
    · exact .inl rfl
    · exact .inr rfl
  · intro x hx
    simp only [List.mem_cons, List.not_mem_nil, or_false] at hx
    rcases hx with rfl | rfl | rfl | rfl | rfl | rfl | rfl | rfl | rfl | rfl | rfl | rfl <;> first | assumption | (cases b <;> decide)
  · congr 1
    apply Array.ext_getElem?
    intro i
    by_cases hi : i < 12
    · rcases (show i = 0 ∨ i = 1 ∨ i = 2 ∨ i = 3 ∨ i = 4 ∨ i = 5 ∨ i = 6 ∨ i = 7 ∨ i = 8 ∨ i = 9 ∨ i = 10 ∨ i = 11 by omega) with rfl | rfl | rfl | rfl | rfl | rfl | rfl | rfl | rfl | rfl | rfl | rfl
      · exact h0
      · exact h1
      · exact h2
      · exact h3
      · exact h4
      · exact h5
      · exact h6
      · exact h7
      · exact h8
      · exact h9
      · exact h10
      · rw [hb]; cases b <;> rfl
    · rw [Array.getElem?_eq_none (by omega), Array.getElem?_eq_none (by simp [cmdC]; omega)]
end Go.Proofs.YtlejicmpefdhpaaDoor
