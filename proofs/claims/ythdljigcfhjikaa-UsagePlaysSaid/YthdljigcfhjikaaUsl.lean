/- Levels (layer 10): an act that comes in as an argument. No condition. -/
import Derived.Test.YthdljigcfhjikaaUsk
import Derived.Deep.Slices
import Derived.WideShapes
import Derived.ChangeArms
namespace Go.Proofs.Ythdljigcfhjikaa
set_option linter.unusedVariables false
open Go.ChangeShapes Go.WideShapes Go.RowKit Go.Deep

theorem fields_at {P : Program} {fs : Array Field} {l : List (Nat × Nat × TypeId)} (h : fs.toList.map (fun f => (f.offset, P.cellsOf f.type, f.type)) = l) {i o c : Nat} {t : TypeId} (hi : l[i]? = some (o, c, t)) : ∃ f, fs[i]? = some f ∧ f.offset = o ∧ P.cellsOf f.type = c ∧ f.type = t := by
  rw [← h, List.getElem?_map] at hi
  cases hf : fs.toList[i]? with
  | none => rw [hf] at hi; cases hi
  | some f =>
    rw [hf] at hi
    injection hi with hi
    injection hi with h1 h2
    injection h2 with h2 h3
    exact ⟨f, by simpa using hf, h1, h2, h3⟩
/-- the part of a struct that a field is, as the reading of the struct tells it -/
theorem trod_field {H : Type} {enc : TypeId × Value → H} {P : Program} {w : World} {base : Nat} {spare : Nat → Bool} {held : Bool} {fuel : Nat} {t : TypeId} {cs : List Value} {x : DataW H × List MemPlace} {fs : Array Field} (hs : P.underlying t = some (.struct fs)) (h : DataW.trod enc P w base spare held fuel t cs = some x)
    {l : List (Nat × Nat × TypeId)} (hl : fs.toList.map (fun f => (f.offset, P.cellsOf f.type, f.type)) = l) {i o c : Nat} {u : TypeId} (hi : l[i]? = some (o, c, u)) : ∃ n y, DataW.trod enc P w base spare held n u ((cs.drop o).take c) = some y := by
  obtain ⟨xs, n, _, _, _, hlen, hfs⟩ := DataW.trod_struct hs h
  obtain ⟨f, hf, rfl, rfl, rfl⟩ := fields_at hl hi
  have hlt : i < xs.length := by rw [hlen]; exact (Array.getElem?_eq_some_iff.1 hf).1
  exact ⟨n, xs[i], (hfs i f hf).trans (List.getElem?_eq_getElem hlt)⟩
theorem sAct : Try.prog.underlying 49 = some (.struct (Try.prog.fieldsOf 49)) := by kernel_rfl
theorem fAct : (Try.prog.fieldsOf 49).toList.map (fun f => (f.offset, Try.prog.cellsOf f.type, f.type)) = [(0, 1, 3), (1, 2, 25), (3, 1, 3)] := by kernel_rfl
theorem sSpan : Try.prog.underlying 25 = some (.struct (Try.prog.fieldsOf 25)) := by kernel_rfl
theorem fSpan : (Try.prog.fieldsOf 25).toList.map (fun f => (f.offset, Try.prog.cellsOf f.type, f.type)) = [(0, 1, 23), (1, 1, 23)] := by kernel_rfl
theorem cellsAct10 : Try.prog.cellsOf 49 = 4 := by kernel_rfl
set_option maxRecDepth 10000 in
theorem act10_open {H : Type} {enc : TypeId × Value → H} {W : World} {base b0 : Nat} {spare : Nat → Bool} {held : Bool} {r : Reach} {v : Value} {d : DataW H} {p : List MemPlace}
    (hv : Value.okWide Try.prog W r b0 49 v) (h : DataW.Trod enc Try.prog W base spare held 49 v d p) :
    ∃ k f t n : Int, v = .agg #[.int .i64 k, .int .i64 f, .int .i64 t, .int .i64 n] := by
  obtain ⟨cs, rfl, hsz⟩ := okWide_struct sAct hv
  rw [cellsAct10] at hsz
  obtain ⟨fuel, hf⟩ := h
  have hcs : (Value.agg cs).cells.toList = cs.toList := rfl
  rw [hcs] at hf
  obtain ⟨l, rfl⟩ : ∃ l : List Value, cs = l.toArray := ⟨cs.toList, by simp⟩
  match l, hsz with
  | [c0, c1, c2, c3], _ =>
    obtain ⟨n0, y0, h0⟩ := trod_field sAct hf fAct (i := 0) rfl
    obtain ⟨n1, y1, h1⟩ := trod_field sAct hf fAct (i := 1) rfl
    obtain ⟨n2, y2, h2⟩ := trod_field sAct hf fAct (i := 2) rfl
    obtain ⟨n3, y3, h3⟩ := trod_field sSpan h1 fSpan (i := 0) rfl
    obtain ⟨n4, y4, h4⟩ := trod_field sSpan h1 fSpan (i := 1) rfl
    obtain ⟨a0, e0, _, _⟩ := DataW.trod_int Try.underlying3 h0
    obtain ⟨a2, e2, _, _⟩ := DataW.trod_int Try.underlying3 h2
    obtain ⟨a3, e3, _, _⟩ := DataW.trod_int Try.underlying23 h3
    obtain ⟨a4, e4, _, _⟩ := DataW.trod_int Try.underlying23 h4
    have f0 : c0 = .int .i64 a0 := by simpa using e0
    have f2 : c3 = .int .i64 a2 := by simpa using e2
    have f3 : c1 = .int .i64 a3 := by simpa using e3
    have f4 : c2 = .int .i64 a4 := by simpa using e4
    subst f0 f2 f3 f4
    exact ⟨_, _, _, _, rfl⟩
end Go.Proofs.Ythdljigcfhjikaa
