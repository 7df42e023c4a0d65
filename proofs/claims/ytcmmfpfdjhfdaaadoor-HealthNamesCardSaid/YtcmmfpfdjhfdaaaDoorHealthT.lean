/- The table of the states' names, as it is laid; Text; and the known nodes (one). -/
import Derived.Test.YtcmmfpfdjhfdaaaDoorHealthB
import Derived.Lib.LaidTab
import Derived.Deep.DeepCutAuto
namespace Go.Proofs.YtcmmfpfdjhfdaaaDoor
set_option linter.unusedVariables false
open Go.ChangeShapes Go.WideShapes Go.ChangeAt Go.RowKit
attribute [local go_sem ↓] Go.wp_at_zero Go.wp_at_succ

/-- AN ARRAY OF STRINGS THAT READS AS A LIST OF TEXTS HOLDS THEM, CELL FOR CELL. -/
theorem cells_of_strs {H : Type} {enc : TypeId × Value → H} {P : Program} {w : World} {base : Nat} {sp : Nat → Bool} {held : Bool} {fuel : Nat} {t e : TypeId} {n : Nat} {cs : List Value} {bs : List (List UInt8)} {p : List MemPlace}
    (ht : P.underlying t = some (.array n e)) (he : P.underlying e = some .string) (hce : P.cellsOf e = 1) (hct : P.cellsOf t = n)
    (h : DataW.trod enc P w base sp held fuel t cs = some (.agg (bs.map fun b => .lit (.string b)), p)) : cs = bs.map fun b => Value.string ⟨b.toArray⟩ := by
  cases fuel with
  | zero => simp [DataW.trod] at h
  | succ fuel =>
    simp only [DataW.trod, ht, hce, hct, Nat.mul_one] at h
    split at h
    · rename_i hl
      obtain ⟨xs, hm, hx⟩ := Option.map_eq_some_iff.1 h
      have hxs : xs.map (·.1) = bs.map fun b => (DataW.lit (.string b) : DataW H) := by
        have := congrArg Prod.fst hx
        simpa using this
      have hxl : xs.length = n := by simpa using Lib.mapM_length hm
      have hzl : bs.length = n := by
        have := congrArg List.length hxs
        simp at this
        omega
      apply List.ext_getElem?
      intro i
      by_cases hi : i < n
      · obtain ⟨b, hb, hf⟩ := Lib.mapM_at hm i i (by simp [hi])
        obtain ⟨s, hc, rfl, _⟩ := DataW.trod_string he hf
        have h1 : cs[i]? = some (.string s) := by
          have := congrArg (·[0]?) hc
          simpa [List.getElem?_take, List.getElem?_drop] using this
        have h2 : (xs.map (·.1))[i]? = some (DataW.lit (.string s.data.toList) : DataW H) := by simp [hb]
        rw [hxs] at h2
        simp only [List.getElem?_map, Option.map_eq_some_iff, DataW.lit.injEq, Lit.string.injEq] at h2
        obtain ⟨z', hz', h3⟩ := h2
        rw [h1]
        simp [hz', h3]
      · rw [List.getElem?_eq_none (by omega), List.getElem?_eq_none (by simp; omega)]
    · cases h

/-- the names -/
def nameB : List (List UInt8) := [[117, 112], [115, 117, 115, 112, 101, 99, 116], [100, 111, 119, 110], [100, 114, 97, 105, 110], [114, 101, 112, 97, 105, 114]]
def NamesAt (w : World) : Prop :=
  w.cell? ⟨0, 0, none⟩ = some (.string ⟨#[117, 112]⟩) ∧ w.cell? ⟨0, 1, none⟩ = some (.string ⟨#[115, 117, 115, 112, 101, 99, 116]⟩) ∧
  w.cell? ⟨0, 2, none⟩ = some (.string ⟨#[100, 111, 119, 110]⟩) ∧ w.cell? ⟨0, 3, none⟩ = some (.string ⟨#[100, 114, 97, 105, 110]⟩) ∧
  w.cell? ⟨0, 4, none⟩ = some (.string ⟨#[114, 101, 112, 97, 105, 114]⟩)
theorem NamesAt.below {w w' : World} (h : NamesAt w) (hb : Below w.heap.size w w') : NamesAt w' := by
  obtain ⟨h0, h1, h2, h3, h4⟩ := h
  have hl := World.block_lt_of_cell? w _ h0
  exact ⟨(hb.cell hl).trans h0, (hb.cell (p := ⟨_, 1, none⟩) hl).trans h1, (hb.cell (p := ⟨_, 2, none⟩) hl).trans h2, (hb.cell (p := ⟨_, 3, none⟩) hl).trans h3, (hb.cell (p := ⟨_, 4, none⟩) hl).trans h4⟩
theorem gNames : Tryd.prog.globalNamed "berthing/health.names" = some 0 := by kernel_rfl
theorem gNamesType : (Tryd.prog.globals[0]?).map (·.type) = some 36 := by kernel_rfl
theorem cellsNames : Tryd.prog.cellsOf 36 = 5 := by kernel_rfl
theorem cellsString : Tryd.prog.cellsOf 9 = 1 := by kernel_rfl
theorem names_at {W : World} (h : laidMet Tryd.prog [("berthing/health.names", Rows.laid_berthing_health_names)] W) : NamesAt W := by
  obtain ⟨ps, ⟨g, t, cs, fuel, p, q, hg, ht, hvar, hd, _, _⟩, _⟩ := h
  obtain rfl := Option.some.inj (gNames.symm.trans hg)
  obtain rfl := Option.some.inj (gNamesType.symm.trans ht)
  have hcs := cells_of_strs (bs := nameB) Tryd.underlying36 Tryd.underlying9 cellsString cellsNames hd
  have hv : W.var? Tryd.prog "berthing/health.names" = some (nameB.map fun b => Value.string ⟨b.toArray⟩).toArray := by rw [hvar, ← hcs]
  refine ⟨?_, ?_, ?_, ?_, ?_⟩
  · simpa [nameB] using World.var?_cell gNames hv 0
  · simpa [nameB] using World.var?_cell gNames hv 1
  · simpa [nameB] using World.var?_cell gNames hv 2
  · simpa [nameB] using World.var?_cell gNames hv 3
  · simpa [nameB] using World.var?_cell gNames hv 4

theorem text_3 (w : World) (h : NamesAt w) :
    Calls Tryd.prog 6 #[.int .i64 3] w fun e w' => e = .returned (.string ⟨#[100, 114, 97, 105, 110]⟩) ∧ w = w' := by
  obtain ⟨h0, h1, h2, h3, h4⟩ := h
  go_enter Tryd.func6, Tryd.ntmps6
  go_wp2
  go_ret
  exact ⟨rfl, rfl⟩
end Go.Proofs.YtcmmfpfdjhfdaaaDoor
