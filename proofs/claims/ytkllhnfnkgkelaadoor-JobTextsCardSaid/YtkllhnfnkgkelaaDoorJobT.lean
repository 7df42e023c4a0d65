/- The table of the states' names (layer 15), as it is laid; Text. -/
import Derived.Test.YtkllhnfnkgkelaaDoorJobB
import Derived.Lib.LaidTab
import Derived.Deep.DeepCutAuto
namespace Go.Proofs.YtkllhnfnkgkelaaDoor
set_option linter.unusedVariables false
open Go.ChangeShapes Go.WideShapes Go.ChangeAt Go.RowKit
attribute [local go_sem ↓] Go.wp_at_zero Go.wp_at_succ

/-- AN ARRAY OF STRINGS THAT READS AS A LIST OF TEXTS HOLDS THEM, CELL FOR CELL. -/
theorem cells_of_strs {H : Type} {enc : TypeId × Value → H} {P : Program} {w : World} {base : Nat} {sp : Nat → Bool} {held : Bool} {fuel : Nat} {t e : TypeId} {n : Nat} {cs : List Value} {bs : List (List UInt8)} {p : List MemPlace}
    (ht : P.underlying t = some (.array n e)) (he : P.underlying e = some .string) (hce : P.cellsOf e = 1) (hct : P.cellsOf t = n)
    (h : DataW.trod enc P w base sp held fuel t cs = some (.agg (bs.map fun b => .lit (.string b)), p)) : cs = bs.map fun b => Value.string ⟨b.toArray⟩ := by
  cases fuel with
  | zero => simp [DataW.trod] at h
  | succ fuel =>
    simp only [DataW.trod, ht, hce, hct, Nat.mul_one] at h
    split at h
    · rename_i hl
      obtain ⟨xs, hm, hx⟩ := Option.map_eq_some_iff.1 h
      have hxs : xs.map (·.1) = bs.map fun b => (DataW.lit (.string b) : DataW H) := by
        have := congrArg Prod.fst hx
        simpa using this
      have hxl : xs.length = n := by simpa using Lib.mapM_length hm
      have hzl : bs.length = n := by
        have := congrArg List.length hxs
        simp at this
        omega
      apply List.ext_getElem?
      intro i
      by_cases hi : i < n
      · obtain ⟨b, hb, hf⟩ := Lib.mapM_at hm i i (by simp [hi])
        obtain ⟨s, hc, rfl, _⟩ := DataW.trod_string he hf
        have h1 : cs[i]? = some (.string s) := by
          have := congrArg (·[0]?) hc
          simpa [List.getElem?_take, List.getElem?_drop] using this
        have h2 : (xs.map (·.1))[i]? = some (DataW.lit (.string s.data.toList) : DataW H) := by simp [hb]
        rw [hxs] at h2
        simp only [List.getElem?_map, Option.map_eq_some_iff, DataW.lit.injEq, Lit.string.injEq] at h2
        obtain ⟨z', hz', h3⟩ := h2
        rw [h1]
        simp [hz', h3]
      · rw [List.getElem?_eq_none (by omega), List.getElem?_eq_none (by simp; omega)]
    · cases h


/-- the names -/
def jobB : List (List UInt8) := [[119, 97, 105, 116, 105, 110, 103], [114, 117, 110, 110, 105, 110, 103], [100, 111, 110, 101], [102, 97, 105, 108, 101, 100], [99, 97, 110, 99, 101, 108, 108, 101, 100], [101, 120, 112, 105, 114, 101, 100]]
def JobNamesAt (w : World) : Prop :=
  w.cell? ⟨0, 0, none⟩ = some (.string ⟨#[119, 97, 105, 116, 105, 110, 103]⟩) ∧ w.cell? ⟨0, 1, none⟩ = some (.string ⟨#[114, 117, 110, 110, 105, 110, 103]⟩) ∧ w.cell? ⟨0, 2, none⟩ = some (.string ⟨#[100, 111, 110, 101]⟩) ∧ w.cell? ⟨0, 3, none⟩ = some (.string ⟨#[102, 97, 105, 108, 101, 100]⟩) ∧ w.cell? ⟨0, 4, none⟩ = some (.string ⟨#[99, 97, 110, 99, 101, 108, 108, 101, 100]⟩) ∧ w.cell? ⟨0, 5, none⟩ = some (.string ⟨#[101, 120, 112, 105, 114, 101, 100]⟩)
theorem JobNamesAt.below {w w' : World} (h : JobNamesAt w) (hb : Below w.heap.size w w') : JobNamesAt w' := by
  obtain ⟨h0, h1, h2, h3, h4, h5⟩ := h
  have hl := World.block_lt_of_cell? w _ h0
  exact ⟨(hb.cell hl).trans h0, (hb.cell (p := ⟨_, 1, none⟩) hl).trans h1, (hb.cell (p := ⟨_, 2, none⟩) hl).trans h2, (hb.cell (p := ⟨_, 3, none⟩) hl).trans h3, (hb.cell (p := ⟨_, 4, none⟩) hl).trans h4, (hb.cell (p := ⟨_, 5, none⟩) hl).trans h5⟩
theorem gJobNames : Tryd.prog.globalNamed "berthing/job.names" = some 0 := by kernel_rfl
theorem gJobNamesType : (Tryd.prog.globals[0]?).map (·.type) = some 73 := by kernel_rfl
theorem cellsJobNames : Tryd.prog.cellsOf 73 = 6 := by kernel_rfl
theorem cellsStr1 : Tryd.prog.cellsOf 9 = 1 := by kernel_rfl
theorem jobnames_at {W : World} (h : laidMet Tryd.prog [("berthing/job.names", Rows.laid_berthing_job_names)] W) : JobNamesAt W := by
  obtain ⟨ps, ⟨g, t, cs, fuel, p, q, hg, ht, hvar, hd, _, _⟩, _⟩ := h
  obtain rfl := Option.some.inj (gJobNames.symm.trans hg)
  obtain rfl := Option.some.inj (gJobNamesType.symm.trans ht)
  have hcs := cells_of_strs (bs := jobB) Tryd.underlying73 Tryd.underlying9 cellsStr1 cellsJobNames hd
  have hv : W.var? Tryd.prog "berthing/job.names" = some (jobB.map fun b => Value.string ⟨b.toArray⟩).toArray := by rw [hvar, ← hcs]
  refine ⟨?_, ?_, ?_, ?_, ?_, ?_⟩
  · simpa [jobB] using World.var?_cell gJobNames hv 0
  · simpa [jobB] using World.var?_cell gJobNames hv 1
  · simpa [jobB] using World.var?_cell gJobNames hv 2
  · simpa [jobB] using World.var?_cell gJobNames hv 3
  · simpa [jobB] using World.var?_cell gJobNames hv 4
  · simpa [jobB] using World.var?_cell gJobNames hv 5

theorem within_over (v a b : Int) (h0 : b < v) (w : World) : Calls Tryd.prog 54 #[.int .i64 v, .int .i64 a, .int .i64 b] w fun e w' => e = .returned (.bool false) ∧ w = w' := by
  have h1 : ¬ v ≤ b := by omega
  clear h0
  go_enter Tryd.func54, Tryd.ntmps54
  by_cases h2 : a ≤ v
  · go_wp2
    go_ret
    exact ⟨rfl, rfl⟩
  · go_wp2
    go_ret
    exact ⟨rfl, rfl⟩
theorem jtext_none (k : Int) (hk : k < 0 ∨ 5 < k) (w : World) :
    Calls Tryd.prog 32 #[.int .i64 k] w fun e w' => e = .returned (.string ⟨#[]⟩) ∧ w = w' := by
  rcases hk with h | h
  · go_enter Tryd.func32, Tryd.ntmps32
    go_wp2_with fail
    refine (within_no _ _ _ h _).mono ?_
    rintro e w' ⟨rfl, rfl⟩
    go_wp2
    go_ret
    exact ⟨rfl, rfl⟩
  · go_enter Tryd.func32, Tryd.ntmps32
    go_wp2_with fail
    refine (within_over _ _ _ h _).mono ?_
    rintro e w' ⟨rfl, rfl⟩
    go_wp2
    go_ret
    exact ⟨rfl, rfl⟩
def jname (k : Nat) : ByteArray := ⟨((jobB.getD k []).toArray)⟩
theorem jtext_at (k : Nat) (hk : k < 6) (w : World) (h : JobNamesAt w) :
    Calls Tryd.prog 32 #[.int .i64 k] w fun e w' => e = .returned (.string (jname k)) ∧ w = w' := by
  obtain ⟨h0, h1, h2, h3, h4, h5⟩ := h
  rcases (show k = 0 ∨ k = 1 ∨ k = 2 ∨ k = 3 ∨ k = 4 ∨ k = 5 by omega) with rfl | rfl | rfl | rfl | rfl | rfl
  all_goals
    go_enter Tryd.func32, Tryd.ntmps32
    go_wp2_with fail
    refine (within_yes _ _ _ (by decide) (by decide) _).mono ?_
    rintro e w' ⟨rfl, rfl⟩
    go_wp2
    go_ret
    exact ⟨rfl, rfl⟩
end Go.Proofs.YtkllhnfnkgkelaaDoor
