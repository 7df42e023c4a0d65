/- Laws that belong together: Contracts of sets of nodes (layer 7, bits): Lowest, Take. Condition: math/bits' table of trailing zeros lies as its text lays it.; Where the row's variables are laid, math/bits' table of trailing zeros lies as its text lays it. -/
import Derived.Test.YtnofgffkfapodaaDoorMBits
import Derived.Shelf.Spec.TrailingZeros
import Derived.Deep.DeepHandedRow
import Derived.Lib.LaidTab
namespace Go.Proofs.YtnofgffkfapodaaDoor
set_option linter.unusedVariables false
open Go.ChangeShapes Go.WideShapes Go.ChangeAt Go.RowKit Go.Shelf
attribute [local go_sem ↓] Go.wp_at_zero Go.wp_at_succ comesTo_value_eq comesTo_skip_eq comesTo_enter_eq

/-- the table of trailing zeros lies as its text lays it -/
def TabZ (w : World) : Prop := 0 < w.heap.size ∧ TabAt 0 Lib.deBruijn64tab w
theorem TabZ.below {w w' : World} (h : TabZ w) (hb : Below w.heap.size w w') : TabZ w' :=
  ⟨Nat.lt_of_lt_of_le h.1 hb.size, fun j hj => (hb.cell (p := ⟨_, j, none⟩) h.1).trans (h.2 j hj)⟩

theorem tz_core (x : Int) (i k : Nat) (w : World) (h0 : (x == 0) = false) (hkey : IntKind.u64.wrap (bits BinOp.and IntKind.u64 x (IntKind.u64.wrap (-x)) * 285870213051353865) / 288230376151711744 = (i : Int)) (hi : i < 64) (hk : k < 64)
    (hcell : w.cell? ⟨0, i, none⟩ = some (.int .u8 k)) :
    Calls Tryd.prog 77 #[.int .u64 x] w fun e w' => e = .returned (.int .i64 k) ∧ w = w' := by
  have hi2 : (i : Int) < 64 := by omega
  have hk2 : (k : Int) < 64 := by omega
  go_enter Tryd.func77, Tryd.ntmps77
  go_wp2
  go_ret
  exact ⟨rfl, rfl⟩
theorem tz_any (s : NSet) (hs : s ≠ 0#64) (w : World) (hT : TabZ w) :
    Calls Tryd.prog 77 #[.int .u64 (nv s)] w fun e w' => e = .returned (.int .i64 (lowN s)) ∧ w = w' := by
  have h0 : s.toNat ≠ 0 := fun e => hs (BitVec.eq_of_toNat_eq (by simpa using e))
  obtain ⟨hlow, hk⟩ := Lib.lowest_bit 64 s.toNat h0 s.isLt
  obtain ⟨hi, htab⟩ := Lib.deBruijn64_at _ hk
  have hcell := hT.2 _ hi
  rw [htab] at hcell
  have hb : (nv s == 0) = false := by rw [nv_is0]; simpa using hs
  exact tz_core (nv s) _ (Lib.ctz 64 s.toNat) w hb (tz64_key s.toNat _ s.isLt h0 hlow) (by simpa using hi) hk hcell
theorem lowest_any (s : NSet) (w : World) (hT : TabZ w) :
    Calls Tryd.prog 63 #[.int .u64 (nv s)] w fun e w' => e = .returned (.int .i64 (lowI s)) ∧ w = w' := by
  by_cases hs : s = 0#64
  · have hb : (nv s == 0) = true := by rw [nv_is0]; simpa using hs
    have e : lowI s = -1 := by unfold lowI; rw [if_pos hs]
    rw [e]
    clear hs e
    go_enter Tryd.func63, Tryd.ntmps63
    go_wp2
    go_ret
    exact ⟨rfl, rfl⟩
  · have hb : (nv s == 0) = false := by rw [nv_is0]; simpa using hs
    have e : lowI s = (lowN s : Int) := by unfold lowI; rw [if_neg hs]
    have K := Lib.hid (tz_any s hs w hT)
    rw [e]
    clear hs e hT
    go_enter Tryd.func63, Tryd.ntmps63
    go_wp2_with (go_at_call 77; refine K.out.mono ?_; rintro e w' ⟨rfl, rfl⟩)
    go_ret
    exact ⟨rfl, rfl⟩
/-- what Take tells -/
def takeS (s : NSet) (n : Int) : NSet := if (card s : Int) < n then 0#64 else tk n.toNat s
end Go.Proofs.YtnofgffkfapodaaDoor
namespace Go.Proofs.YtnofgffkfapodaaDoor
set_option linter.unusedVariables false
open Go.ChangeShapes Go.WideShapes Go.ChangeAt Go.RowKit Go.Shelf

theorem gTabZ : Tryd.prog.globalNamed "math/bits.deBruijn64tab" = some 0 := by kernel_rfl
theorem gTabZType : (Tryd.prog.globals[0]?).map (·.type) = some 113 := by kernel_rfl
theorem cellsTabZ : Tryd.prog.cellsOf 113 = 64 := by kernel_rfl
theorem cellsU8 : Tryd.prog.cellsOf 5 = 1 := by kernel_rfl
theorem tabz_data {H : Type} : (Rows.laid_math_bits_deBruijn64tab : DataW H) = Lib.tabData .u8 (Lib.deBruijn64tab.map Int.ofNat) := rfl
theorem tabz_at {W : World} (h : laidMet Tryd.prog [("math/bits.deBruijn64tab", Rows.laid_math_bits_deBruijn64tab)] W) : TabZ W := by
  obtain ⟨ps, ⟨g, t, cs, fuel, p, q, hg, ht, hvar, hd, _, _⟩, _⟩ := h
  obtain rfl := Option.some.inj (gTabZ.symm.trans hg)
  obtain rfl := Option.some.inj (gTabZType.symm.trans ht)
  rw [tabz_data] at hd
  have hcs := Lib.cells_of_tab (zs := Lib.deBruijn64tab.map Int.ofNat) Tryd.underlying113 Tryd.underlying5 cellsU8 cellsTabZ hd
  have hv : W.var? Tryd.prog "math/bits.deBruijn64tab" = some ((Lib.deBruijn64tab.map Int.ofNat).map fun z => Value.int .u8 z).toArray := by rw [hvar, ← hcs]
  have hT : TabAt 0 Lib.deBruijn64tab W := by
    intro j hj
    have := World.var?_cell gTabZ hv j
    simpa [List.getD, hj] using this
  exact ⟨World.block_lt_of_cell? W _ (hT 0 (by decide)), hT⟩
end Go.Proofs.YtnofgffkfapodaaDoor
