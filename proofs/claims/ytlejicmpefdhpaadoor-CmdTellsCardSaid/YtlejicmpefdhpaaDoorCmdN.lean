/- The table of the kinds' names (layer 22), as it is laid; Name, Of. -/
import Derived.Test.YtlejicmpefdhpaaDoorFr
import Derived.Lib.LaidTab
import Derived.Deep.DeepCutAuto
namespace Go.Proofs.YtlejicmpefdhpaaDoor
set_option linter.unusedVariables false
open Go.ChangeShapes Go.WideShapes Go.ChangeAt Go.RowKit
attribute [local go_sem ↓] Go.wp_at_zero Go.wp_at_succ

/-- AN ARRAY OF STRINGS THAT READS AS A LIST OF TEXTS HOLDS THEM, CELL FOR CELL. -/
theorem cells_of_names {H : Type} {enc : TypeId × Value → H} {P : Program} {w : World} {base : Nat} {sp : Nat → Bool} {held : Bool} {fuel : Nat} {t e : TypeId} {n : Nat} {cs : List Value} {bs : List (List UInt8)} {p : List MemPlace}
    (ht : P.underlying t = some (.array n e)) (he : P.underlying e = some .string) (hce : P.cellsOf e = 1) (hct : P.cellsOf t = n)
    (h : DataW.trod enc P w base sp held fuel t cs = some (.agg (bs.map fun b => .lit (.string b)), p)) : cs = bs.map fun b => Value.string ⟨b.toArray⟩ := by
  cases fuel with
  | zero => simp [DataW.trod] at h
  | succ fuel =>
    simp only [DataW.trod, ht, hce, hct, Nat.mul_one] at h
    split at h
    · rename_i hl
      obtain ⟨xs, hm, hx⟩ := Option.map_eq_some_iff.1 h
      have hxs : xs.map (·.1) = bs.map fun b => (DataW.lit (.string b) : DataW H) := by
        have := congrArg Prod.fst hx
        simpa using this
      have hxl : xs.length = n := by simpa using Lib.mapM_length hm
      have hzl : bs.length = n := by
        have := congrArg List.length hxs
        simp at this
        omega
      apply List.ext_getElem?
      intro i
      by_cases hi : i < n
      · obtain ⟨b, hb, hf⟩ := Lib.mapM_at hm i i (by simp [hi])
        obtain ⟨s, hc, rfl, _⟩ := DataW.trod_string he hf
        have h1 : cs[i]? = some (.string s) := by
          have := congrArg (·[0]?) hc
          simpa [List.getElem?_take, List.getElem?_drop] using this
        have h2 : (xs.map (·.1))[i]? = some (DataW.lit (.string s.data.toList) : DataW H) := by simp [hb]
        rw [hxs] at h2
        simp only [List.getElem?_map, Option.map_eq_some_iff, DataW.lit.injEq, Lit.string.injEq] at h2
        obtain ⟨z', hz', h3⟩ := h2
        rw [h1]
        simp [hz', h3]
      · rw [List.getElem?_eq_none (by omega), List.getElem?_eq_none (by simp; omega)]
    · cases h

/-- the names of the kinds; of 0 none -/
def cmdB : List (List UInt8) := [[], [115, 117, 98, 109, 105, 116], [99, 97, 110, 99, 101, 108], [104, 111, 108, 100], [114, 101, 108, 101, 97, 115, 101], [108, 105, 109, 105, 116], [114, 101, 115, 101, 114, 118, 101], [117, 110, 114, 101, 115, 101, 114, 118, 101], [100, 114, 97, 105, 110], [117, 110, 100, 114, 97, 105, 110], [116, 105, 99, 107], [116, 101, 108, 108], [101, 120, 105, 116]]
def cname (k : Nat) : ByteArray := ⟨((cmdB.getD k []).toArray)⟩
def CmdNamesAt (w : World) : Prop := ∀ k : Nat, k < 13 → w.cell? ⟨0, k, none⟩ = some (.string (cname k))
theorem CmdNamesAt.below {w w' : World} (h : CmdNamesAt w) (hb : Below w.heap.size w w') : CmdNamesAt w' := fun k hk =>
  (hb.cell (p := ⟨_, k, none⟩) (World.block_lt_of_cell? w _ (h k hk))).trans (h k hk)
theorem gCmdNames : Tryd.prog.globalNamed "berthing/cmd.names" = some 0 := by kernel_rfl
theorem gCmdNamesType : (Tryd.prog.globals[0]?).map (·.type) = some 75 := by kernel_rfl
theorem cellsCmdNames : Tryd.prog.cellsOf 75 = 13 := by kernel_rfl
theorem cellsStrC : Tryd.prog.cellsOf 9 = 1 := by kernel_rfl
theorem cmdnames_at {W : World} (h : laidMet Tryd.prog [("berthing/cmd.names", Rows.laid_berthing_cmd_names)] W) : CmdNamesAt W := by
  obtain ⟨ps, ⟨g, t, cs, fuel, p, q, hg, ht, hvar, hd, _, _⟩, _⟩ := h
  obtain rfl := Option.some.inj (gCmdNames.symm.trans hg)
  obtain rfl := Option.some.inj (gCmdNamesType.symm.trans ht)
  have hcs := cells_of_names (bs := cmdB) Tryd.underlying75 Tryd.underlying9 cellsStrC cellsCmdNames hd
  have hv : W.var? Tryd.prog "berthing/cmd.names" = some (cmdB.map fun b => Value.string ⟨b.toArray⟩).toArray := by rw [hvar, ← hcs]
  intro k hk
  have h1 := World.var?_cell gCmdNames hv k
  have hl : k < cmdB.length := hk
  simpa [hl, cname, List.getD_eq_getElem?_getD] using h1
theorem cname_ne : ∀ k : Nat, 1 ≤ k ∧ k ≤ 12 → cname k ≠ ⟨#[]⟩ := by
  intro k hk
  rcases (show k = 1 ∨ k = 2 ∨ k = 3 ∨ k = 4 ∨ k = 5 ∨ k = 6 ∨ k = 7 ∨ k = 8 ∨ k = 9 ∨ k = 10 ∨ k = 11 ∨ k = 12 by omega) with rfl | rfl | rfl | rfl | rfl | rfl | rfl | rfl | rfl | rfl | rfl | rfl <;> decide
theorem cname_inj : ∀ j : Nat, j < 13 → ∀ k : Nat, k < 13 → cname j = cname k → j = k := by decide +kernel

theorem iskind_yes (k : Int) (h1 : 1 ≤ k) (h2 : k ≤ 12) (w : World) : Calls Tryd.prog 23 #[.int .i64 k] w fun e w' => e = .returned (.bool true) ∧ w = w' := by
  go_enter Tryd.func23, Tryd.ntmps23
  go_wp2
  go_ret
  exact ⟨rfl, rfl⟩
theorem iskind_no (k : Int) (h : k < 1 ∨ 12 < k) (w : World) : Calls Tryd.prog 23 #[.int .i64 k] w fun e w' => e = .returned (.bool false) ∧ w = w' := by
  rcases h with h | h
  · have h1 : ¬ 1 ≤ k := by omega
    clear h
    go_enter Tryd.func23, Tryd.ntmps23
    go_wp2
    go_ret
    exact ⟨rfl, rfl⟩
  · have h1 : ¬ k ≤ 12 := by omega
    have h2 : 1 ≤ k := by omega
    clear h
    go_enter Tryd.func23, Tryd.ntmps23
    go_wp2
    go_ret
    exact ⟨rfl, rfl⟩
theorem cmdname_none (k : Int) (h : k < 1 ∨ 12 < k) (w : World) :
    Calls Tryd.prog 21 #[.int .i64 k] w fun e w' => e = .returned (.string ⟨#[]⟩) ∧ w = w' := by
  have K := Lib.hid (iskind_no k h w)
  clear h
  go_enter Tryd.func21, Tryd.ntmps21
  go_wp2_with fail
  refine K.out.mono ?_
  rintro e w' ⟨rfl, rfl⟩
  go_wp2
  go_ret
  exact ⟨rfl, rfl⟩
theorem cmdname_at (k : Nat) (h1 : 1 ≤ k) (h2 : k ≤ 12) (w : World) (h : CmdNamesAt w) :
    Calls Tryd.prog 21 #[.int .i64 k] w fun e w' => e = .returned (.string (cname k)) ∧ w = w' := by
  have K := Lib.hid (iskind_yes k (by omega) (by omega) w)
  have hc := h k (by omega)
  clear h
  have hk : k < 13 := by omega
  go_enter Tryd.func21, Tryd.ntmps21
  go_wp2_with fail
  refine K.out.mono ?_
  rintro e w' ⟨rfl, rfl⟩
  go_wp2
  go_ret
  exact ⟨rfl, rfl⟩
theorem bytes_inj {a b : ByteArray} (h : a.toList = b.toList) : a = b := by
  rw [ByteArray.toList_eq, ByteArray.toList_eq] at h
  rcases a with ⟨⟨a⟩⟩
  rcases b with ⟨⟨b⟩⟩
  simp at h
  rw [h]
/-- the kind of a name: the one, or none -/
theorem cmdof_any (s : ByteArray) (w : World) (h : CmdNamesAt w) :
    Calls Tryd.prog 22 #[.string s] w fun e w' => ((∃ k : Nat, 1 ≤ k ∧ k ≤ 12 ∧ cname k = s ∧ e = .returned (.tuple #[.int .i64 k, .bool true])) ∨ (∀ k : Nat, 1 ≤ k → k ≤ 12 → cname k ≠ s) ∧ e = .returned (.tuple #[.int .i64 0, .bool false])) ∧ w = w' := by
  have H := Lib.hid h
  clear h
  go_enter Tryd.func22, Tryd.ntmps22
  go_wp2_with fail
  go_loopw [4] (fun i wr => ∃ k : Nat, 1 ≤ k ∧ k ≤ 13 ∧ i = .int .i64 k ∧ (∀ j : Nat, 1 ≤ j → j < k → cname j ≠ s) ∧ wr = w) (fun i _ => 13 - (intOf i).toNat)
  case atStart => exact ⟨1, by decide, by decide, rfl, fun j h1 h2 => by omega, rfl⟩
  case round =>
    obtain ⟨k, h1, h2, rfl, hall, rfl⟩ := hrel
    have HA := Lib.hid hall
    clear hall
    by_cases hk : k ≤ 12
    · have hd : decide ((k : Int) ≤ 12) = true := decide_eq_true (by omega)
      have hc := H.out k (by omega)
      have hk13 : k < 13 := by omega
      by_cases hs : cname k = s
      · have hq : ((cname k).toList == s.toList) = true := by rw [hs]; exact beq_self_eq_true _
        have HS := Lib.hid hs
        clear hs
        go_wp2
        go_ret2
        exact ⟨.inl ⟨k, h1, hk, HS.out, rfl⟩, rfl⟩
      · have hq : ((cname k).toList == s.toList) = false := by simpa using fun h => hs (bytes_inj h)
        have HS := Lib.hid hs
        clear hs
        go_wp2_with fail
        go_roundw
        case rel => exact ⟨k + 1, by omega, by omega, rfl, fun j h1 h2 => by
          rcases Nat.lt_or_ge j k with h | h
          · exact HA.out j h1 h
          · obtain rfl : j = k := by omega
            exact HS.out, trivial⟩
        case measure => show 13 - ((k : Int) + 1).toNat < 13 - (k : Int).toNat; omega
    · have hd : decide ((k : Int) ≤ 12) = false := decide_eq_false (by omega)
      go_wp2
      go_ret2
      exact ⟨.inr ⟨fun j h1 h2 => HA.out j h1 (by omega), rfl⟩, rfl⟩
end Go.Proofs.YtlejicmpefdhpaaDoor
