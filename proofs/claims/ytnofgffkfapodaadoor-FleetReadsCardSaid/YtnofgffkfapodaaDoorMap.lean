/- Laws that belong together: The document's fleet (berthingref09), as a value over its rows: least, Spares, In. No condition.; The document's fleet: Spares, In. No condition.; The document's fleet under way (New): two rows of one's own that grow by turns. No condition.; The document's New. No condition.; Rows copied whole, one element of a row of one's own written (for the document's Tell); its swaps, plainly. No condition.; The document's Tell under way: its box, its rows of one's own; a swap in memory. No condition.; The document's Tell. No condition.; The document's Tell, of a node that is there. No condition.; A fleet that is as another one is (Clone). No condition. -/
import Derived.Test.YtnofgffkfapodaaDoorMFmB
import Derived.Test.YtnofgffkfapodaaDoorMaj
import Derived.Test.YtnofgffkfapodaaDoorMAppTwo
import Derived.Test.YtnofgffkfapodaaDoorMad
import Derived.Laws.IdiomCopy
namespace Go.Proofs.YtnofgffkfapodaaDoor
set_option linter.unusedVariables false
open Go.ChangeShapes Go.WideShapes Go.ChangeAt Go.RowKit
attribute [local go_sem ↓] Go.wp_at_zero Go.wp_at_succ comesTo_value_eq comesTo_skip_eq comesTo_enter_eq

/-- a fleet's rows: its nodes, whether each is a spare -/
structure RF9 (w : World) (L oL P oP : Nat) (f : FV) : Prop where
  len : 1 ≤ f.ns.length ∧ f.ns.length ≤ 64
  nd : ∀ k, k < f.ns.length → w.cell? ⟨L, oL + k * 3, none⟩ = some (.int .i64 (f.ns.getD k (0, 0, 0)).1) ∧ w.cell? ⟨L, oL + k * 3 + 1, none⟩ = some (.int .i64 (f.ns.getD k (0, 0, 0)).2.1) ∧ w.cell? ⟨L, oL + k * 3 + 2, none⟩ = some (.int .i64 (f.ns.getD k (0, 0, 0)).2.2)
  sp : ∀ k, k < f.ns.length → w.cell? ⟨P, oP + k, none⟩ = some (.bool (f.sp.getLsbD k))
theorem RF9.below {w w' : World} {L oL P oP : Nat} {f : FV} (h : RF9 w L oL P oP f) (hb : Below w.heap.size w w') : RF9 w' L oL P oP f :=
  ⟨h.len, fun k hk => ⟨(hb.cell (World.block_lt_of_cell? w _ (h.nd k hk).1)).trans (h.nd k hk).1, (hb.cell (World.block_lt_of_cell? w _ (h.nd k hk).2.1)).trans (h.nd k hk).2.1, (hb.cell (World.block_lt_of_cell? w _ (h.nd k hk).2.2)).trans (h.nd k hk).2.2⟩, fun k hk => (hb.cell (World.block_lt_of_cell? w _ (h.sp k hk))).trans (h.sp k hk)⟩
/-- the document's value -/
def rf9C (f : FV) (n L oL cL P oP cP : Nat) : Array Value := #[.slice (some ⟨L, oL, none⟩) n cL, .slice (some ⟨P, oP, none⟩) n cP, .int .i64 f.S, .int .i64 f.D, .int .i64 f.P, .int .i64 f.sw]
theorem low_is {H : NSet} {k : Nat} (h : H.getLsbD k = true) (hk : k < 64) (hno : ∀ i, i < k → H.getLsbD i = false) : lowI H = (k : Int) := by
  have hne : H ≠ 0#64 := fun e => by rw [e, BitVec.getLsbD_zero] at h; cases h
  obtain ⟨h1, h2, h3⟩ := lowN_spec hne
  rw [lowI_pos hne]
  rcases Nat.lt_trichotomy (lowN H) k with hl | he | hg
  · rw [hno _ hl] at h2; cases h2
  · rw [he]
  · rw [h3 k hg] at h; cases h
theorem low_none {H : NSet} (h : ∀ i, i < 64 → H.getLsbD i = false) : lowI H = -1 := by
  have : H = 0#64 := set_ext fun i hi => by rw [h i hi, BitVec.getLsbD_zero]
  rw [this]; rfl
set_option maxRecDepth 100000 in
set_option maxHeartbeats 8000000 in
theorem least_any {w : World} {L oL cL P oP cP : Nat} {f : FV} (h : RF9 w L oL P oP f) (hcL : f.ns.length ≤ cL) (hcP : f.ns.length ≤ cP) (s u : Bool) (H : NSet) (hH : ∀ i, i < 64 → H.getLsbD i = (decide (i < f.ns.length) && (f.sp.getLsbD i == s) && (((f.ns.getD i (0, 0, 0)).1 == 0) == u))) :
    Calls Tryd.prog 35 #[.agg (rf9C f f.ns.length L oL cL P oP cP), .bool s, .bool u] w fun e w' => e = .returned (.int .i64 (lowI H)) ∧ Below w.heap.size w w' := by
  obtain ⟨n, hn⟩ : ∃ n, n = f.ns.length := ⟨_, rfl⟩
  rw [← hn]
  unfold rf9C
  have hA := below_alloc (Below.refl _ w) (.cells #[.slice (some ⟨L, oL, none⟩) n cL, .slice (some ⟨P, oP, none⟩) n cP, .int .i64 f.S, .int .i64 f.D, .int .i64 f.P, .int .i64 f.sw] 34)
  have NB := Lib.hid (World.alloc_heap_new w (.cells #[.slice (some ⟨L, oL, none⟩) n cL, .slice (some ⟨P, oP, none⟩) n cP, .int .i64 f.S, .int .i64 f.D, .int .i64 f.P, .int .i64 f.sw] 34))
  have HR := Lib.hid (h.below hA)
  have HA := Lib.hid hA
  have HN := Lib.hid hn
  have HH := Lib.hid hH
  have HLN := Lib.hid (show n ≤ 64 by rw [hn]; exact h.len.2)
  have hcL' : n ≤ cL := by rw [hn]; exact hcL
  have hcP' : n ≤ cP := by rw [hn]; exact hcP
  clear h hH hn hA hcL hcP
  go_enter Tryd.func35, Tryd.ntmps35
  go_upto_region 1 with fail
  generalize w.alloc (.cells #[.slice (some ⟨L, oL, none⟩) n cL, .slice (some ⟨P, oP, none⟩) n cP, .int .i64 f.S, .int .i64 f.D, .int .i64 f.P, .int .i64 f.sw] 34) = W at *
  have b0 := cell_of_block (o := 0) NB.out rfl
  have b1 := cell_of_block (o := 1) NB.out rfl
  go_wp2_with fail
  go_loopw [7] (fun i wr => wr = W ∧ ∃ k : Nat, k ≤ n ∧ i = .int .i64 k ∧ ∀ j, j < k → H.getLsbD j = false) (fun i _ => n - (intOf i).toNat)
  case atStart => exact ⟨rfl, 0, Nat.zero_le _, rfl, fun j hj => by omega⟩
  case round =>
    obtain ⟨rfl, k, hk, rfl, hno⟩ := hrel
    have HNO := Lib.hid hno
    clear hno
    by_cases hlt : k < n
    · have hd : decide (k < n) = true := decide_eq_true hlt
      have hd2 : decide ((k : Int) < (n : Int)) = true := decide_eq_true (by omega)
      have hkI : (k : Int) < (n : Int) := by omega
      have hkn : k < f.ns.length := by rw [← HN.out]; exact hlt
      have hw1 : IntKind.i64.wrap ((k : Int) + 1) = (k : Int) + 1 := by have := HLN.out; rw [IntKind.wrap_i64]; omega
      have n0 := (HR.out.nd k hkn).1
      have p0 := HR.out.sp k hkn
      have hG := HH.out k (by have := HLN.out; omega)
      rw [decide_eq_true hkn, Bool.true_and] at hG
      have HK64 := Lib.hid (show k < 64 by have := HLN.out; omega)
      clear hkn
      generalize hst : (f.ns.getD k (0, 0, 0)).1 = st at *
      generalize hx : f.sp.getLsbD k = x at *
      obtain ⟨z, hz⟩ : ∃ z, (st == 0) = z := ⟨_, rfl⟩
      rw [hz] at hG
      have HG := Lib.hid hG
      clear hG hst hx
      cases x <;> cases s <;> cases z <;> cases u
      · have hg : H.getLsbD k = true := HG.out
        have HL := Lib.hid (low_is hg HK64.out HNO.out)
        clear hg
        go_wp2_with fail
        go_ret
        exact ⟨by rw [HL.out]; rfl, HA.out⟩
      · have hg : H.getLsbD k = false := HG.out
        have HREL := Lib.hid (show ∀ j, j < k + 1 → H.getLsbD j = false from fun j hj => by
          rcases Nat.lt_or_ge j k with h1 | h1
          · exact HNO.out j h1
          · obtain rfl : j = k := by omega
            exact hg)
        clear hg
        go_wp2_with fail
        go_roundw
        case rel => exact ⟨by trivial, k + 1, by omega, by go_num, HREL.out⟩
        case measure => simp [intOf]; omega
      · have hg : H.getLsbD k = false := HG.out
        have HREL := Lib.hid (show ∀ j, j < k + 1 → H.getLsbD j = false from fun j hj => by
          rcases Nat.lt_or_ge j k with h1 | h1
          · exact HNO.out j h1
          · obtain rfl : j = k := by omega
            exact hg)
        clear hg
        go_wp2_with fail
        go_roundw
        case rel => exact ⟨by trivial, k + 1, by omega, by go_num, HREL.out⟩
        case measure => simp [intOf]; omega
      · have hg : H.getLsbD k = true := HG.out
        have HL := Lib.hid (low_is hg HK64.out HNO.out)
        clear hg
        go_wp2_with fail
        go_ret
        exact ⟨by rw [HL.out]; rfl, HA.out⟩
      · have hg : H.getLsbD k = false := HG.out
        have HREL := Lib.hid (show ∀ j, j < k + 1 → H.getLsbD j = false from fun j hj => by
          rcases Nat.lt_or_ge j k with h1 | h1
          · exact HNO.out j h1
          · obtain rfl : j = k := by omega
            exact hg)
        clear hg
        go_wp2_with fail
        go_roundw
        case rel => exact ⟨by trivial, k + 1, by omega, by go_num, HREL.out⟩
        case measure => simp [intOf]; omega
      · have hg : H.getLsbD k = false := HG.out
        have HREL := Lib.hid (show ∀ j, j < k + 1 → H.getLsbD j = false from fun j hj => by
          rcases Nat.lt_or_ge j k with h1 | h1
          · exact HNO.out j h1
          · obtain rfl : j = k := by omega
            exact hg)
        clear hg
        go_wp2_with fail
        go_roundw
        case rel => exact ⟨by trivial, k + 1, by omega, by go_num, HREL.out⟩
        case measure => simp [intOf]; omega
      · have hg : H.getLsbD k = false := HG.out
        have HREL := Lib.hid (show ∀ j, j < k + 1 → H.getLsbD j = false from fun j hj => by
          rcases Nat.lt_or_ge j k with h1 | h1
          · exact HNO.out j h1
          · obtain rfl : j = k := by omega
            exact hg)
        clear hg
        go_wp2_with fail
        go_roundw
        case rel => exact ⟨by trivial, k + 1, by omega, by go_num, HREL.out⟩
        case measure => simp [intOf]; omega
      · have hg : H.getLsbD k = false := HG.out
        have HREL := Lib.hid (show ∀ j, j < k + 1 → H.getLsbD j = false from fun j hj => by
          rcases Nat.lt_or_ge j k with h1 | h1
          · exact HNO.out j h1
          · obtain rfl : j = k := by omega
            exact hg)
        clear hg
        go_wp2_with fail
        go_roundw
        case rel => exact ⟨by trivial, k + 1, by omega, by go_num, HREL.out⟩
        case measure => simp [intOf]; omega
      · have hg : H.getLsbD k = false := HG.out
        have HREL := Lib.hid (show ∀ j, j < k + 1 → H.getLsbD j = false from fun j hj => by
          rcases Nat.lt_or_ge j k with h1 | h1
          · exact HNO.out j h1
          · obtain rfl : j = k := by omega
            exact hg)
        clear hg
        go_wp2_with fail
        go_roundw
        case rel => exact ⟨by trivial, k + 1, by omega, by go_num, HREL.out⟩
        case measure => simp [intOf]; omega
      · have hg : H.getLsbD k = false := HG.out
        have HREL := Lib.hid (show ∀ j, j < k + 1 → H.getLsbD j = false from fun j hj => by
          rcases Nat.lt_or_ge j k with h1 | h1
          · exact HNO.out j h1
          · obtain rfl : j = k := by omega
            exact hg)
        clear hg
        go_wp2_with fail
        go_roundw
        case rel => exact ⟨by trivial, k + 1, by omega, by go_num, HREL.out⟩
        case measure => simp [intOf]; omega
      · have hg : H.getLsbD k = false := HG.out
        have HREL := Lib.hid (show ∀ j, j < k + 1 → H.getLsbD j = false from fun j hj => by
          rcases Nat.lt_or_ge j k with h1 | h1
          · exact HNO.out j h1
          · obtain rfl : j = k := by omega
            exact hg)
        clear hg
        go_wp2_with fail
        go_roundw
        case rel => exact ⟨by trivial, k + 1, by omega, by go_num, HREL.out⟩
        case measure => simp [intOf]; omega
      · have hg : H.getLsbD k = false := HG.out
        have HREL := Lib.hid (show ∀ j, j < k + 1 → H.getLsbD j = false from fun j hj => by
          rcases Nat.lt_or_ge j k with h1 | h1
          · exact HNO.out j h1
          · obtain rfl : j = k := by omega
            exact hg)
        clear hg
        go_wp2_with fail
        go_roundw
        case rel => exact ⟨by trivial, k + 1, by omega, by go_num, HREL.out⟩
        case measure => simp [intOf]; omega
      · have hg : H.getLsbD k = true := HG.out
        have HL := Lib.hid (low_is hg HK64.out HNO.out)
        clear hg
        go_wp2_with fail
        go_ret
        exact ⟨by rw [HL.out]; rfl, HA.out⟩
      · have hg : H.getLsbD k = false := HG.out
        have HREL := Lib.hid (show ∀ j, j < k + 1 → H.getLsbD j = false from fun j hj => by
          rcases Nat.lt_or_ge j k with h1 | h1
          · exact HNO.out j h1
          · obtain rfl : j = k := by omega
            exact hg)
        clear hg
        go_wp2_with fail
        go_roundw
        case rel => exact ⟨by trivial, k + 1, by omega, by go_num, HREL.out⟩
        case measure => simp [intOf]; omega
      · have hg : H.getLsbD k = false := HG.out
        have HREL := Lib.hid (show ∀ j, j < k + 1 → H.getLsbD j = false from fun j hj => by
          rcases Nat.lt_or_ge j k with h1 | h1
          · exact HNO.out j h1
          · obtain rfl : j = k := by omega
            exact hg)
        clear hg
        go_wp2_with fail
        go_roundw
        case rel => exact ⟨by trivial, k + 1, by omega, by go_num, HREL.out⟩
        case measure => simp [intOf]; omega
      · have hg : H.getLsbD k = true := HG.out
        have HL := Lib.hid (low_is hg HK64.out HNO.out)
        clear hg
        go_wp2_with fail
        go_ret
        exact ⟨by rw [HL.out]; rfl, HA.out⟩
    · obtain rfl : k = n := by omega
      have hd : decide (k < k) = false := decide_eq_false (by omega)
      have hd2 : decide ((k : Int) < (k : Int)) = false := decide_eq_false (by omega)
      have HL := Lib.hid (show lowI H = -1 from low_none fun i hi => by
        rcases Nat.lt_or_ge i k with h1 | h1
        · exact HNO.out i h1
        · rw [HH.out i hi, decide_eq_false (by rw [← HN.out]; omega)]; rfl)
      go_wp2_with fail
      go_ret
      exact ⟨by rw [HL.out]; rfl, HA.out⟩
/-- one node more, as a number -/
theorem nv_add {a : NSet} {k : Nat} (hk : k < 64) (h : ∀ i, k ≤ i → i < 64 → a.getLsbD i = false) : IntKind.u64.wrap (nv a + nv (oneI (k : Int))) = nv (a ||| oneI (k : Int)) := by
  have hap : a &&& oneI (k : Int) = 0#64 := set_ext fun i hi => by
    rw [BitVec.getLsbD_and, BitVec.getLsbD_zero, oneI_get]
    by_cases hik : (k : Int) = (i : Int)
    · obtain rfl : k = i := by omega
      rw [h k (Nat.le_refl _) hi]; rfl
    · rw [decide_eq_false hik]; simp
  have hor : a + oneI (k : Int) = a ||| oneI (k : Int) := BitVec.add_eq_or_of_and_eq_zero a (oneI (k : Int)) hap
  rw [← hor]
  unfold nv
  rw [IntKind.wrap_u64, BitVec.toNat_add]
  omega
theorem nv_one {k : Nat} (hk : k < 64) : nv (oneI (k : Int)) = (2 : Int) ^ k := by
  unfold nv oneI
  rw [if_neg (by omega), Int.toNat_natCast, BitVec.toNat_twoPow, Nat.mod_eq_of_lt (Nat.pow_lt_pow_right (by decide) hk)]
  simp
end Go.Proofs.YtnofgffkfapodaaDoor
namespace Go.Proofs.YtnofgffkfapodaaDoor
set_option linter.unusedVariables false
open Go.ChangeShapes Go.WideShapes Go.ChangeAt Go.RowKit
attribute [local go_sem ↓] Go.wp_at_zero Go.wp_at_succ comesTo_value_eq comesTo_skip_eq comesTo_enter_eq

/-- of the first k nodes those that H holds -/
def firstK (H : NSet) (k : Nat) : NSet := H &&& firstI (k : Int)
theorem firstK_get (H : NSet) (k i : Nat) (hi : i < 64) : (firstK H k).getLsbD i = (H.getLsbD i && decide (i < k)) := by
  unfold firstK
  rw [BitVec.getLsbD_and, firstI_get _ _ hi]
  congr 1
  exact decide_eq_decide.2 (by omega)
theorem firstK_step (H : NSet) {k : Nat} (hk : k < 64) : firstK H (k + 1) = if H.getLsbD k = true then firstK H k ||| oneI (k : Int) else firstK H k := by
  split
  · rename_i h
    refine set_ext fun i hi => ?_
    rw [firstK_get _ _ _ hi, BitVec.getLsbD_or, firstK_get _ _ _ hi, oneI_get]
    by_cases hik : i = k
    · subst hik; rw [h]; simp [hi]
    · have h1 : ¬ (k : Int) = (i : Int) := by omega
      have h2 : (i < k + 1) ↔ (i < k) := by omega
      simp [h1, h2]
  · rename_i h
    refine set_ext fun i hi => ?_
    rw [firstK_get _ _ _ hi, firstK_get _ _ _ hi]
    by_cases hik : i = k
    · subst hik; simp only [Bool.not_eq_true] at h; rw [h]; rfl
    · have h2 : (i < k + 1) ↔ (i < k) := by omega
      simp [h2]
theorem firstK_all (H : NSet) (n : Nat) (h : ∀ i, i < 64 → H.getLsbD i = true → i < n) : firstK H n = H := set_ext fun i hi => by
  rw [firstK_get _ _ _ hi]
  cases hg : H.getLsbD i with
  | false => rfl
  | true => rw [decide_eq_true (h i hi hg)]; rfl
theorem firstK_zero (H : NSet) : firstK H 0 = 0#64 := set_ext fun i hi => by rw [firstK_get _ _ _ hi]; simp
theorem firstK_more (H : NSet) {k : Nat} (hk : k < 64) (h : H.getLsbD k = true) : IntKind.u64.wrap (nv (firstK H k) + IntKind.u64.wrap ((2 : Int) ^ min k 64)) = nv (firstK H (k + 1)) := by
  have hp := nv_hi (oneI (k : Int))
  have hp0 := nv_lo (oneI (k : Int))
  have hw : IntKind.u64.wrap ((2 : Int) ^ min k 64) = (2 : Int) ^ k := by
    rw [Nat.min_eq_left (by omega), ← nv_one hk, IntKind.wrap_u64]
    omega
  rw [hw]
  rw [← nv_one hk, nv_add hk (fun i hi h6 => by rw [firstK_get _ _ _ h6, decide_eq_false (by omega)]; simp), firstK_step H hk, if_pos h]
set_option maxRecDepth 100000 in
set_option maxHeartbeats 8000000 in
theorem spares9_any {w : World} {L oL cL P oP cP : Nat} {f : FV} (h : RF9 w L oL P oP f) (hcL : f.ns.length ≤ cL) (hcP : f.ns.length ≤ cP) (hs : ∀ i, i < 64 → f.sp.getLsbD i = true → i < f.ns.length) :
    Calls Tryd.prog 40 #[.agg (rf9C f f.ns.length L oL cL P oP cP)] w fun e w' => e = .returned (.int .u64 (nv f.sp)) ∧ Below w.heap.size w w' := by
  obtain ⟨n, hn⟩ : ∃ n, n = f.ns.length := ⟨_, rfl⟩
  rw [← hn]
  unfold rf9C
  have hA := below_alloc (Below.refl _ w) (.cells #[.slice (some ⟨L, oL, none⟩) n cL, .slice (some ⟨P, oP, none⟩) n cP, .int .i64 f.S, .int .i64 f.D, .int .i64 f.P, .int .i64 f.sw] 34)
  have NB := Lib.hid (World.alloc_heap_new w (.cells #[.slice (some ⟨L, oL, none⟩) n cL, .slice (some ⟨P, oP, none⟩) n cP, .int .i64 f.S, .int .i64 f.D, .int .i64 f.P, .int .i64 f.sw] 34))
  have HR := Lib.hid (h.below hA)
  have HA := Lib.hid hA
  have HN := Lib.hid hn
  have HS := Lib.hid hs
  have HLN := Lib.hid (show n ≤ 64 by rw [hn]; exact h.len.2)
  have hcL' : n ≤ cL := by rw [hn]; exact hcL
  have hcP' : n ≤ cP := by rw [hn]; exact hcP
  clear h hs hn hA hcL hcP
  go_enter Tryd.func40, Tryd.ntmps40
  go_upto_region 1 with fail
  generalize w.alloc (.cells #[.slice (some ⟨L, oL, none⟩) n cL, .slice (some ⟨P, oP, none⟩) n cP, .int .i64 f.S, .int .i64 f.D, .int .i64 f.P, .int .i64 f.sw] 34) = W at *
  have b0 := cell_of_block (o := 0) NB.out rfl
  have b1 := cell_of_block (o := 1) NB.out rfl
  go_wp2_with fail
  go_loopw [4, 3] (fun i v wr => wr = W ∧ ∃ k : Nat, k ≤ n ∧ i = .int .i64 k ∧ v = .int .u64 (nv (firstK f.sp k))) (fun i _ _ => n - (intOf i).toNat)
  case atStart => exact ⟨rfl, 0, Nat.zero_le _, rfl, by rw [firstK_zero]; rfl⟩
  case round =>
    obtain ⟨rfl, k, hk, rfl, rfl⟩ := hrel
    by_cases hlt : k < n
    · have hd : decide (k < n) = true := decide_eq_true hlt
      have hd2 : decide ((k : Int) < (n : Int)) = true := decide_eq_true (by omega)
      have hkI : (k : Int) < (n : Int) := by omega
      have hkn : k < f.ns.length := by rw [← HN.out]; exact hlt
      have hw1 : IntKind.i64.wrap ((k : Int) + 1) = (k : Int) + 1 := by have := HLN.out; rw [IntKind.wrap_i64]; omega
      have hw2 : IntKind.u64.wrap (k : Int) = (k : Int) := by have := HLN.out; rw [IntKind.wrap_u64]; omega
      have p0 := HR.out.sp k hkn
      have HK64 := Lib.hid (show k < 64 by have := HLN.out; omega)
      have HM := Lib.hid (firstK_more f.sp HK64.out)
      have HST := Lib.hid (firstK_step f.sp HK64.out)
      clear hkn
      generalize hx : f.sp.getLsbD k = x at *
      clear hx
      cases x with
      | true =>
        go_wp2_with fail
        go_roundw
        case rel => exact ⟨by trivial, k + 1, by omega, by go_num, by rw [HM.out rfl]⟩
        case measure => simp [intOf]; omega
      | false =>
        have HE := Lib.hid (show firstK f.sp (k + 1) = firstK f.sp k from HST.out)
        go_wp2_with fail
        go_roundw
        case rel => exact ⟨by trivial, k + 1, by omega, by go_num, by rw [HE.out]⟩
        case measure => simp [intOf]; omega
    · obtain rfl : k = n := by omega
      have hd : decide (k < k) = false := decide_eq_false (by omega)
      have hd2 : decide ((k : Int) < (k : Int)) = false := decide_eq_false (by omega)
      have HL := Lib.hid (firstK_all f.sp k (fun i hi hg => by rw [HN.out]; exact HS.out i hi hg))
      rw [HL.out]
      go_wp2_with fail
      go_ret
      exact ⟨rfl, HA.out⟩
set_option maxRecDepth 100000 in
set_option maxHeartbeats 8000000 in
theorem in9_any {w : World} {L oL cL P oP cP : Nat} {f : FV} (h : RF9 w L oL P oP f) (hcL : f.ns.length ≤ cL) (hcP : f.ns.length ≤ cP) (st : Int) :
    Calls Tryd.prog 42 #[.agg (rf9C f f.ns.length L oL cL P oP cP), .int .i64 st] w fun e w' => e = .returned (.int .u64 (nv (inF f st))) ∧ Below w.heap.size w w' := by
  obtain ⟨n, hn⟩ : ∃ n, n = f.ns.length := ⟨_, rfl⟩
  rw [← hn]
  unfold rf9C
  have hA := below_alloc (Below.refl _ w) (.cells #[.slice (some ⟨L, oL, none⟩) n cL, .slice (some ⟨P, oP, none⟩) n cP, .int .i64 f.S, .int .i64 f.D, .int .i64 f.P, .int .i64 f.sw] 34)
  have NB := Lib.hid (World.alloc_heap_new w (.cells #[.slice (some ⟨L, oL, none⟩) n cL, .slice (some ⟨P, oP, none⟩) n cP, .int .i64 f.S, .int .i64 f.D, .int .i64 f.P, .int .i64 f.sw] 34))
  have HR := Lib.hid (h.below hA)
  have HA := Lib.hid hA
  have HN := Lib.hid hn
  obtain ⟨H, hH⟩ : ∃ H, H = inF f st := ⟨_, rfl⟩
  have HS := Lib.hid (show ∀ i, i < 64 → H.getLsbD i = (decide (i < f.ns.length) && ((f.ns.getD i (0, 0, 0)).1 == st)) from fun i hi => by rw [hH]; unfold inF; rw [sel_get _ _ _ hi])
  rw [← hH]
  clear hH
  have HLN := Lib.hid (show n ≤ 64 by rw [hn]; exact h.len.2)
  have hcL' : n ≤ cL := by rw [hn]; exact hcL
  have hcP' : n ≤ cP := by rw [hn]; exact hcP
  clear h hn hA hcL hcP
  go_enter Tryd.func42, Tryd.ntmps42
  go_upto_region 1 with fail
  generalize w.alloc (.cells #[.slice (some ⟨L, oL, none⟩) n cL, .slice (some ⟨P, oP, none⟩) n cP, .int .i64 f.S, .int .i64 f.D, .int .i64 f.P, .int .i64 f.sw] 34) = W at *
  have b0 := cell_of_block (o := 0) NB.out rfl
  have b1 := cell_of_block (o := 1) NB.out rfl
  go_wp2_with fail
  go_loopw [6, 5] (fun i v wr => wr = W ∧ ∃ k : Nat, k ≤ n ∧ i = .int .i64 k ∧ v = .int .u64 (nv (firstK H k))) (fun i _ _ => n - (intOf i).toNat)
  case atStart => exact ⟨rfl, 0, Nat.zero_le _, rfl, by rw [firstK_zero]; rfl⟩
  case round =>
    obtain ⟨rfl, k, hk, rfl, rfl⟩ := hrel
    by_cases hlt : k < n
    · have hd : decide (k < n) = true := decide_eq_true hlt
      have hd2 : decide ((k : Int) < (n : Int)) = true := decide_eq_true (by omega)
      have hkI : (k : Int) < (n : Int) := by omega
      have hkn : k < f.ns.length := by rw [← HN.out]; exact hlt
      have hw1 : IntKind.i64.wrap ((k : Int) + 1) = (k : Int) + 1 := by have := HLN.out; rw [IntKind.wrap_i64]; omega
      have hw2 : IntKind.u64.wrap (k : Int) = (k : Int) := by have := HLN.out; rw [IntKind.wrap_u64]; omega
      have p0 := (HR.out.nd k hkn).1
      have hG := HS.out k (by have := HLN.out; omega)
      rw [decide_eq_true hkn, Bool.true_and] at hG
      have HK64 := Lib.hid (show k < 64 by have := HLN.out; omega)
      have HM := Lib.hid (firstK_more H HK64.out)
      have HST := Lib.hid (firstK_step H HK64.out)
      clear hkn
      generalize (f.ns.getD k (0, 0, 0)).1 = t at *
      generalize H.getLsbD k = x at *
      have hG' := hG.symm
      clear hG
      cases x with
      | true =>
        go_wp2_with fail
        go_roundw
        case rel => exact ⟨by trivial, k + 1, by omega, by go_num, by rw [HM.out rfl]⟩
        case measure => simp [intOf]; omega
      | false =>
        have HE := Lib.hid (show firstK H (k + 1) = firstK H k from HST.out)
        go_wp2_with fail
        go_roundw
        case rel => exact ⟨by trivial, k + 1, by omega, by go_num, by rw [HE.out]⟩
        case measure => simp [intOf]; omega
    · obtain rfl : k = n := by omega
      have hd : decide (k < k) = false := decide_eq_false (by omega)
      have hd2 : decide ((k : Int) < (k : Int)) = false := decide_eq_false (by omega)
      have HL := Lib.hid (firstK_all H k (fun i hi hg => by rw [HN.out]; rw [HS.out i hi, Bool.and_eq_true, decide_eq_true_eq] at hg; exact hg.1))
      rw [HL.out]
      go_wp2_with fail
      go_ret
      exact ⟨rfl, HA.out⟩
end Go.Proofs.YtnofgffkfapodaaDoor
namespace Go.Proofs.YtnofgffkfapodaaDoor
set_option linter.unusedVariables false
open Go.ChangeShapes Go.WideShapes Go.ChangeAt Go.RowKit

theorem info_n8 : (Tryd.prog.info? 67).map (fun i => (i.zero, i.size, i.bytes)) = some (some (.agg #[.int .i64 0, .int .i64 0, .int .i64 0]), 3, 24) := by kernel_rfl
theorem info_b1 : (Tryd.prog.info? 4).map (fun i => (i.zero, i.size, i.bytes)) = some (some (.bool false), 1, 1) := by kernel_rfl
theorem eltN8 : Ap.Elt Tryd.prog 30 67 3 24 :=
  ⟨Tryd.underlying30, by obtain ⟨i, h1, h2, h3, h4⟩ := info_parts info_n8; exact ⟨i, _, h1, h2, h3, h4, rfl⟩, by decide⟩
theorem eltB1 : Ap.Elt Tryd.prog 31 4 1 1 :=
  ⟨Tryd.underlying31, by obtain ⟨i, h1, h2, h3, h4⟩ := info_parts info_b1; exact ⟨i, _, h1, h2, h3, h4, rfl⟩, by decide⟩
theorem own_keep {W W' : World} {B : Nat} {e : TypeId} {size n : Nat} {v : Value} {xs : List Value} (h : W.ownsRow B e size v n xs) (hk : ∀ g, v.ownBlock = some g → g < W.heap.size → W'.heap[g]? = W.heap[g]?) : W'.ownsRow B e size v n xs := by
  refine ⟨h.1, ?_⟩
  rcases h.2 with hn | ⟨g, cap, cur, hv, hB, hg, rest⟩
  · exact .inl hn
  · refine .inr ⟨g, cap, cur, hv, hB, ?_, rest⟩
    rw [hk g (by rw [hv]; rfl) (Array.getElem?_eq_some_iff.1 hg).1]
    exact hg
/-- one element more -/
theorem app_one {P : Program} {T e : TypeId} {size bytes : Nat} (E : Ap.Elt P T e size bytes) (ty : TypeId) {w : World} {B : Nat} {v : Value} {n : Nat} {xs : List Value} (hown : w.ownsRow B e size v n xs) (news : List Value) (hl : news.length = size) (h1 : ∀ u ∈ news, u.oneCell' = true)
    (h63 : n + 1 ≤ 1000) (hby : bytes ≤ 1000) (hB : B ≤ w.heap.size) :
    ∃ v' w', (Builtin.append_ #[T, T] ty #[v, .slice (some ⟨w.heap.size, 0, none⟩) 1 1]).run P (w.alloc (.cells news.toArray e)) = .ok v' w' ∧ w'.ownsRow B e size v' (n + 1) (xs ++ news) ∧
      (∀ k, k < w.heap.size → v.ownBlock ≠ some k → w'.heap[k]? = w.heap[k]?) ∧ w.heap.size ≤ w'.heap.size ∧ (∀ g, v'.ownBlock = some g → v.ownBlock = some g ∨ w.heap.size ≤ g) ∧ Below B w w' := by
  obtain ⟨i, z, hi, hz0, hz1, hz2, hz3⟩ := E.info
  have hA := below_alloc (Below.refl _ w) (.cells news.toArray e)
  have hq := World.alloc_heap_new w (.cells news.toArray e)
  have hown2 : (w.alloc (.cells news.toArray e)).ownsRow B e size v n xs := own_keep hown fun g _ hg => hA.block g hg
  have hplain : ∀ j, (⟨w.heap.size, 0, none⟩ : Addr).add j = ⟨w.heap.size, j, none⟩ := fun j => by unfold Addr.add; split <;> simp_all
  obtain ⟨v', w', g0, g1, g2, _, g4⟩ := run_append_own_at (P := P) (w.alloc (.cells news.toArray e)) B T ty e i z size bytes E.ul hi hz0 hz1 hz2 hz3 E.pos v n xs hown2 ⟨w.heap.size, 0, none⟩ 1 1 news (by rw [hl, Nat.one_mul])
    (fun j u hj => by rw [hplain]; exact cell_of_block hq (by simpa using hj)) h1 (by unfold maxLen; omega) (by
      have : (n + 1) * bytes ≤ 1000 * 1000 := Nat.mul_le_mul h63 hby
      omega) (Nat.le_trans hB hA.size)
  refine ⟨v', w', g0, g1, fun k hk hne => (g2.block k (Nat.lt_of_lt_of_le hk hA.size) (fun e => hne e.symm)).trans (hA.block k hk), Nat.le_trans hA.size g2.size, fun g hg => ?_, ?_⟩
  · rcases g4 with g4 | g4
    · exact .inl (g4 ▸ hg)
    · rw [g4] at hg
      injection hg with hg
      refine .inr ?_
      rw [← hg]
      exact hA.size
  · exact Below.grown (hA.mono hB) g2 (Nat.le_trans hB hA.size) (Ap.own_blk hown2)
theorem flatN_snoc : ∀ (l : List N3) (x : N3), flatN (l ++ [x]) = flatN l ++ [.int .i64 x.1, .int .i64 x.2.1, .int .i64 x.2.2]
  | [], x => rfl
  | y :: l, x => by rw [List.cons_append, flatN, flatN_snoc l x, flatN]; rfl
/-- the fleet's block under way, its rows -/
structure NewAt (w W : World) (Q : Nat) (S D P : Int) (sp : Nat → Bool) (kL kP : Nat) (vL vP : Value) : Prop where
  blk : W.heap[Q]? = some (.cells #[vL, vP, .int .i64 S, .int .i64 D, .int .i64 P, .int .i64 0] 34 (0, 0))
  L : W.ownsRow (Q + 1) 67 3 vL kL (flatN (List.replicate kL (0, 0, 0)))
  R : W.ownsRow (Q + 1) 4 1 vP kP ((List.range kP).map fun i => .bool (sp i))
  ap : ∀ g, vL.ownBlock = some g → vP.ownBlock ≠ some g
  bel : Below w.heap.size w W
  q : w.heap.size ≤ Q
theorem NewAt.stepL {w W : World} {Q : Nat} {S D P : Int} {sp : Nat → Bool} {kL kP : Nat} {vL vP : Value} (h : NewAt w W Q S D P sp kL kP vL vP) (hk : kL < 64) (ty : TypeId) :
    ∃ a c Wb, (Builtin.append_ #[30, 30] ty #[vL, .slice (some ⟨W.heap.size, 0, none⟩) 1 1]).run Tryd.prog (W.alloc (.cells #[.int .i64 0, .int .i64 0, .int .i64 0] 67)) = .ok (.slice a (kL + 1) c) Wb ∧
      Wb.heap[Q]? = some (.cells #[vL, vP, .int .i64 S, .int .i64 D, .int .i64 P, .int .i64 0] 34 (0, 0)) ∧ NewAt w (Wb.setCell ⟨Q, 0, none⟩ (.slice a (kL + 1) c)) Q S D P sp (kL + 1) kP (.slice a (kL + 1) c) vP := by
  have hQ := (Array.getElem?_eq_some_iff.1 h.blk).1
  obtain ⟨v', Wb, g0, g1, g2, g3, g4, g5⟩ := app_one eltN8 ty h.L [.int .i64 0, .int .i64 0, .int .i64 0] rfl (by decide) (by omega) (by decide) hQ
  have hform : ∃ a c, v' = .slice a (kL + 1) c := by
    rcases g1.2 with ⟨_, h0⟩ | ⟨g, cap, cur, hv, _⟩
    · omega
    · exact ⟨_, _, hv⟩
  obtain ⟨a, c, rfl⟩ := hform
  have hbQ : Wb.heap[Q]? = W.heap[Q]? := g5.block Q (by omega)
  have hb := hbQ.trans h.blk
  have hw := (wrote_refl hb).set 0 (.slice a (kL + 1) c)
  have hL := Ap.own_blk g1
  have hP := Ap.own_blk h.R
  have hPl := Ap.own_lt h.R
  refine ⟨a, c, Wb, g0, hb, ⟨hw.there, ?_, ?_, fun g hg hg2 => ?_, hw.below (h.bel.trans (g5.mono (by have := h.q; omega))) h.q, h.q⟩⟩
  · have e : flatN (List.replicate (kL + 1) (0, 0, 0)) = flatN (List.replicate kL (0, 0, 0)) ++ [.int .i64 0, .int .i64 0, .int .i64 0] := by
      rw [List.replicate_succ', flatN_snoc]
    rw [e]
    exact own_keep g1 fun g hg _ => hw.rest g (by have := hL g hg; omega)
  · refine own_keep h.R fun g hg hgl => (hw.rest g (by have := hP g hg; omega)).trans (g2 g hgl fun e => h.ap g e hg)
  · rcases g4 g hg with h1 | h1
    · exact h.ap g h1 hg2
    · have := hPl g hg2; omega
theorem NewAt.stepP {w W : World} {Q : Nat} {S D P : Int} {sp : Nat → Bool} {kL kP : Nat} {vL vP : Value} (h : NewAt w W Q S D P sp kL kP vL vP) (hk : kP < 64) (ty : TypeId) (b : Bool) (hb : b = sp kP) :
    ∃ a c Wb, (Builtin.append_ #[31, 31] ty #[vP, .slice (some ⟨W.heap.size, 0, none⟩) 1 1]).run Tryd.prog (W.alloc (.cells #[.bool b] 4)) = .ok (.slice a (kP + 1) c) Wb ∧
      Wb.heap[Q]? = some (.cells #[vL, vP, .int .i64 S, .int .i64 D, .int .i64 P, .int .i64 0] 34 (0, 0)) ∧ NewAt w (Wb.setCell ⟨Q, 1, none⟩ (.slice a (kP + 1) c)) Q S D P sp kL (kP + 1) vL (.slice a (kP + 1) c) := by
  have hQ := (Array.getElem?_eq_some_iff.1 h.blk).1
  obtain ⟨v', Wb, g0, g1, g2, g3, g4, g5⟩ := app_one eltB1 ty h.R [.bool b] rfl (by intro u hu; simp at hu; subst hu; rfl) (by omega) (by decide) hQ
  have hform : ∃ a c, v' = .slice a (kP + 1) c := by
    rcases g1.2 with ⟨_, h0⟩ | ⟨g, cap, cur, hv, _⟩
    · omega
    · exact ⟨_, _, hv⟩
  obtain ⟨a, c, rfl⟩ := hform
  have hbQ : Wb.heap[Q]? = W.heap[Q]? := g5.block Q (by omega)
  have hbl := hbQ.trans h.blk
  have hw := (wrote_refl hbl).set 1 (.slice a (kP + 1) c)
  have hL := Ap.own_blk h.L
  have hLl := Ap.own_lt h.L
  have hP := Ap.own_blk g1
  refine ⟨a, c, Wb, g0, hbl, ⟨hw.there, ?_, ?_, fun g hg hg2 => ?_, hw.below (h.bel.trans (g5.mono (by have := h.q; omega))) h.q, h.q⟩⟩
  · exact own_keep h.L fun g hg hgl => (hw.rest g (by have := hL g hg; omega)).trans (g2 g hgl fun e => h.ap g hg e)
  · rw [List.range_succ, List.map_append, List.map_singleton, ← hb]
    exact own_keep g1 fun g hg _ => hw.rest g (by have := hP g hg; omega)
  · rcases g4 g hg2 with h1 | h1
    · exact h.ap g hg h1
    · have := hLl g hg; omega
end Go.Proofs.YtnofgffkfapodaaDoor
namespace Go.Proofs.YtnofgffkfapodaaDoor
set_option linter.unusedVariables false
open Go.ChangeShapes Go.WideShapes Go.ChangeAt Go.RowKit
attribute [local go_sem ↓] Go.wp_at_zero Go.wp_at_succ comesTo_value_eq comesTo_skip_eq comesTo_enter_eq

def ZF9 : Array Value := #[.slice none 0 0, .slice none 0 0, .int .i64 0, .int .i64 0, .int .i64 0, .int .i64 0]
def New9End (w : World) (n s S D P : Int) (e : Ending) (w' : World) : Prop :=
  (newOk n s S D P = false ∧ e = .returned (.tuple #[.agg ZF9, .int .i64 2]) ∧ Below w.heap.size w w') ∨
  (newOk n s S D P = true ∧ ∃ L cL Q cP, e = .returned (.tuple #[.agg (rf9C (newF n s S D P) (newF n s S D P).ns.length L 0 cL Q 0 cP), .int .i64 0]) ∧ RF9 w' L 0 Q 0 (newF n s S D P) ∧ (newF n s S D P).ns.length ≤ cL ∧ (newF n s S D P).ns.length ≤ cP ∧ w.heap.size ≤ L ∧ w.heap.size ≤ Q ∧ Below w.heap.size w w')
theorem own_form {W : World} {B : Nat} {e : TypeId} {size n : Nat} {v : Value} {xs : List Value} (h : W.ownsRow B e size v n xs) : ∃ a c, v = .slice a n c := by
  rcases h.2 with ⟨rfl, rfl⟩ | ⟨g, cap, cur, rfl, _⟩
  · exact ⟨_, _, rfl⟩
  · exact ⟨_, _, rfl⟩
theorem own_cells {W : World} {B : Nat} {e : TypeId} {size n : Nat} {v : Value} {xs : List Value} (h : W.ownsRow B e size v n xs) (h0 : 0 < n) : ∃ g c, v = .slice (some ⟨g, 0, none⟩) n c ∧ B ≤ g ∧ n ≤ c ∧ ∀ j u, xs[j]? = some u → W.cell? ⟨g, j, none⟩ = some u := by
  rcases h.2 with ⟨_, h1⟩ | ⟨g, cap, cur, hv, hB, hg, hc, _, hcs, ht⟩
  · omega
  · refine ⟨g, cap, hv, hB, hc, fun j u hj => ?_⟩
    have hjl : j < n * size := by
      rw [← h.1]
      rcases Nat.lt_or_ge j xs.length with h1 | h1
      · exact h1
      · rw [List.getElem?_eq_none h1] at hj; cases hj
    refine cell_of_block hg ?_
    rw [← ht, List.getElem?_take, if_pos hjl] at hj
    simpa using hj
theorem RF9.wrote {w w' : World} {L oL P oP B : Nat} {T : TypeId} {cs : Array Value} {f : FV} (h : RF9 w L oL P oP f) (hw : WroteTo B T cs w w') (hL : L ≠ B) (hP : P ≠ B) : RF9 w' L oL P oP f := by
  have e1 : ∀ o, w'.cell? ⟨L, o, none⟩ = w.cell? ⟨L, o, none⟩ := fun o => World.cell?_of_block (hw.rest L hL)
  have e2 : ∀ o, w'.cell? ⟨P, o, none⟩ = w.cell? ⟨P, o, none⟩ := fun o => World.cell?_of_block (hw.rest P hP)
  exact ⟨h.len, fun k hk => by rw [e1, e1, e1]; exact h.nd k hk, fun k hk => by rw [e2]; exact h.sp k hk⟩
theorem newF_sp (n s : Nat) (S D P : Int) (hn : n ≤ 64) (hs : s < n) (i : Nat) (hi : i < n) : (newF n s S D P).sp.getLsbD i = decide ((n : Int) - (s : Int) ≤ (i : Int)) := by
  have hi6 : i < 64 := by omega
  show (firstI (n : Int) &&& ~~~ firstI ((n : Int) - (s : Int))).getLsbD i = _
  rw [get_diff _ _ _ hi6, firstI_get _ _ hi6, firstI_get _ _ hi6, decide_eq_true (by omega), Bool.true_and]
  by_cases h : (n : Int) - (s : Int) ≤ (i : Int)
  · rw [decide_eq_true h, decide_eq_false (by omega)]; rfl
  · rw [decide_eq_false h, decide_eq_true (by omega)]; rfl
theorem new9no_1 (n s S D P : Int) (w : World) (h : ¬ (1 ≤ n ∧ n ≤ 64 ∧ 0 ≤ s ∧ s < n)) : Calls Tryd.prog 9 #[.int .i64 n, .int .i64 s, .agg #[.int .i64 S, .int .i64 D, .int .i64 P]] w fun e w' => e = .returned (.tuple #[.agg ZF9, .int .i64 2]) ∧ Below w.heap.size w w' := by
  have b1 := below_alloc (Below.refl _ w) (.cells #[.int .i64 S, .int .i64 D, .int .i64 P] 32)
  have b2 := below_alloc (Below.refl _ (w.alloc (.cells #[.int .i64 S, .int .i64 D, .int .i64 P] 32))) (.cells #[.slice none 0 0, .slice none 0 0, .int .i64 0, .int .i64 0, .int .i64 0, .int .i64 0] 34)
  have HA := Lib.hid (below_next b1 b2)
  clear b1 b2
  by_cases h1 : n < 1
  · skip
    have d1 : decide (n < 1) = true := decide_eq_true h1
    clear h h1
    go_enter Tryd.func9, Tryd.ntmps9
    go_wp2_with fail
    exact bodyPost_ret (v := .tuple #[.agg ZF9, .int .i64 2]) (by unfold ZF9; simp [results, Tryd.results9, go_sem, *]; try go_simp) rfl ⟨rfl, HA.out⟩
  have d1 : decide (n < 1) = false := decide_eq_false h1
  by_cases h2 : n > 64
  · skip
    have d2 : decide (n > 64) = true := decide_eq_true h2
    have d3 : decide (64 < n) = true := decide_eq_true h2
    clear h h1 h2
    go_enter Tryd.func9, Tryd.ntmps9
    go_wp2_with fail
    exact bodyPost_ret (v := .tuple #[.agg ZF9, .int .i64 2]) (by unfold ZF9; simp [results, Tryd.results9, go_sem, *]; try go_simp) rfl ⟨rfl, HA.out⟩
  have d2 : decide (n > 64) = false := decide_eq_false h2
  have d3 : decide (64 < n) = false := decide_eq_false h2
  by_cases h3 : s < 0
  · skip
    have d4 : decide (s < 0) = true := decide_eq_true h3
    clear h h1 h2 h3
    go_enter Tryd.func9, Tryd.ntmps9
    go_wp2_with fail
    exact bodyPost_ret (v := .tuple #[.agg ZF9, .int .i64 2]) (by unfold ZF9; simp [results, Tryd.results9, go_sem, *]; try go_simp) rfl ⟨rfl, HA.out⟩
  have d4 : decide (s < 0) = false := decide_eq_false h3
  have h4 : s ≥ n := by omega
  have d5 : decide (s ≥ n) = true := decide_eq_true h4
  have d6 : decide (n ≤ s) = true := decide_eq_true h4
  clear h h1 h2 h3 h4
  go_enter Tryd.func9, Tryd.ntmps9
  go_wp2_with fail
  exact bodyPost_ret (v := .tuple #[.agg ZF9, .int .i64 2]) (by unfold ZF9; simp [results, Tryd.results9, go_sem, *]; try go_simp) rfl ⟨rfl, HA.out⟩
set_option maxRecDepth 100000 in
set_option maxHeartbeats 8000000 in
theorem new9_any (n s S D P : Int) (w : World) : Calls Tryd.prog 9 #[.int .i64 n, .int .i64 s, .agg #[.int .i64 S, .int .i64 D, .int .i64 P]] w fun e w' => New9End w n s S D P e w' := by
  by_cases h : 1 ≤ n ∧ n ≤ 64 ∧ 0 ≤ s ∧ s < n
  case neg => exact (new9no_1 n s S D P w h).mono fun e w' hx => .inl ⟨by unfold newOk; rw [decide_eq_false h]; rfl, hx⟩
  obtain ⟨n0, n1, s0, s1⟩ := h
  obtain ⟨nn, rfl⟩ : ∃ nn : Nat, n = (nn : Int) := ⟨n.toNat, by omega⟩
  obtain ⟨ss, rfl⟩ : ∃ ss : Nat, s = (ss : Int) := ⟨s.toNat, by omega⟩
  have d1 : decide ((nn : Int) < 1) = false := decide_eq_false (by omega)
  have d2 : decide ((nn : Int) > 64) = false := decide_eq_false (by omega)
  have d3 : decide (64 < (nn : Int)) = false := decide_eq_false (by omega)
  have d4 : decide ((ss : Int) < 0) = false := decide_eq_false (by omega)
  have d5 : decide ((ss : Int) ≥ (nn : Int)) = false := decide_eq_false (by omega)
  have d6 : decide ((nn : Int) ≤ (ss : Int)) = false := decide_eq_false (by omega)
  have d7 : decide (nn ≤ ss) = false := decide_eq_false (by omega)
  have d8 : decide (ss ≥ nn) = false := decide_eq_false (by omega)
  have d9 : decide (nn > 64) = false := decide_eq_false (by omega)
  have d10 : decide (64 < nn) = false := decide_eq_false (by omega)
  have d11 : decide (nn < 1) = false := decide_eq_false (by omega)
  have HOK := Lib.hid (show newOk nn ss S D P = rightR S D P by unfold newOk; rw [decide_eq_true ⟨n0, n1, s0, s1⟩]; rfl)
  have HNN := Lib.hid (show 1 ≤ nn ∧ nn ≤ 64 ∧ ss < nn by omega)
  have hno : newOk nn ss S D P = false → ∀ e w', e = .returned (.tuple #[.agg ZF9, .int .i64 2]) → Below w.heap.size w w' → New9End w nn ss S D P e w' := fun hh e w' he hb => .inl ⟨hh, he, hb⟩
  have hyes : newOk nn ss S D P = true → ∀ e w' L cL Q cP, e = .returned (.tuple #[.agg (rf9C (newF nn ss S D P) (newF nn ss S D P).ns.length L 0 cL Q 0 cP), .int .i64 0]) → RF9 w' L 0 Q 0 (newF nn ss S D P) → (newF nn ss S D P).ns.length ≤ cL → (newF nn ss S D P).ns.length ≤ cP → w.heap.size ≤ L → w.heap.size ≤ Q → Below w.heap.size w w' → New9End w nn ss S D P e w' := fun hh e w' L cL Q cP he h1 h2 h3 h4 h5 hb => .inr ⟨hh, L, cL, Q, cP, he, h1, h2, h3, h4, h5, hb⟩
  have HNO := Lib.hid hno
  have HYES := Lib.hid hyes
  clear hno hyes
  have KR := Lib.hid (fun W => rr8_any S D P W)
  have b1 := below_alloc (Below.refl _ w) (.cells #[.int .i64 S, .int .i64 D, .int .i64 P] 32)
  have b2 := below_alloc (Below.refl _ (w.alloc (.cells #[.int .i64 S, .int .i64 D, .int .i64 P] 32))) (.cells #[.slice none 0 0, .slice none 0 0, .int .i64 0, .int .i64 0, .int .i64 0, .int .i64 0] 34)
  have q1 := (b2.block _ (by simp)).trans (World.alloc_heap_new w (.cells #[.int .i64 S, .int .i64 D, .int .i64 P] 32))
  have q2 := World.alloc_heap_new (w.alloc (.cells #[.int .i64 S, .int .i64 D, .int .i64 P] 32)) (.cells #[.slice none 0 0, .slice none 0 0, .int .i64 0, .int .i64 0, .int .i64 0, .int .i64 0] 34)
  rw [World.size_alloc] at q2
  have Q1 := Lib.hid q1
  have Q2 := Lib.hid q2
  have HA := Lib.hid (below_next b1 b2)
  clear n0 n1 s0 s1 b1 b2 q1 q2
  generalize hE : New9End w nn ss S D P = E at *
  clear hE
  go_enter Tryd.func9, Tryd.ntmps9
  go_upto_region 1 with fail
  generalize (w.alloc (.cells #[.int .i64 S, .int .i64 D, .int .i64 P] 32)).alloc (.cells #[.slice none 0 0, .slice none 0 0, .int .i64 0, .int .i64 0, .int .i64 0, .int .i64 0] 34) = W0 at *
  have r0 := cell_of_block (o := 0) Q1.out rfl
  have r1 := cell_of_block (o := 1) Q1.out rfl
  have r2 := cell_of_block (o := 2) Q1.out rfl
  go_wp2_with fail
  refine (KR.out _).mono ?_
  rintro e W1 ⟨rfl, hb⟩
  have HB1 := Lib.hid (below_next HA.out hb)
  have P1 := Lib.hid ((hb.block _ (Array.getElem?_eq_some_iff.1 Q1.out).1).trans Q1.out)
  have P2 := Lib.hid ((hb.block _ (Array.getElem?_eq_some_iff.1 Q2.out).1).trans Q2.out)
  clear hb r0 r1 r2 Q1 Q2 KR
  have r0 := cell_of_block (o := 0) P1.out rfl
  have r1 := cell_of_block (o := 1) P1.out rfl
  have r2 := cell_of_block (o := 2) P1.out rfl
  generalize hrr : rightR S D P = rr at *
  cases rr with
  | false =>
    have HOK2 := Lib.hid (HOK.out)
    clear HOK
    clear HYES
    go_upto_region 2 with fail
    refine wp_region_lit ?_
    refine wpList_yield (w' := W1) (v := .agg ZF9) rfl (by unfold ZF9; go_simp) ?_
    refine wpList_store_all rfl 34 _ _ rfl (w.heap.size + 1) (T := 34) ZF9.toList (by go_simp) (by go_simp) P2.out rfl (by kernel_rfl) (by decide) ?_
    intro w8 hw8
    have HW8 := Lib.hid hw8.there
    have HB8 := Lib.hid (hw8.below HB1.out (by omega))
    clear hw8
    go_wp2_with fail
    exact bodyPost_ret (results_all2 ZF9.toList _ Tryd.results9 (by go_simp) HW8.out Tryd.underlying34 rfl (by kernel_rfl)) rfl (HNO.out HOK2.out _ _ rfl HB8.out)
  | true =>
    have HOK2 := Lib.hid (HOK.out)
    have HRR := Lib.hid hrr
    clear HOK HNO hrr
    have q := World.alloc_heap_new W1 (.cells #[.slice none 0 0, .slice none 0 0, .int .i64 S, .int .i64 D, .int .i64 P, .int .i64 0] 34)
    have bq := below_alloc (Below.refl _ W1) (.cells #[.slice none 0 0, .slice none 0 0, .int .i64 S, .int .i64 D, .int .i64 P, .int .i64 0] 34)
    have HN0 := Lib.hid (show NewAt W1 (W1.alloc (.cells #[.slice none 0 0, .slice none 0 0, .int .i64 S, .int .i64 D, .int .i64 P, .int .i64 0] 34)) W1.heap.size S D P (fun i => decide ((nn : Int) - (ss : Int) ≤ (i : Int))) 0 0 (.slice none 0 0) (.slice none 0 0) from
      ⟨q, World.ownsRow_nil _ _ _ _, World.ownsRow_nil _ _ _ _, (fun g hg => by cases hg), bq, Nat.le_refl _⟩)
    clear q bq
    go_upto_region 4 with fail
    generalize W1.alloc (.cells #[.slice none 0 0, .slice none 0 0, .int .i64 S, .int .i64 D, .int .i64 P, .int .i64 0] 34) = W2 at *
    obtain ⟨Q, hQ⟩ : ∃ Q, Q = W1.heap.size := ⟨_, rfl⟩
    rw [← hQ] at HN0
    rw [← hQ]
    have HQ := Lib.hid hQ
    clear hQ r0 r1 r2
    go_wp2_with fail
    go_loopw [9] (fun i wr => ∃ (k : Nat) (vL vP : Value), k ≤ nn ∧ i = .int .i64 k ∧ NewAt W1 wr Q S D P (fun i => decide ((nn : Int) - (ss : Int) ≤ (i : Int))) k k vL vP) (fun i _ => nn - (intOf i).toNat)
    case atStart => exact ⟨0, _, _, Nat.zero_le _, rfl, HN0.out⟩
    case round =>
      obtain ⟨k, vL, vP, hk, rfl, hat⟩ := hrel
      by_cases hlt : k < nn
      · have hd : decide (k < nn) = true := decide_eq_true hlt
        have hd2 : decide ((k : Int) < (nn : Int)) = true := decide_eq_true (by omega)
        have hw1 : IntKind.i64.wrap ((k : Int) + 1) = (k : Int) + 1 := by have := HNN.out; rw [IntKind.wrap_i64]; omega
        have hws : IntKind.i64.wrap ((nn : Int) - (ss : Int)) = (nn : Int) - (ss : Int) := by have := HNN.out; rw [IntKind.wrap_i64]; omega
        obtain ⟨aL, cL, rfl⟩ := own_form hat.L
        obtain ⟨aP, cP, rfl⟩ := own_form hat.R
        have hk64 : k < 64 := by have := HNN.out; omega
        have HAT := Lib.hid hat
        have hqlt := (Array.getElem?_eq_some_iff.1 hat.blk).1
        have b0 := cell_of_block (o := 0) hat.blk rfl
        have HK64 := Lib.hid hk64
        clear hat hk64
        go_upto_region 7 with fail
        refine wp_region_lit ?_
        refine wpList_yield (w' := wr) (v := .pointer (some ⟨Q, 0, none⟩)) rfl (by go_simp) ?_
        refine wpList_yield (w' := wr) (v := .slice aL k cL) rfl (by go_simp) ?_
        refine wpList_yield (w' := wr) (v := .agg #[.int .i64 0, .int .i64 0, .int .i64 0]) rfl (by go_simp) ?_
        refine wpList_yield (w' := wr.alloc (.cells #[.int .i64 0, .int .i64 0, .int .i64 0] 67)) (v := .slice (some ⟨wr.heap.size, 0, none⟩) 1 1) rfl (by go_simp) ?_
        obtain ⟨a2, c2, Wb, g0, g1, g2⟩ := HAT.out.stepL HK64.out 30
        refine wpList_yield (w' := Wb) (v := .slice a2 (k + 1) c2) rfl (Ap.exec_app rfl (by go_simp) (by go_simp) g0) ?_
        have HG := Lib.hid g2
        have e0 := cell_of_block (o := 0) g1 rfl
        have f0 := free_of_block 0 g1
        clear g0 g1 g2 b0 hqlt
        go_upto_region 8 with fail
        clear e0 f0
        generalize Wb.setCell ⟨Q, 0, none⟩ (.slice a2 (k + 1) c2) = Wc at *
        have b1 := cell_of_block (o := 1) HG.out.blk rfl
        obtain ⟨bb, hbb⟩ : ∃ bb, bb = decide ((nn : Int) - (ss : Int) ≤ (k : Int)) := ⟨_, rfl⟩
        have hg1 : decide ((nn : Int) - (ss : Int) ≤ (k : Int)) = bb := hbb.symm
        have hg2 : decide ((k : Int) ≥ (nn : Int) - (ss : Int)) = bb := hbb.symm
        have HBB := Lib.hid hbb
        clear hbb
        refine wp_region_lit ?_
        refine wpList_yield (w' := Wc) (v := .pointer (some ⟨Q, 1, none⟩)) rfl (by go_simp) ?_
        refine wpList_yield (w' := Wc) (v := .slice aP k cP) rfl (by go_simp) ?_
        refine wpList_yield (w' := Wc) (v := .int .i64 k) rfl (by go_simp) ?_
        refine wpList_yield (w' := Wc) (v := .int .i64 nn) rfl (by go_simp) ?_
        refine wpList_yield (w' := Wc) (v := .int .i64 ss) rfl (by go_simp) ?_
        refine wpList_yield (w' := Wc) (v := .int .i64 ((nn : Int) - (ss : Int))) rfl (by go_simp) ?_
        refine wpList_yield (w' := Wc) (v := .bool bb) rfl (by go_simp) ?_
        refine wpList_yield (w' := Wc.alloc (.cells #[.bool bb] 4)) (v := .slice (some ⟨Wc.heap.size, 0, none⟩) 1 1) rfl (by go_simp) ?_
        obtain ⟨a3, c3, Wd, g0, g1, g2⟩ := HG.out.stepP HK64.out 31 bb HBB.out
        refine wpList_yield (w' := Wd) (v := .slice a3 (k + 1) c3) rfl (Ap.exec_app rfl (by go_simp) (by go_simp) g0) ?_
        have HG3 := Lib.hid g2
        have e1 := cell_of_block (o := 1) g1 rfl
        have f1 := free_of_block 1 g1
        clear g0 g1 g2 b1 hg1 hg2
        go_wp2_with fail
        clear e1 f1
        go_roundw
        case rel => exact ⟨k + 1, _, _, by omega, by go_num, HG3.out⟩
        case measure => simp [intOf]; omega
      · obtain rfl : k = nn := by omega
        have hd : decide (k < k) = false := decide_eq_false (by omega)
        have hd2 : decide ((k : Int) < (k : Int)) = false := decide_eq_false (by omega)
        have HRES := Lib.hid ((hat.bel.block _ (Array.getElem?_eq_some_iff.1 P2.out).1).trans P2.out)
        obtain ⟨gL, cL, rfl, hgL, hcL, hLc⟩ := own_cells hat.L (by have := HNN.out; omega)
        obtain ⟨gP, cP, rfl, hgP, hcP, hPc⟩ := own_cells hat.R (by have := HNN.out; omega)
        have HBL := Lib.hid hat.blk
        have HBE := Lib.hid (below_next HB1.out hat.bel)
        have hsz := Nat.le_trans HA.out.size (Nat.le_trans (Nat.le_refl _) (Nat.le_of_eq rfl))
        have HRF := Lib.hid (show RF9 wr gL 0 gP 0 (newF k ss S D P) from by
          have hl : (newF k ss S D P).ns = List.replicate k (0, 0, 0) := by unfold newF; simp
          have hln : (newF k ss S D P).ns.length = k := by rw [hl, List.length_replicate]
          refine ⟨by rw [hln]; have := HNN.out; omega, fun j hj => ?_, fun j hj => ?_⟩
          · rw [hln] at hj
            rw [hl, Nat.zero_add]
            have hjr : j < (List.replicate k ((0, 0, 0) : N3)).length := by simpa using hj
            exact ⟨hLc _ _ (flatN_get0 _ _ hjr), hLc _ _ (flatN_get1 _ _ hjr), hLc _ _ (flatN_get2 _ _ hjr)⟩
          · rw [hln] at hj
            rw [Nat.zero_add, newF_sp k ss S D P (by have := HNN.out; omega) (by have := HNN.out; omega) j hj]
            exact hPc j _ (by rw [List.getElem?_map, List.getElem?_range hj]; rfl))
        have hln : (newF k ss S D P).ns.length = k := by unfold newF; simp
        have HVAL := Lib.hid (show rf9C (newF k ss S D P) (newF k ss S D P).ns.length gL 0 cL gP 0 cP = #[.slice (some ⟨gL, 0, none⟩) k cL, .slice (some ⟨gP, 0, none⟩) k cP, .int .i64 S, .int .i64 D, .int .i64 P, .int .i64 0] from by rw [hln]; rfl)
        have HCL := Lib.hid (show (newF k ss S D P).ns.length ≤ cL ∧ (newF k ss S D P).ns.length ≤ cP by rw [hln]; exact ⟨hcL, hcP⟩)
        have HGB := Lib.hid (show w.heap.size ≤ gL ∧ w.heap.size ≤ gP by have := HB1.out.size; have := HQ.out; omega)
        have HGNE := Lib.hid (show gL ≠ w.heap.size + 1 ∧ gP ≠ w.heap.size + 1 by have := (Array.getElem?_eq_some_iff.1 P2.out).1; have := HQ.out; omega)
        clear hln hLc hPc hcL hcP hgL hgP hat hsz
        go_upto_region 9 with fail
        refine wp_region_lit ?_
        refine wpList_load_all rfl 34 _ rfl Q [.slice (some ⟨gL, 0, none⟩) k cL, .slice (some ⟨gP, 0, none⟩) k cP, .int .i64 S, .int .i64 D, .int .i64 P, .int .i64 0] _ (by go_simp) HBL.out Tryd.underlying34 rfl (by kernel_rfl) ?_
        refine wpList_store_all rfl 34 _ _ rfl (w.heap.size + 1) (T := 34) [.slice (some ⟨gL, 0, none⟩) k cL, .slice (some ⟨gP, 0, none⟩) k cP, .int .i64 S, .int .i64 D, .int .i64 P, .int .i64 0] (by go_simp) (by go_simp) HRES.out rfl (by kernel_rfl) rfl ?_
        intro w8 hw8
        have HW8 := Lib.hid hw8.there
        have HB8 := Lib.hid (hw8.below HBE.out (by omega))
        have HRF8 := Lib.hid (HRF.out.wrote hw8 HGNE.out.1 HGNE.out.2)
        go_wp2_with fail
        exact bodyPost_ret (results_all2 [.slice (some ⟨gL, 0, none⟩) k cL, .slice (some ⟨gP, 0, none⟩) k cP, .int .i64 S, .int .i64 D, .int .i64 P, .int .i64 0] _ Tryd.results9 (by go_simp) HW8.out Tryd.underlying34 rfl (by kernel_rfl)) rfl (HYES.out HOK2.out _ _ gL cL gP cP (by rw [HVAL.out]; rfl) HRF8.out HCL.out.1 HCL.out.2 HGB.out.1 HGB.out.2 HB8.out)
end Go.Proofs.YtnofgffkfapodaaDoor
namespace Go.Proofs.YtnofgffkfapodaaDoor
set_option linter.unusedVariables false
open Go.ChangeShapes Go.WideShapes Go.ChangeAt Go.RowKit

/-- append([]T{}, row...) -/
theorem copy_row {P : Program} {T e : TypeId} {size bytes : Nat} (E : Ap.Elt P T e size bytes) (ty : TypeId) {w : World} {g o m c : Nat} {news : List Value} (hl : news.length = m * size) (hc : ∀ j u, news[j]? = some u → w.cell? ⟨g, o + j, none⟩ = some u) (h1 : ∀ u ∈ news, u.oneCell' = true)
    (hm : m ≤ 1000) (hby : bytes ≤ 1000) (hg : g < w.heap.size) :
    ∃ v' w', (Builtin.append_ #[T, T] ty #[.slice (some ⟨w.heap.size, 0, none⟩) 0 0, .slice (some ⟨g, o, none⟩) m c]).run P (w.alloc (.cells #[] e)) = .ok v' w' ∧ w'.ownsRow w.heap.size e size v' m news ∧ Below w.heap.size w w' := by
  have hA := below_alloc (Below.refl _ w) (.cells #[] e)
  have hq := World.alloc_heap_new w (.cells #[] e)
  have hown : (w.alloc (.cells #[] e)).ownsRow w.heap.size e size (.slice (some ⟨w.heap.size, 0, none⟩) 0 0) 0 [] :=
    ⟨by simp, .inr ⟨w.heap.size, 0, #[], rfl, Nat.le_refl _, hq, Nat.le_refl _, Nat.zero_le _, by simp, by simp⟩⟩
  have hplain : ∀ j, (⟨g, o, none⟩ : Addr).add j = ⟨g, o + j, none⟩ := fun j => by unfold Addr.add; split <;> simp_all
  have hr : Ap.RdG (w.alloc (.cells #[] e)) size (.slice (some ⟨g, o, none⟩) m c) m news :=
    ⟨⟨some ⟨g, o, none⟩, c, rfl, (fun h => by cases h), (fun a ha j u hj => by
        injection ha with ha
        subst ha
        rw [hplain]
        exact (hA.cell (p := ⟨g, o + j, none⟩) (World.block_lt_of_cell? w _ (hc j u hj))).trans (hc j u hj)),
      (fun a ha _ => by injection ha with ha; subst ha; exact Nat.lt_of_lt_of_le hg hA.size)⟩, hl, h1⟩
  obtain ⟨v', w', g0, g1, g2, g3⟩ := Ap.run_app E ty w.heap.size _ 0 [] hown _ m news hr (by unfold maxLen; omega) (by
    have : (0 + m) * bytes ≤ 1000 * 1000 := Nat.mul_le_mul (by omega) hby
    omega) hA.size
  rw [Nat.zero_add, List.nil_append] at g1
  exact ⟨v', w', g0, g1, hA.trans g3⟩
/-- one cell of a row of one's own -/
theorem own_set {w : World} {B : Nat} {e : TypeId} {size n g c : Nat} {xs : List Value} (h : w.ownsRow B e size (.slice (some ⟨g, 0, none⟩) n c) n xs) (i : Nat) (hi : i < n * size) (u : Value) :
    (w.setCell ⟨g, i, none⟩ u).ownsRow B e size (.slice (some ⟨g, 0, none⟩) n c) n (xs.set i u) ∧ w.frozen? ⟨g, i, none⟩ = false ∧ (w.cell? ⟨g, i, none⟩).isSome = true ∧ (w.setCell ⟨g, i, none⟩ u).heap.size = w.heap.size ∧ ∀ k, k ≠ g → (w.setCell ⟨g, i, none⟩ u).heap[k]? = w.heap[k]? := by
  rcases h.2 with ⟨h1, _⟩ | ⟨g', cap, cur, hv, hB, hg, hc, hm, hcs, ht⟩
  · cases h1
  · simp only [Value.slice.injEq, Option.some.injEq, Addr.mk.injEq, and_true, true_and] at hv
    obtain ⟨rfl, rfl⟩ := hv
    have hw := (wrote_refl hg).set i u
    have hlt : i < cur.size := by
      rw [hcs]
      exact Nat.lt_of_lt_of_le hi (Nat.mul_le_mul_right _ hc)
    refine ⟨⟨by rw [List.length_set]; exact h.1, .inr ⟨g, c, cur.setIfInBounds i u, rfl, hB, hw.there, hc, hm, by rw [Array.size_setIfInBounds]; exact hcs, ?_⟩⟩, free_of_block i hg, ?_, hw.size, fun k hk => hw.rest k hk⟩
    · rw [Array.toList_setIfInBounds, List.take_set, ht]
    · rw [cell_of_block (o := i) hg (Array.getElem?_eq_getElem hlt)]; rfl
/-- the spares as a row -/
def spL (f : FV) : List Value := (List.range f.ns.length).map fun i => .bool (f.sp.getLsbD i)
theorem spL_len (f : FV) : (spL f).length = f.ns.length := by unfold spL; simp
theorem spL_get (f : FV) (k : Nat) (hk : k < f.ns.length) : (spL f)[k]? = some (.bool (f.sp.getLsbD k)) := by
  unfold spL
  rw [List.getElem?_map, List.getElem?_range hk]
  rfl
/-- a swap: two of the row's cells turn -/
theorem spL_swap {f : FV} (h : ¬ stopF f) (hlen : f.ns.length ≤ 64) {a b : Nat} (ha : lowI (goneF f) = (a : Int)) (hb : lowI (freeF f) = (b : Int)) : ((spL f).set a (.bool true)).set b (.bool false) = spL (swap1 f) := by
  obtain ⟨a', b', ea, eb, ha6, hb6, hne, hl, h1, h2, h3, h4, hg⟩ := swap1_get h
  obtain rfl : a = a' := by omega
  obtain rfl : b = b' := by omega
  refine List.ext_getElem? fun i => ?_
  by_cases hi : i < f.ns.length
  · have e2 : (spL (swap1 f))[i]? = some (.bool ((swap1 f).sp.getLsbD i)) := spL_get (swap1 f) i hi
    rw [e2, hg i (by omega)]
    by_cases hib : i = b
    · subst hib
      rw [List.getElem?_set_self (by simpa [spL_len] using hi)]
      have : ¬ i = a := fun e => hne e.symm
      simp [this]
    · rw [List.getElem?_set_ne (by omega)]
      by_cases hia : i = a
      · subst hia
        rw [List.getElem?_set_self (by simpa [spL_len] using hi)]
        simp
      · rw [List.getElem?_set_ne (by omega), spL_get f i hi]
        simp [hia, hib]
  · rw [List.getElem?_eq_none (by simp [spL_len]; omega), List.getElem?_eq_none (by rw [spL_len]; show f.ns.length ≤ i; omega)]
theorem low_neg (s : NSet) : lowI s < 0 ↔ s = 0#64 := by
  unfold lowI
  split
  · rename_i h; exact ⟨fun _ => h, fun _ => by omega⟩
  · rename_i h; exact ⟨fun h1 => by omega, fun h1 => absurd h1 h⟩
/-- the rows of a fleet of one's own are its rows -/
theorem RF9.of_own {w : World} {B gL cL gP cP : Nat} {f : FV} (hlen : 1 ≤ f.ns.length ∧ f.ns.length ≤ 64) (hL : w.ownsRow B 67 3 (.slice (some ⟨gL, 0, none⟩) f.ns.length cL) f.ns.length (flatN f.ns)) (hP : w.ownsRow B 4 1 (.slice (some ⟨gP, 0, none⟩) f.ns.length cP) f.ns.length (spL f)) : RF9 w gL 0 gP 0 f ∧ f.ns.length ≤ cL ∧ f.ns.length ≤ cP := by
  obtain ⟨g1, c1, e1, _, hc1, hx1⟩ := own_cells hL (by omega)
  obtain ⟨g2, c2, e2, _, hc2, hx2⟩ := own_cells hP (by omega)
  simp only [Value.slice.injEq, Option.some.injEq, Addr.mk.injEq, and_true, true_and] at e1 e2
  obtain ⟨rfl, rfl⟩ := e1
  obtain ⟨rfl, rfl⟩ := e2
  refine ⟨⟨hlen, fun k hk => ?_, fun k hk => ?_⟩, hc1, hc2⟩
  · rw [Nat.zero_add]
    exact ⟨hx1 _ _ (flatN_get0 _ _ hk), hx1 _ _ (flatN_get1 _ _ hk), hx1 _ _ (flatN_get2 _ _ hk)⟩
  · rw [Nat.zero_add]
    exact hx2 _ _ (spL_get f k hk)
end Go.Proofs.YtnofgffkfapodaaDoor
namespace Go.Proofs.YtnofgffkfapodaaDoor
set_option linter.unusedVariables false
open Go.ChangeShapes Go.WideShapes Go.ChangeAt Go.RowKit

def ZR9 : Array Value := #[.slice none 0 0, .slice none 0 0, .int .i64 0, .int .i64 0, .int .i64 0, .int .i64 0]
/-- Tell under way -/
structure Tl9 (w W : World) (f : FV) (gL cL gP cP : Nat) : Prop where
  blk : W.heap[w.heap.size]? = some (.cells (rf9C f f.ns.length gL 0 cL gP 0 cP) 34 (0, 0))
  L : W.ownsRow (w.heap.size + 2) 67 3 (.slice (some ⟨gL, 0, none⟩) f.ns.length cL) f.ns.length (flatN f.ns)
  R : W.ownsRow (w.heap.size + 2) 4 1 (.slice (some ⟨gP, 0, none⟩) f.ns.length cP) f.ns.length (spL f)
  ne : gL ≠ gP
  res : W.heap[w.heap.size + 1]? = some (.cells ZR9 34 (0, 0))
  bel : Below w.heap.size w W
  len : 1 ≤ f.ns.length ∧ f.ns.length ≤ 64
theorem Tl9.lo {w W : World} {f : FV} {gL cL gP cP : Nat} (h : Tl9 w W f gL cL gP cP) : w.heap.size + 2 ≤ gL ∧ w.heap.size + 2 ≤ gP := ⟨Ap.own_blk h.L gL rfl, Ap.own_blk h.R gP rfl⟩
theorem Tl9.below {w W W' : World} {f : FV} {gL cL gP cP : Nat} (h : Tl9 w W f gL cL gP cP) (hb : Below W.heap.size W W') : Tl9 w W' f gL cL gP cP :=
  ⟨(hb.block _ (Array.getElem?_eq_some_iff.1 h.blk).1).trans h.blk, own_keep h.L fun g _ hg => hb.block g hg, own_keep h.R fun g _ hg => hb.block g hg, h.ne, (hb.block _ (Array.getElem?_eq_some_iff.1 h.res).1).trans h.res, below_next h.bel hb, h.len⟩
theorem Tl9.rows {w W : World} {f : FV} {gL cL gP cP : Nat} (h : Tl9 w W f gL cL gP cP) : RF9 W gL 0 gP 0 f ∧ f.ns.length ≤ cL ∧ f.ns.length ≤ cP := RF9.of_own h.len h.L h.R
/-- a node of it is written -/
theorem Tl9.node {w W : World} {f : FV} {gL cL gP cP : Nat} (h : Tl9 w W f gL cL gP cP) {i : Nat} (hi : i < f.ns.length) (x : N3) :
    Tl9 w (((W.setCell ⟨gL, i * 3, none⟩ (.int .i64 x.1)).setCell ⟨gL, i * 3 + 1, none⟩ (.int .i64 x.2.1)).setCell ⟨gL, i * 3 + 2, none⟩ (.int .i64 x.2.2)) { f with ns := f.ns.set i x } gL cL gP cP := by
  obtain ⟨hl1, hl2⟩ := h.lo
  obtain ⟨o1, _, _, z1, k1⟩ := own_set h.L (i * 3) (by omega) (.int .i64 x.1)
  obtain ⟨o2, _, _, z2, k2⟩ := own_set o1 (i * 3 + 1) (by omega) (.int .i64 x.2.1)
  obtain ⟨o3, _, _, z3, k3⟩ := own_set o2 (i * 3 + 2) (by omega) (.int .i64 x.2.2)
  rw [flatN_set f.ns i x hi] at o3
  have hk : ∀ k, k ≠ gL → (((W.setCell ⟨gL, i * 3, none⟩ (.int .i64 x.1)).setCell ⟨gL, i * 3 + 1, none⟩ (.int .i64 x.2.1)).setCell ⟨gL, i * 3 + 2, none⟩ (.int .i64 x.2.2)).heap[k]? = W.heap[k]? := fun k hk => (k3 k hk).trans ((k2 k hk).trans (k1 k hk))
  have hlen : (f.ns.set i x).length = f.ns.length := List.length_set
  have hsp : spL { f with ns := f.ns.set i x } = spL f := by unfold spL; rw [hlen]
  obtain ⟨g, cap, cur, hv, _, hg, _⟩ : ∃ g cap cur, (Value.slice (some ⟨gL, 0, none⟩) f.ns.length cL) = .slice (some ⟨g, 0, none⟩) f.ns.length cap ∧ True ∧ W.heap[g]? = some (.cells cur 67 (0, 0)) ∧ True := by
    rcases h.L.2 with ⟨e, _⟩ | ⟨g, cap, cur, hv, _, hg, _⟩
    · cases e
    · exact ⟨g, cap, cur, hv, trivial, hg, trivial⟩
  simp only [Value.slice.injEq, Option.some.injEq, Addr.mk.injEq, and_true, true_and] at hv
  obtain ⟨rfl, rfl⟩ := hv
  have hw := (((wrote_refl hg).set (i * 3) (.int .i64 x.1)).set (i * 3 + 1) (.int .i64 x.2.1)).set (i * 3 + 2) (.int .i64 x.2.2)
  refine ⟨?_, ?_, ?_, h.ne, (hk _ (by omega)).trans h.res, hw.below h.bel (by omega), by show 1 ≤ (f.ns.set i x).length ∧ _; rw [hlen]; exact h.len⟩
  · refine (hk _ (by omega)).trans ?_
    show W.heap[w.heap.size]? = some (.cells #[.slice (some ⟨gL, 0, none⟩) (f.ns.set i x).length cL, .slice (some ⟨gP, 0, none⟩) (f.ns.set i x).length cP, .int .i64 f.S, .int .i64 f.D, .int .i64 f.P, .int .i64 f.sw] 34 (0, 0))
    rw [hlen]
    exact h.blk
  · show World.ownsRow _ _ _ _ (.slice _ (f.ns.set i x).length _) (f.ns.set i x).length (flatN (f.ns.set i x))
    rw [hlen]
    exact o3
  · show World.ownsRow _ _ _ _ (.slice _ (f.ns.set i x).length _) (f.ns.set i x).length (spL { f with ns := f.ns.set i x })
    rw [hlen, hsp]
    exact own_keep h.R fun g hg _ => hk g (by
      have : gP = g := by simpa [Value.ownBlock] using hg
      have := h.ne
      omega)
/-- a swap of it -/
theorem Tl9.swap {w W : World} {f : FV} {gL cL gP cP : Nat} (h : Tl9 w W f gL cL gP cP) (hs : ¬ stopF f) {a b : Nat} (ha : lowI (goneF f) = (a : Int)) (hb : lowI (freeF f) = (b : Int)) (hal : a < f.ns.length) (hbl : b < f.ns.length) (hsw : f.sw < 9223372036854775807) :
    Tl9 w (((W.setCell ⟨gP, a, none⟩ (.bool true)).setCell ⟨gP, b, none⟩ (.bool false)).setCell ⟨w.heap.size, 5, none⟩ (.int .i64 (f.sw + 1))) (swap1 f) gL cL gP cP := by
  obtain ⟨hl1, hl2⟩ := h.lo
  obtain ⟨o1, _, _, z1, k1⟩ := own_set h.R a (by omega) (.bool true)
  obtain ⟨o2, _, _, z2, k2⟩ := own_set o1 b (by omega) (.bool false)
  rw [spL_swap hs h.len.2 ha hb] at o2
  obtain ⟨g, cap, cur, hv, hg⟩ : ∃ g cap cur, (Value.slice (some ⟨gP, 0, none⟩) f.ns.length cP) = .slice (some ⟨g, 0, none⟩) f.ns.length cap ∧ W.heap[g]? = some (.cells cur 4 (0, 0)) := by
    rcases h.R.2 with ⟨e, _⟩ | ⟨g, cap, cur, hv, _, hg, _⟩
    · cases e
    · exact ⟨g, cap, cur, hv, hg⟩
  simp only [Value.slice.injEq, Option.some.injEq, Addr.mk.injEq, and_true, true_and] at hv
  obtain ⟨rfl, rfl⟩ := hv
  have hw := ((wrote_refl hg).set a (.bool true)).set b (.bool false)
  have hq := (hw.rest w.heap.size (by omega)).trans h.blk
  have hw2 := (wrote_refl hq).set 5 (.int .i64 (f.sw + 1))
  have hsw1 : (swap1 f).sw = f.sw + 1 := by
    show (if f.sw < 9223372036854775807 then f.sw + 1 else f.sw) = _
    rw [if_pos hsw]
  refine ⟨?_, ?_, ?_, h.ne, (hw2.rest _ (by omega)).trans ((hw.rest _ (by omega)).trans h.res), hw2.below (hw.below h.bel (by omega)) (Nat.le_refl _), h.len⟩
  · refine hw2.there.trans ?_
    show some (Obj.cells #[.slice (some ⟨gL, 0, none⟩) f.ns.length cL, .slice (some ⟨gP, 0, none⟩) f.ns.length cP, .int .i64 f.S, .int .i64 f.D, .int .i64 f.P, .int .i64 (f.sw + 1)] 34 (0, 0)) = some (Obj.cells #[.slice (some ⟨gL, 0, none⟩) f.ns.length cL, .slice (some ⟨gP, 0, none⟩) f.ns.length cP, .int .i64 f.S, .int .i64 f.D, .int .i64 f.P, .int .i64 (swap1 f).sw] 34 (0, 0))
    rw [hsw1]
  · exact own_keep h.L fun g hg _ => by
      have hgg : gL = g := by simpa [Value.ownBlock] using hg
      have := h.ne
      exact (hw2.rest g (by omega)).trans (hw.rest g (by omega))
  · exact own_keep o2 fun g hg _ => by
      have hgg : gP = g := by simpa [Value.ownBlock] using hg
      exact hw2.rest g (by omega)
end Go.Proofs.YtnofgffkfapodaaDoor
namespace Go.Proofs.YtnofgffkfapodaaDoor
set_option linter.unusedVariables false
open Go.ChangeShapes Go.WideShapes Go.ChangeAt Go.RowKit
attribute [local go_sem ↓] Go.wp_at_zero Go.wp_at_succ comesTo_value_eq comesTo_skip_eq comesTo_enter_eq

def Tell9End (w : World) (K : Nat → Prop) (f : FV) (code : Int) (e : Ending) (w' : World) : Prop :=
  ∃ L oL cL P oP cP, e = .returned (.tuple #[.agg (rf9C f f.ns.length L oL cL P oP cP), .int .i64 code]) ∧ RF9 w' L oL P oP f ∧ f.ns.length ≤ cL ∧ f.ns.length ≤ cP ∧ K L ∧ K P ∧ Below w.heap.size w w'
set_option maxRecDepth 100000 in
set_option maxHeartbeats 8000000 in
theorem tell9_no {w : World} {L oL cL P oP cP : Nat} {f : FV} (h : RF9 w L oL P oP f) (hcL : f.ns.length ≤ cL) (hcP : f.ns.length ≤ cP) {K : Nat → Prop} (hKL : K L) (hKP : K P) (n k code : Int) (hx : (¬ (0 ≤ n ∧ n < f.ns.length) ∧ code = 13) ∨ ((0 ≤ n ∧ n < f.ns.length) ∧ (k < 0 ∨ 4 < k) ∧ code = 2)) :
    Calls Tryd.prog 12 #[.agg (rf9C f f.ns.length L oL cL P oP cP), .int .i64 n, .int .i64 k] w fun e w' => Tell9End w K f code e w' := by
  obtain ⟨len, hlen⟩ : ∃ l, l = f.ns.length := ⟨_, rfl⟩
  have hfin : ∀ e w', e = .returned (.tuple #[.agg (rf9C f f.ns.length L oL cL P oP cP), .int .i64 code]) → Below w.heap.size w w' → Tell9End w K f code e w' := fun e w' he hb => ⟨L, oL, cL, P, oP, cP, he, h.below hb, hcL, hcP, hKL, hKP, hb⟩
  rw [← hlen] at hfin hx ⊢
  unfold rf9C at hfin ⊢
  have HFIN := Lib.hid hfin
  have b1 := below_alloc (Below.refl _ w) (.cells #[.slice (some ⟨L, oL, none⟩) len cL, .slice (some ⟨P, oP, none⟩) len cP, .int .i64 f.S, .int .i64 f.D, .int .i64 f.P, .int .i64 f.sw] 34)
  have b2 := below_alloc (Below.refl _ (w.alloc (.cells #[.slice (some ⟨L, oL, none⟩) len cL, .slice (some ⟨P, oP, none⟩) len cP, .int .i64 f.S, .int .i64 f.D, .int .i64 f.P, .int .i64 f.sw] 34))) (.cells ZR9 34)
  have q1 := (b2.block _ (by simp)).trans (World.alloc_heap_new w (.cells #[.slice (some ⟨L, oL, none⟩) len cL, .slice (some ⟨P, oP, none⟩) len cP, .int .i64 f.S, .int .i64 f.D, .int .i64 f.P, .int .i64 f.sw] 34))
  have q2 := World.alloc_heap_new (w.alloc (.cells #[.slice (some ⟨L, oL, none⟩) len cL, .slice (some ⟨P, oP, none⟩) len cP, .int .i64 f.S, .int .i64 f.D, .int .i64 f.P, .int .i64 f.sw] 34)) (.cells ZR9 34)
  rw [World.size_alloc] at q2
  unfold ZR9 at b2 q1 q2
  have Q1 := Lib.hid q1
  have Q2 := Lib.hid q2
  have HA := Lib.hid (below_next b1 b2)
  clear b1 b2 q1 q2 hfin h hcL hcP hlen
  generalize hE : Tell9End w K f code = E at *
  clear hE
  rcases hx with ⟨hn, rfl⟩ | ⟨hn, hk, rfl⟩
  · by_cases h1 : n < 0
    · skip
      have d1 : decide (n < 0) = true := decide_eq_true h1
      clear h1 hn
      go_enter Tryd.func12, Tryd.ntmps12
      go_upto_region 1 with fail
      generalize (w.alloc _).alloc _ = W0 at *
      have b0 := cell_of_block (o := 0) Q1.out rfl
      go_upto_region 2 with fail
      refine wp_region_lit ?_
      refine wpList_load_all rfl 34 _ rfl w.heap.size [.slice (some ⟨L, oL, none⟩) len cL, .slice (some ⟨P, oP, none⟩) len cP, .int .i64 f.S, .int .i64 f.D, .int .i64 f.P, .int .i64 f.sw] _ (by go_simp) Q1.out Tryd.underlying34 rfl (by kernel_rfl) ?_
      refine wpList_store_all rfl 34 _ _ rfl (w.heap.size + 1) (T := 34) [.slice (some ⟨L, oL, none⟩) len cL, .slice (some ⟨P, oP, none⟩) len cP, .int .i64 f.S, .int .i64 f.D, .int .i64 f.P, .int .i64 f.sw] (by go_simp) (by go_simp) Q2.out rfl (by kernel_rfl) rfl ?_
      intro w8 hw8
      have HW8 := Lib.hid hw8.there
      have HB8 := Lib.hid (hw8.below HA.out (by omega))
      clear hw8
      go_wp2_with fail
      exact bodyPost_ret (results_all2 [.slice (some ⟨L, oL, none⟩) len cL, .slice (some ⟨P, oP, none⟩) len cP, .int .i64 f.S, .int .i64 f.D, .int .i64 f.P, .int .i64 f.sw] _ Tryd.results12 (by go_simp) HW8.out Tryd.underlying34 rfl (by kernel_rfl)) rfl (HFIN.out _ _ rfl HB8.out)
    · skip
      have d1 : decide (n < 0) = false := decide_eq_false h1
      have d2 : decide (n ≥ (len : Int)) = true := decide_eq_true (by omega)
      have d3 : decide ((len : Int) ≤ n) = true := decide_eq_true (by omega)
      clear h1 hn
      go_enter Tryd.func12, Tryd.ntmps12
      go_upto_region 1 with fail
      generalize (w.alloc _).alloc _ = W0 at *
      have b0 := cell_of_block (o := 0) Q1.out rfl
      go_upto_region 2 with fail
      refine wp_region_lit ?_
      refine wpList_load_all rfl 34 _ rfl w.heap.size [.slice (some ⟨L, oL, none⟩) len cL, .slice (some ⟨P, oP, none⟩) len cP, .int .i64 f.S, .int .i64 f.D, .int .i64 f.P, .int .i64 f.sw] _ (by go_simp) Q1.out Tryd.underlying34 rfl (by kernel_rfl) ?_
      refine wpList_store_all rfl 34 _ _ rfl (w.heap.size + 1) (T := 34) [.slice (some ⟨L, oL, none⟩) len cL, .slice (some ⟨P, oP, none⟩) len cP, .int .i64 f.S, .int .i64 f.D, .int .i64 f.P, .int .i64 f.sw] (by go_simp) (by go_simp) Q2.out rfl (by kernel_rfl) rfl ?_
      intro w8 hw8
      have HW8 := Lib.hid hw8.there
      have HB8 := Lib.hid (hw8.below HA.out (by omega))
      clear hw8
      go_wp2_with fail
      exact bodyPost_ret (results_all2 [.slice (some ⟨L, oL, none⟩) len cL, .slice (some ⟨P, oP, none⟩) len cP, .int .i64 f.S, .int .i64 f.D, .int .i64 f.P, .int .i64 f.sw] _ Tryd.results12 (by go_simp) HW8.out Tryd.underlying34 rfl (by kernel_rfl)) rfl (HFIN.out _ _ rfl HB8.out)
  · have d1 : decide (n < 0) = false := decide_eq_false (by omega)
    have d2 : decide (n ≥ (len : Int)) = false := decide_eq_false (by omega)
    have d3 : decide ((len : Int) ≤ n) = false := decide_eq_false (by omega)
    by_cases h1 : k < 0
    · skip
      have d4 : decide (k < 0) = true := decide_eq_true h1
      clear h1 hn hk
      go_enter Tryd.func12, Tryd.ntmps12
      go_upto_region 1 with fail
      generalize (w.alloc _).alloc _ = W0 at *
      have b0 := cell_of_block (o := 0) Q1.out rfl
      go_upto_region 4 with fail
      refine wp_region_lit ?_
      refine wpList_load_all rfl 34 _ rfl w.heap.size [.slice (some ⟨L, oL, none⟩) len cL, .slice (some ⟨P, oP, none⟩) len cP, .int .i64 f.S, .int .i64 f.D, .int .i64 f.P, .int .i64 f.sw] _ (by go_simp) Q1.out Tryd.underlying34 rfl (by kernel_rfl) ?_
      refine wpList_store_all rfl 34 _ _ rfl (w.heap.size + 1) (T := 34) [.slice (some ⟨L, oL, none⟩) len cL, .slice (some ⟨P, oP, none⟩) len cP, .int .i64 f.S, .int .i64 f.D, .int .i64 f.P, .int .i64 f.sw] (by go_simp) (by go_simp) Q2.out rfl (by kernel_rfl) rfl ?_
      intro w8 hw8
      have HW8 := Lib.hid hw8.there
      have HB8 := Lib.hid (hw8.below HA.out (by omega))
      clear hw8
      go_wp2_with fail
      exact bodyPost_ret (results_all2 [.slice (some ⟨L, oL, none⟩) len cL, .slice (some ⟨P, oP, none⟩) len cP, .int .i64 f.S, .int .i64 f.D, .int .i64 f.P, .int .i64 f.sw] _ Tryd.results12 (by go_simp) HW8.out Tryd.underlying34 rfl (by kernel_rfl)) rfl (HFIN.out _ _ rfl HB8.out)
    · skip
      have d4 : decide (k < 0) = false := decide_eq_false h1
      have d5 : decide (k > 4) = true := decide_eq_true (by omega)
      have d6 : decide (4 < k) = true := decide_eq_true (by omega)
      clear h1 hn hk
      go_enter Tryd.func12, Tryd.ntmps12
      go_upto_region 1 with fail
      generalize (w.alloc _).alloc _ = W0 at *
      have b0 := cell_of_block (o := 0) Q1.out rfl
      go_upto_region 4 with fail
      refine wp_region_lit ?_
      refine wpList_load_all rfl 34 _ rfl w.heap.size [.slice (some ⟨L, oL, none⟩) len cL, .slice (some ⟨P, oP, none⟩) len cP, .int .i64 f.S, .int .i64 f.D, .int .i64 f.P, .int .i64 f.sw] _ (by go_simp) Q1.out Tryd.underlying34 rfl (by kernel_rfl) ?_
      refine wpList_store_all rfl 34 _ _ rfl (w.heap.size + 1) (T := 34) [.slice (some ⟨L, oL, none⟩) len cL, .slice (some ⟨P, oP, none⟩) len cP, .int .i64 f.S, .int .i64 f.D, .int .i64 f.P, .int .i64 f.sw] (by go_simp) (by go_simp) Q2.out rfl (by kernel_rfl) rfl ?_
      intro w8 hw8
      have HW8 := Lib.hid hw8.there
      have HB8 := Lib.hid (hw8.below HA.out (by omega))
      clear hw8
      go_wp2_with fail
      exact bodyPost_ret (results_all2 [.slice (some ⟨L, oL, none⟩) len cL, .slice (some ⟨P, oP, none⟩) len cP, .int .i64 f.S, .int .i64 f.D, .int .i64 f.P, .int .i64 f.sw] _ Tryd.results12 (by go_simp) HW8.out Tryd.underlying34 rfl (by kernel_rfl)) rfl (HFIN.out _ _ rfl HB8.out)
end Go.Proofs.YtnofgffkfapodaaDoor
namespace Go.Proofs.YtnofgffkfapodaaDoor
set_option linter.unusedVariables false
open Go.ChangeShapes Go.WideShapes Go.ChangeAt Go.RowKit
attribute [local go_sem ↓] Go.wp_at_zero Go.wp_at_succ comesTo_value_eq comesTo_skip_eq comesTo_enter_eq

theorem flatN_one9 : ∀ (l : List N3), ∀ v ∈ flatN l, v.oneCell' = true
  | [], v, h => by cases h
  | x :: l, v, h => by
    simp only [flatN, List.mem_cons] at h
    rcases h with rfl | rfl | rfl | h
    · rfl
    · rfl
    · rfl
    · exact flatN_one9 l v h
theorem own_base {W : World} {B B' : Nat} {e : TypeId} {size n : Nat} {v : Value} {xs : List Value} (h : W.ownsRow B e size v n xs) (hb : B' ≤ B) : W.ownsRow B' e size v n xs := by
  refine ⟨h.1, ?_⟩
  rcases h.2 with hn | ⟨g, cap, cur, hv, hB, rest⟩
  · exact .inl hn
  · exact .inr ⟨g, cap, cur, hv, Nat.le_trans hb hB, rest⟩
theorem gone_hit (f : FV) (i : Nat) (hi : i < 64) : (goneF f).getLsbD i = (decide (i < f.ns.length) && (f.sp.getLsbD i == false) && (((f.ns.getD i (0, 0, 0)).1 == 0) == false)) := by
  rw [gone_get _ _ hi, up_get _ _ hi]
  cases decide (i < f.ns.length) <;> cases f.sp.getLsbD i <;> cases ((f.ns.getD i (0, 0, 0)).1 == 0) <;> rfl
theorem free_hit (f : FV) (i : Nat) (hi : i < 64) : (freeF f).getLsbD i = (decide (i < f.ns.length) && (f.sp.getLsbD i == true) && (((f.ns.getD i (0, 0, 0)).1 == 0) == true)) := by
  rw [free_get, up_get _ _ hi]
  cases decide (i < f.ns.length) <;> cases f.sp.getLsbD i <;> cases ((f.ns.getD i (0, 0, 0)).1 == 0) <;> rfl
set_option maxRecDepth 100000 in
set_option maxHeartbeats 8000000 in
theorem tell9_yes {w : World} {L oL cL P oP cP : Nat} {f : FV} (h : RF9 w L oL P oP f) (hcL : f.ns.length ≤ cL) (hcP : f.ns.length ≤ cP) (hsw : 0 ≤ f.sw ∧ f.sw ≤ 1000000) {K : Nat → Prop} (hK : ∀ x, w.heap.size ≤ x → K x) {i : Nat} (hi : i < f.ns.length) (k : Int) (hk : 0 ≤ k ∧ k ≤ 4) :
    Calls Tryd.prog 12 #[.agg (rf9C f f.ns.length L oL cL P oP cP), .int .i64 i, .int .i64 k] w fun e w' => Tell9End w K (swapF { f with ns := f.ns.set i (nextF f (f.ns.getD i (0, 0, 0)) k) }) 0 e w' := by
  have hmx : Tryd.prog.follows .mixedOrders = true := by kernel_rfl
  obtain ⟨len, hlen⟩ : ∃ l, l = f.ns.length := ⟨_, rfl⟩
  have HLEN := Lib.hid hlen
  have HLN := Lib.hid h.len
  have H := Lib.hid h
  have HSW := Lib.hid hsw
  have HI := Lib.hid hi
  have HBW := Lib.hid hK
  rw [← hlen]
  unfold rf9C
  have b1 := below_alloc (Below.refl _ w) (.cells #[.slice (some ⟨L, oL, none⟩) len cL, .slice (some ⟨P, oP, none⟩) len cP, .int .i64 f.S, .int .i64 f.D, .int .i64 f.P, .int .i64 f.sw] 34)
  have b2 := below_alloc (Below.refl _ (w.alloc (.cells #[.slice (some ⟨L, oL, none⟩) len cL, .slice (some ⟨P, oP, none⟩) len cP, .int .i64 f.S, .int .i64 f.D, .int .i64 f.P, .int .i64 f.sw] 34))) (.cells ZR9 34)
  have q1 := (b2.block _ (by simp)).trans (World.alloc_heap_new w (.cells #[.slice (some ⟨L, oL, none⟩) len cL, .slice (some ⟨P, oP, none⟩) len cP, .int .i64 f.S, .int .i64 f.D, .int .i64 f.P, .int .i64 f.sw] 34))
  have q2 := World.alloc_heap_new (w.alloc (.cells #[.slice (some ⟨L, oL, none⟩) len cL, .slice (some ⟨P, oP, none⟩) len cP, .int .i64 f.S, .int .i64 f.D, .int .i64 f.P, .int .i64 f.sw] 34)) (.cells ZR9 34)
  rw [World.size_alloc] at q2
  have hz0 : ((w.alloc (.cells #[.slice (some ⟨L, oL, none⟩) len cL, .slice (some ⟨P, oP, none⟩) len cP, .int .i64 f.S, .int .i64 f.D, .int .i64 f.P, .int .i64 f.sw] 34)).alloc (.cells ZR9 34)).heap.size = w.heap.size + 2 := by simp
  unfold ZR9 at b2 q1 q2 hz0
  have Q1 := Lib.hid q1
  have Q2 := Lib.hid q2
  have HA := Lib.hid (below_next b1 b2)
  have HZ0 := Lib.hid hz0
  have d1 : decide ((i : Int) < 0) = false := decide_eq_false (by omega)
  have d2 : decide ((i : Int) ≥ (len : Int)) = false := decide_eq_false (by omega)
  have d3 : decide ((len : Int) ≤ (i : Int)) = false := decide_eq_false (by omega)
  have d3' : decide (len ≤ i) = false := decide_eq_false (by omega)
  have d3'' : decide (i ≥ len) = false := decide_eq_false (by omega)
  have d4 : decide (k < 0) = false := decide_eq_false (by omega)
  have d5 : decide (k > 4) = false := decide_eq_false (by omega)
  have d6 : decide (4 < k) = false := decide_eq_false (by omega)
  have HIL := Lib.hid (show i < len by rw [hlen]; exact hi)
  clear b1 b2 q1 q2 hz0 h hcL hcP hsw hi hk hlen hK
  generalize hE : Tell9End w K (swapF { f with ns := f.ns.set i (nextF f (f.ns.getD i (0, 0, 0)) k) }) 0 = E
  have HE := Lib.hid hE
  clear hE
  go_enter Tryd.func12, Tryd.ntmps12
  go_upto_region 1 with fail
  generalize (w.alloc _).alloc _ = W0 at *
  have b0 := cell_of_block (o := 0) Q1.out rfl
  go_upto_region 5 with fail
  clear d1 d2 d3 d3' d3'' d4 d5 d6
  -- the nodes copied
  refine wp_region_lit ?_
  refine wpList_yield (w' := W0.alloc (.cells #[] 67)) (v := .slice (some ⟨W0.heap.size, 0, none⟩) 0 0) rfl (by go_simp) ?_
  have bA := below_alloc (Below.refl _ W0) (.cells #[] 67)
  have b0' := (bA.cell (p := ⟨w.heap.size, 0, none⟩) (World.block_lt_of_cell? W0 _ b0)).trans b0
  refine wpList_yield (w' := W0.alloc (.cells #[] 67)) (v := .pointer (some ⟨w.heap.size, 0, none⟩)) rfl (by go_simp) ?_
  refine wpList_yield (w' := W0.alloc (.cells #[] 67)) (v := .slice (some ⟨L, oL, none⟩) len cL) rfl (by clear b0; go_simp) ?_
  clear b0' bA
  have hLrow : ∀ j u, (flatN f.ns)[j]? = some u → W0.cell? ⟨L, oL + j, none⟩ = some u := fun j u hj => by
    have hjl : j < f.ns.length * 3 := by
      rw [← flatN_length]
      rcases Nat.lt_or_ge j (flatN f.ns).length with h1 | h1
      · exact h1
      · rw [List.getElem?_eq_none h1] at hj; cases hj
    obtain ⟨n0, n1, n2⟩ := (H.out.below HA.out).nd (j / 3) (by omega)
    have hq : j = j / 3 * 3 ∨ j = j / 3 * 3 + 1 ∨ j = j / 3 * 3 + 2 := by omega
    rcases hq with e | e | e
    · rw [e, flatN_get0 _ _ (by omega)] at hj; injection hj with hj; rw [← hj]; rw [show oL + j = oL + j / 3 * 3 by omega]; exact n0
    · rw [e, flatN_get1 _ _ (by omega)] at hj; injection hj with hj; rw [← hj]; rw [show oL + j = oL + j / 3 * 3 + 1 by omega]; exact n1
    · rw [e, flatN_get2 _ _ (by omega)] at hj; injection hj with hj; rw [← hj]; rw [show oL + j = oL + j / 3 * 3 + 2 by omega]; exact n2
  obtain ⟨v5, W5, g0, g1, g2⟩ := copy_row eltN8 30 (w := W0) (g := L) (o := oL) (m := len) (c := cL) (news := flatN f.ns) (by rw [flatN_length, HLEN.out]) hLrow (flatN_one9 _) (by have := HLN.out; have := HLEN.out; omega) (by decide) (World.block_lt_of_cell? W0 _ ((H.out.below HA.out).nd i (HI.out)).1)
  obtain ⟨gL, c5, rfl, hgL, hc5, _⟩ := own_cells g1 (by have := HIL.out; omega)
  refine wpList_yield (w' := W5) (v := .slice (some ⟨gL, 0, none⟩) len c5) rfl (Ap.exec_app rfl (by go_simp) (by go_simp) g0) ?_
  have Q15 := (g2.block _ (Array.getElem?_eq_some_iff.1 Q1.out).1).trans Q1.out
  have Q25 := (g2.block _ (Array.getElem?_eq_some_iff.1 Q2.out).1).trans Q2.out
  have e0 := cell_of_block (o := 0) Q15 rfl
  have f0 := free_of_block 0 Q15
  have hw5 := (wrote_refl Q15).set 0 (.slice (some ⟨gL, 0, none⟩) len c5)
  have HOL := Lib.hid (own_keep g1 fun g hg hgl => hw5.rest g (by have : gL = g := by simpa [Value.ownBlock] using hg
                                                                  have := HZ0.out
                                                                  omega))
  have HQ6 := Lib.hid (show (W5.setCell ⟨w.heap.size, 0, none⟩ (.slice (some ⟨gL, 0, none⟩) len c5)).heap[w.heap.size]? = some (.cells #[.slice (some ⟨gL, 0, none⟩) len c5, .slice (some ⟨P, oP, none⟩) len cP, .int .i64 f.S, .int .i64 f.D, .int .i64 f.P, .int .i64 f.sw] 34 (0, 0)) from hw5.there)
  have HR6 := Lib.hid ((hw5.rest _ (by omega)).trans Q25)
  have HB6 := Lib.hid (hw5.below (below_next HA.out g2) (Nat.le_refl _))
  clear g0 g1 g2 Q15 Q25 hw5 hLrow b0 hc5 Q1 Q2
  go_upto_region 6 with fail
  clear e0 f0
  generalize W5.setCell ⟨w.heap.size, 0, none⟩ (.slice (some ⟨gL, 0, none⟩) len c5) = W6 at *
  -- the spares copied
  have b1 := cell_of_block (o := 1) HQ6.out rfl
  refine wp_region_lit ?_
  refine wpList_yield (w' := W6.alloc (.cells #[] 4)) (v := .slice (some ⟨W6.heap.size, 0, none⟩) 0 0) rfl (by go_simp) ?_
  have bA := below_alloc (Below.refl _ W6) (.cells #[] 4)
  have b1' := (bA.cell (p := ⟨w.heap.size, 1, none⟩) (World.block_lt_of_cell? W6 _ b1)).trans b1
  refine wpList_yield (w' := W6.alloc (.cells #[] 4)) (v := .pointer (some ⟨w.heap.size, 1, none⟩)) rfl (by go_simp) ?_
  refine wpList_yield (w' := W6.alloc (.cells #[] 4)) (v := .slice (some ⟨P, oP, none⟩) len cP) rfl (by clear b1; go_simp) ?_
  clear b1' bA
  have hProw : ∀ j u, (spL f)[j]? = some u → W6.cell? ⟨P, oP + j, none⟩ = some u := fun j u hj => by
    have hjl : j < f.ns.length := by
      rw [← spL_len]
      rcases Nat.lt_or_ge j (spL f).length with h1 | h1
      · exact h1
      · rw [List.getElem?_eq_none h1] at hj; cases hj
    rw [spL_get f j hjl] at hj
    injection hj with hj
    rw [← hj]
    exact (H.out.below HB6.out).sp j hjl
  obtain ⟨v7, W7, g0, g1, g2⟩ := copy_row eltB1 31 (w := W6) (g := P) (o := oP) (m := len) (c := cP) (news := spL f) (by rw [spL_len, HLEN.out, Nat.mul_one]) hProw (fun u hu => by unfold spL at hu; obtain ⟨q, _, rfl⟩ := List.mem_map.1 hu; rfl) (by have := HLN.out; have := HLEN.out; omega) (by decide) (World.block_lt_of_cell? W6 _ ((H.out.below HB6.out).sp i (HI.out)))
  obtain ⟨gP, c7, rfl, hgP, hc7, _⟩ := own_cells g1 (by have := HIL.out; omega)
  refine wpList_yield (w' := W7) (v := .slice (some ⟨gP, 0, none⟩) len c7) rfl (Ap.exec_app rfl (by go_simp) (by go_simp) g0) ?_
  have Q17 := (g2.block _ (Array.getElem?_eq_some_iff.1 HQ6.out).1).trans HQ6.out
  have Q27 := (g2.block _ (Array.getElem?_eq_some_iff.1 HR6.out).1).trans HR6.out
  have e1 := cell_of_block (o := 1) Q17 rfl
  have f1 := free_of_block 1 Q17
  have hw7 := (wrote_refl Q17).set 1 (.slice (some ⟨gP, 0, none⟩) len c7)
  have hwz : w.heap.size + 2 ≤ W6.heap.size := by have := (Array.getElem?_eq_some_iff.1 HR6.out).1; omega
  have hgLz : gL < W6.heap.size := Ap.own_lt HOL.out gL rfl
  have HT := Lib.hid (show Tl9 w (W7.setCell ⟨w.heap.size, 1, none⟩ (.slice (some ⟨gP, 0, none⟩) len c7)) f gL c5 gP c7 from by
    have e : len = f.ns.length := HLEN.out
    subst e
    refine ⟨hw7.there, ?_, ?_, by omega, (hw7.rest _ (by omega)).trans Q27, hw7.below (below_next HB6.out g2) (Nat.le_refl _), HLN.out⟩
    · refine own_base (own_keep HOL.out fun g hg hgl => ?_) (by have := HZ0.out; omega)
      have hgg : gL = g := by simpa [Value.ownBlock] using hg
      exact (hw7.rest g (by have := HZ0.out; omega)).trans (g2.block g hgl)
    · refine own_base (own_keep g1 fun g hg hgl => ?_) hwz
      have hgg : gP = g := by simpa [Value.ownBlock] using hg
      exact hw7.rest g (by omega))
  clear g0 g1 g2 Q17 Q27 hw7 hProw b1 hc7 HQ6 HR6 HB6 HOL hwz hgLz hgL hgP
  go_upto_region 7 with fail
  clear e1 f1
  generalize W7.setCell ⟨w.heap.size, 1, none⟩ (.slice (some ⟨gP, 0, none⟩) len c7) = W8 at *
  have hT := HT.out
  obtain ⟨hrows, _, _⟩ := hT.rows
  obtain ⟨n0, n1, n2⟩ := hrows.nd i HI.out
  rw [Nat.zero_add] at n0 n1 n2
  have HNODE := Lib.hid (fun X (hX : Below W8.heap.size W8 X) x => (hT.below hX).node HI.out x)
  have HCELL := Lib.hid (fun X (hX : Below W8.heap.size W8 X) => (hT.below hX).rows.1.nd i HI.out)
  have hblk : W8.heap[w.heap.size]? = some (.cells #[.slice (some ⟨gL, 0, none⟩) len c5, .slice (some ⟨gP, 0, none⟩) len c7, .int .i64 f.S, .int .i64 f.D, .int .i64 f.P, .int .i64 f.sw] 34 (0, 0)) := by rw [HLEN.out]; exact hT.blk
  have b0 := cell_of_block (o := 0) hblk rfl
  have b2 := cell_of_block (o := 2) hblk rfl
  have b3 := cell_of_block (o := 3) hblk rfl
  have b4 := cell_of_block (o := 4) hblk rfl
  have hlt0 := (Array.getElem?_eq_some_iff.1 hblk).1
  have hltL : gL < W8.heap.size := Ap.own_lt hT.L gL rfl
  have hiI : (i : Int) < (len : Int) := by have := HIL.out; omega
  have hiN : i < len := HIL.out
  have HFR := Lib.hid (fun X (hX : Below W8.heap.size W8 X) j (hj : j < len * 3) => (own_set (hT.below hX).L j (by rw [← HLEN.out]; exact hj) (.int .i64 0)).2.1)
  have KN := Lib.hid (fun X => rnx_any (f.ns.getD i (0, 0, 0)).1 (f.ns.getD i (0, 0, 0)).2.1 (f.ns.getD i (0, 0, 0)).2.2 f.S f.D f.P k X)
  obtain ⟨y, hy⟩ : ∃ y, y = nextF f (f.ns.getD i (0, 0, 0)) k := ⟨_, rfl⟩
  have hy2 : nextI (f.ns.getD i (0, 0, 0)).1 (f.ns.getD i (0, 0, 0)).2.1 (f.ns.getD i (0, 0, 0)).2.2 f.S f.D f.P k = y := hy.symm
  rw [hy2] at KN
  rw [← hy] at HE
  clear hy hy2 hT hrows hblk HT
  generalize f.ns.getD i (0, 0, 0) = x at *
  obtain ⟨xt, xm, xb⟩ := x
  have HNY := Lib.hid (fun X hX => HNODE.out X hX y)
  obtain ⟨f1, hf1⟩ : ∃ f1, f1 = { f with ns := f.ns.set i y } := ⟨_, rfl⟩
  rw [← hf1] at HE HNY
  have HF1 := Lib.hid (show f1.ns.length = len ∧ f1.sw = f.sw from by rw [hf1, HLEN.out]; exact ⟨List.length_set, rfl⟩)
  clear HNODE hf1
  obtain ⟨yt, ym, yb⟩ := y
  unfold aggN at KN
  dsimp only at KN n0 n1 n2 HNY
  refine wp_region_grow_tail 13 (fun w' => Below W8.heap.size W8 w') hmx (by kernel_rfl) (Below.refl _ _).drew ?_
  simp only [List.take]
  iterate 11 (refine textS_run ?_ ?_ (fun W hS => ?_) ?_; rotate_left; (focus go_simp); (focus (obtain ⟨hc, hf⟩ := bcell hS; go_simp; first | rfl | exact ⟨rfl, hS⟩ | exact hS)); (try go_simp))
  (refine textS_run ?_ ?_ (fun W hS => ?_) ?_; rotate_left; (focus go_simp); (focus (obtain ⟨hc, hf⟩ := bcell hS; go_simp; refine (KN.out W).mono ?_; rintro e w1 ⟨rfl, hb⟩; refine ⟨?_, hS.trans (hb.mono hS.size)⟩; rfl)); (try go_simp))
  (refine textS_run ?_ ?_ (fun W hS => ?_) ?_; rotate_left; (focus go_simp); (focus (obtain ⟨hc, hf⟩ := bcell hS; go_simp; first | rfl | exact ⟨rfl, hS⟩ | exact hS)); (try go_simp))
  refine textS_nil ?_
  intro w3 hb3
  obtain ⟨m0, m1, m2⟩ := HCELL.out w3 hb3
  rw [Nat.zero_add] at m0 m1 m2
  have g0 := HFR.out w3 hb3 (i * 3) (by omega)
  have g1 := HFR.out w3 hb3 (i * 3 + 1) (by omega)
  have g2 := HFR.out w3 hb3 (i * 3 + 2) (by omega)
  have HT1 := Lib.hid (HNY.out w3 hb3)
  clear b0 b2 b3 b4 n0 n1 n2 hb3 KN hlt0 hltL HNY HCELL HFR
  go_upto_region 8 with fail
  clear m0 m1 m2 g0 g1 g2
  generalize ((w3.setCell ⟨gL, i * 3, none⟩ (.int .i64 yt)).setCell ⟨gL, i * 3 + 1, none⟩ (.int .i64 ym)).setCell ⟨gL, i * 3 + 2, none⟩ (.int .i64 yb) = W9 at *
  go_wp2_with fail
  go_loopw [8] (fun v wr => ∃ (j : Nat) (g : FV), j ≤ 64 ∧ v = .int .i64 j ∧ Tl9 w wr g gL c5 gP c7 ∧ swapN (64 - j) g = swapF f1 ∧ 0 ≤ g.sw ∧ g.sw ≤ 1000000 + (j : Int) ∧ g.ns.length = len) (fun v _ => 64 - (intOf v).toNat)
  case atStart => exact ⟨0, f1, by decide, rfl, HT1.out, rfl, by have := HF1.out.2; have := HSW.out; omega, by have := HF1.out.2; have := HSW.out; omega, HF1.out.1⟩
  case round =>
    obtain ⟨j, g, hj, rfl, htl, hsn, hs1, hs2, hgl⟩ := hrel
    have HTL := Lib.hid htl
    have HSN := Lib.hid hsn
    have HGL := Lib.hid hgl
    have HGS := Lib.hid (And.intro hs1 hs2)
    have HBLK := Lib.hid (fun X (hX : Below wr.heap.size wr X) => show X.heap[w.heap.size]? = some (.cells #[.slice (some ⟨gL, 0, none⟩) len c5, .slice (some ⟨gP, 0, none⟩) len c7, .int .i64 g.S, .int .i64 g.D, .int .i64 g.P, .int .i64 g.sw] 34 (0, 0)) from by have := (htl.below hX).blk; rw [hgl] at this; exact this)
    have HRES := Lib.hid (fun X (hX : Below wr.heap.size wr X) => show X.heap[w.heap.size + 1]? = some (.cells #[.slice none 0 0, .slice none 0 0, .int .i64 0, .int .i64 0, .int .i64 0, .int .i64 0] 34 (0, 0)) from (htl.below hX).res)
    have KA := fun X (hX : Below wr.heap.size wr X) => least_any (htl.below hX).rows.1 (htl.below hX).rows.2.1 (htl.below hX).rows.2.2 false false (goneF g) (gone_hit g)
    have KB := fun X (hX : Below wr.heap.size wr X) => least_any (htl.below hX).rows.1 (htl.below hX).rows.2.1 (htl.below hX).rows.2.2 true true (freeF g) (free_hit g)
    unfold rf9C at KA KB
    rw [hgl] at KA KB
    have HKA := Lib.hid KA
    have HKB := Lib.hid KB
    have HEND := Lib.hid (fun (hg : g = swapF f1) X (hX : Below wr.heap.size wr X) w8 (hw8 : WroteTo (w.heap.size + 1) 34 #[.slice (some ⟨gL, 0, none⟩) len c5, .slice (some ⟨gP, 0, none⟩) len c7, .int .i64 g.S, .int .i64 g.D, .int .i64 g.P, .int .i64 g.sw] X w8) => show E (.returned (.tuple #[.agg #[.slice (some ⟨gL, 0, none⟩) len c5, .slice (some ⟨gP, 0, none⟩) len c7, .int .i64 g.S, .int .i64 g.D, .int .i64 g.P, .int .i64 g.sw], .int .i64 0])) w8 from by
      have ht := htl.below hX
      have hlo := ht.lo
      obtain ⟨r1, r2, r3⟩ := ht.rows
      rw [← HE.out, ← hg]
      refine ⟨gL, 0, c5, gP, 0, c7, ?_, r1.wrote hw8 (by omega) (by omega), r2, r3, HBW.out _ (by omega), HBW.out _ (by omega), hw8.below ht.bel (by omega)⟩
      unfold rf9C
      rw [hgl])
    clear htl hsn hs1 hs2 hgl KA KB
    by_cases hlt : j < 64
    case neg =>
      obtain rfl : j = 64 := by omega
      have HG := Lib.hid (show g = swapF f1 from HSN.out)
      have b0 := cell_of_block (o := 0) (HBLK.out _ (Below.refl _ _)) rfl
      go_upto_region 18 with fail
      refine wp_region_lit ?_
      refine wpList_load_all rfl 34 _ rfl w.heap.size [.slice (some ⟨gL, 0, none⟩) len c5, .slice (some ⟨gP, 0, none⟩) len c7, .int .i64 g.S, .int .i64 g.D, .int .i64 g.P, .int .i64 g.sw] _ (by go_simp) (HBLK.out _ (Below.refl _ _)) Tryd.underlying34 rfl (by kernel_rfl) ?_
      refine wpList_store_all rfl 34 _ _ rfl (w.heap.size + 1) (T := 34) [.slice (some ⟨gL, 0, none⟩) len c5, .slice (some ⟨gP, 0, none⟩) len c7, .int .i64 g.S, .int .i64 g.D, .int .i64 g.P, .int .i64 g.sw] (by go_simp) (by go_simp) (HRES.out _ (Below.refl _ _)) rfl (by kernel_rfl) rfl ?_
      intro w8 hw8
      have HW8 := Lib.hid hw8
      clear hw8
      go_wp2_with fail
      exact bodyPost_ret (results_all2 [.slice (some ⟨gL, 0, none⟩) len c5, .slice (some ⟨gP, 0, none⟩) len c7, .int .i64 g.S, .int .i64 g.D, .int .i64 g.P, .int .i64 g.sw] _ Tryd.results12 (by go_simp) HW8.out.there Tryd.underlying34 rfl (by kernel_rfl)) rfl (HEND.out HG.out _ (Below.refl _ _) _ HW8.out)
    case pos =>
    have hd : decide ((j : Int) < 64) = true := decide_eq_true (by omega)
    have hd2 : decide (j < 64) = true := decide_eq_true hlt
    have hw1 : IntKind.i64.wrap ((j : Int) + 1) = (j : Int) + 1 := by rw [IntKind.wrap_i64]; omega
    have hw2 : IntKind.i64.wrap (g.sw + 1) = g.sw + 1 := by have := HGS.out; rw [IntKind.wrap_i64]; omega
    obtain ⟨a, ha⟩ : ∃ a, a = lowI (goneF g) := ⟨_, rfl⟩
    obtain ⟨b, hb⟩ : ∃ b, b = lowI (freeF g) := ⟨_, rfl⟩
    rw [← ha] at HKA
    rw [← hb] at HKB
    have HAV := Lib.hid ha
    have HBV := Lib.hid hb
    clear ha hb
    have b0 := cell_of_block (o := 0) (HBLK.out wr (Below.refl _ _)) rfl
    have b1 := cell_of_block (o := 1) (HBLK.out wr (Below.refl _ _)) rfl
    have b2 := cell_of_block (o := 2) (HBLK.out wr (Below.refl _ _)) rfl
    have b3 := cell_of_block (o := 3) (HBLK.out wr (Below.refl _ _)) rfl
    have b4 := cell_of_block (o := 4) (HBLK.out wr (Below.refl _ _)) rfl
    have b5 := cell_of_block (o := 5) (HBLK.out wr (Below.refl _ _)) rfl
    go_wp2_with fail
    refine (HKA.out _ (Below.refl _ _)).mono ?_
    rintro e wA ⟨rfl, hbA⟩
    have HBA := Lib.hid hbA
    clear hbA b0 b1 b2 b3 b4 b5
    have b0 := cell_of_block (o := 0) (HBLK.out wA (HBA.out)) rfl
    have b1 := cell_of_block (o := 1) (HBLK.out wA (HBA.out)) rfl
    have b2 := cell_of_block (o := 2) (HBLK.out wA (HBA.out)) rfl
    have b3 := cell_of_block (o := 3) (HBLK.out wA (HBA.out)) rfl
    have b4 := cell_of_block (o := 4) (HBLK.out wA (HBA.out)) rfl
    have b5 := cell_of_block (o := 5) (HBLK.out wA (HBA.out)) rfl
    go_wp2_with fail
    refine (HKB.out _ HBA.out).mono ?_
    rintro e wB ⟨rfl, hbB⟩
    have HBB := Lib.hid (below_next HBA.out hbB)
    clear hbB b0 b1 b2 b3 b4 b5 HKA HKB
    by_cases hstop : stopF g
    · have HG := Lib.hid (show g = swapF f1 from by
        rw [← HSN.out]
        obtain ⟨q, hq⟩ : ∃ q, 64 - j = q + 1 := ⟨63 - j, by omega⟩
        rw [hq]
        show g = if stopF g then g else _
        rw [if_pos hstop])
      by_cases ha0 : a < 0
      · have e1 : decide (a < 0) = true := decide_eq_true ha0
        clear ha0 hstop
        go_upto_region 14 with fail
        refine wp_region_lit ?_
        refine wpList_load_all rfl 34 _ rfl w.heap.size [.slice (some ⟨gL, 0, none⟩) len c5, .slice (some ⟨gP, 0, none⟩) len c7, .int .i64 g.S, .int .i64 g.D, .int .i64 g.P, .int .i64 g.sw] _ (by go_simp) (HBLK.out _ HBB.out) Tryd.underlying34 rfl (by kernel_rfl) ?_
        refine wpList_store_all rfl 34 _ _ rfl (w.heap.size + 1) (T := 34) [.slice (some ⟨gL, 0, none⟩) len c5, .slice (some ⟨gP, 0, none⟩) len c7, .int .i64 g.S, .int .i64 g.D, .int .i64 g.P, .int .i64 g.sw] (by go_simp) (by go_simp) (HRES.out _ HBB.out) rfl (by kernel_rfl) rfl ?_
        intro w8 hw8
        have HW8 := Lib.hid hw8
        clear hw8
        go_wp2_with fail
        exact bodyPost_ret (results_all2 [.slice (some ⟨gL, 0, none⟩) len c5, .slice (some ⟨gP, 0, none⟩) len c7, .int .i64 g.S, .int .i64 g.D, .int .i64 g.P, .int .i64 g.sw] _ Tryd.results12 (by go_simp) HW8.out.there Tryd.underlying34 rfl (by kernel_rfl)) rfl (HEND.out HG.out _ HBB.out _ HW8.out)
      · have e1 : decide (a < 0) = false := decide_eq_false ha0
        have e2 : decide (b < 0) = true := decide_eq_true (by
          rcases hstop with h1 | h1
          · exact absurd ((low_neg _).2 h1) (by rw [← HAV.out]; exact ha0)
          · rw [HBV.out]; exact (low_neg _).2 h1)
        clear ha0 hstop
        go_upto_region 14 with fail
        refine wp_region_lit ?_
        refine wpList_load_all rfl 34 _ rfl w.heap.size [.slice (some ⟨gL, 0, none⟩) len c5, .slice (some ⟨gP, 0, none⟩) len c7, .int .i64 g.S, .int .i64 g.D, .int .i64 g.P, .int .i64 g.sw] _ (by go_simp) (HBLK.out _ HBB.out) Tryd.underlying34 rfl (by kernel_rfl) ?_
        refine wpList_store_all rfl 34 _ _ rfl (w.heap.size + 1) (T := 34) [.slice (some ⟨gL, 0, none⟩) len c5, .slice (some ⟨gP, 0, none⟩) len c7, .int .i64 g.S, .int .i64 g.D, .int .i64 g.P, .int .i64 g.sw] (by go_simp) (by go_simp) (HRES.out _ HBB.out) rfl (by kernel_rfl) rfl ?_
        intro w8 hw8
        have HW8 := Lib.hid hw8
        clear hw8
        go_wp2_with fail
        exact bodyPost_ret (results_all2 [.slice (some ⟨gL, 0, none⟩) len c5, .slice (some ⟨gP, 0, none⟩) len c7, .int .i64 g.S, .int .i64 g.D, .int .i64 g.P, .int .i64 g.sw] _ Tryd.results12 (by go_simp) HW8.out.there Tryd.underlying34 rfl (by kernel_rfl)) rfl (HEND.out HG.out _ HBB.out _ HW8.out)
    · obtain ⟨a', b', ea, eb, ha6, hb6, hne, hal, s1, s2, s3, s4, _⟩ := swap1_get hstop
      obtain rfl : a = (a' : Int) := by rw [HAV.out]; exact ea
      obtain rfl : b = (b' : Int) := by rw [HBV.out]; exact eb
      have hbl : b' < g.ns.length := by
        rw [up_get _ _ hb6, Bool.and_eq_true, decide_eq_true_eq] at s4
        exact s4.1
      have HSWP := Lib.hid ((HTL.out.below HBB.out).swap hstop ea eb hal hbl (by have := HGS.out; omega))
      have HNX := Lib.hid (show swapN (64 - (j + 1)) (swap1 g) = swapF f1 from by
        rw [← HSN.out]
        obtain ⟨q, hq⟩ : ∃ q, 64 - j = q + 1 := ⟨63 - j, by omega⟩
        rw [hq, show 64 - (j + 1) = q by omega]
        show _ = if stopF g then g else _
        rw [if_neg hstop])
      have HSX := Lib.hid (show (swap1 g).sw = g.sw + 1 ∧ (swap1 g).ns.length = len from by
        refine ⟨?_, HGL.out⟩
        show (if g.sw < 9223372036854775807 then g.sw + 1 else g.sw) = _
        rw [if_pos (by have := HGS.out; omega)])
      have HR := (HTL.out.below HBB.out)
      have hR := HR.R
      rw [HGL.out] at hR hal hbl
      have hsq : spL g = spL g := rfl
      have k1 := own_set hR a' (by omega) (.bool true)
      have k2 := own_set k1.1 b' (by omega) (.bool false)
      have e1 : decide ((a' : Int) < 0) = false := decide_eq_false (by omega)
      have e2 : decide ((b' : Int) < 0) = false := decide_eq_false (by omega)
      have haI : (a' : Int) < (len : Int) := by omega
      have hbI : (b' : Int) < (len : Int) := by omega
      obtain ⟨v1, hv1⟩ := Option.isSome_iff_exists.1 k1.2.2.1
      obtain ⟨v2, hv2⟩ := Option.isSome_iff_exists.1 k2.2.2.1
      have fz1 := k1.2.1
      have fz2 := k2.2.1
      have hlo := HR.lo
      have B1 := Lib.hid (show (wB.setCell ⟨gP, a', none⟩ (.bool true)).heap[w.heap.size]? = _ from (k1.2.2.2.2 w.heap.size (by omega)).trans (HBLK.out _ HBB.out))
      have B2 := Lib.hid (show ((wB.setCell ⟨gP, a', none⟩ (.bool true)).setCell ⟨gP, b', none⟩ (.bool false)).heap[w.heap.size]? = _ from (k2.2.2.2.2 w.heap.size (by omega)).trans B1.out)
      have b1 := cell_of_block (o := 1) (HBLK.out _ HBB.out) rfl
      clear k1 k2 hR HR s1 s2 s3 s4 ea eb hstop hlo hsq
      go_upto_region 16 with fail
      clear b1 hv1 fz1
      have b1 := cell_of_block (o := 1) B1.out rfl
      generalize wB.setCell ⟨gP, a', none⟩ (.bool true) = wC at *
      go_upto_region 17 with fail
      clear b1 hv2 fz2
      generalize wC.setCell ⟨gP, b', none⟩ (.bool false) = wD at *
      have b5 := cell_of_block (o := 5) B2.out rfl
      have f5 := free_of_block 5 B2.out
      go_wp2_with fail
      go_roundw
      case rel => exact ⟨j + 1, swap1 g, by omega, by go_num, HSWP.out, HNX.out, by have := HSX.out.1; have := HGS.out; omega, by have := HSX.out.1; have := HGS.out; omega, HSX.out.2⟩
      case measure => simp [intOf]; omega
end Go.Proofs.YtnofgffkfapodaaDoor
namespace Go.Proofs.YtnofgffkfapodaaDoor
set_option linter.unusedVariables false
open Go.ChangeShapes Go.WideShapes Go.ChangeAt Go.RowKit
attribute [local go_sem ↓] Go.wp_at_zero Go.wp_at_succ comesTo_value_eq comesTo_skip_eq comesTo_enter_eq

theorem run_copy_sized {P : Program} (w : World) (dT sT ty elem : TypeId) (b o dLen dCap : Nat) (a : Addr) (sLen sCap z : Nat) (cs : List Value)
    (hu : P.underlying dT = some (.slice elem)) (hs : (P.info? elem).map (·.size) = some z) (hn : cs.length = Nat.min sLen dLen * z)
    (hsrc : ∀ j v, cs[j]? = some v → w.cell? (a.add j) = some v) (hc : ∀ j, j < cs.length → (w.cell? ⟨b, o + j, none⟩).isSome = true) (hf : ∀ j, j < cs.length → w.frozen? ⟨b, o + j, none⟩ = false) (h1 : ∀ v ∈ cs, v.oneCell' = true) :
    (Builtin.copy_ #[dT, sT] ty #[.slice (some ⟨b, o, none⟩) dLen dCap, .slice (some a) sLen sCap]).run P w = .ok (goInt (Nat.min sLen dLen)) (w.setCells b o cs) := by
  have hl := run_loadCells_list (P := P) w a cs hsrc
  have hst := run_storeCells_cells (P := P) b o cs 0 w (by simpa using hc) (by simpa using hf) h1
  cases hq : P.info? elem with
  | none => simp [hq] at hs
  | some i =>
    have hi : i.size = z := by simpa [hq] using hs
    simp [Builtin.copy_, run_underlying hu, Builtin.lenOf, Builtin.firstCells, sizeOf, typeInfo, hq, hi, ← hn, hl, hst]
theorem flatN_one : ∀ (l : List N3), ∀ v ∈ flatN l, v.oneCell' = true
  | [], v, h => by cases h
  | x :: l, v, h => by
    simp only [flatN, List.mem_cons] at h
    rcases h with rfl | rfl | rfl | h
    · rfl
    · rfl
    · rfl
    · exact flatN_one l v h
set_option maxRecDepth 100000 in
set_option maxHeartbeats 4000000 in
theorem fclone_fl {w : World} {F G : Nat} {f : FV} (h : Fl w F G f) : Calls Tryd.prog 18 #[.pointer (some ⟨F, 0, none⟩)] w fun e w' => ∃ F' G', e = .returned (.pointer (some ⟨F', 0, none⟩)) ∧ Fl w' F' G' f ∧ w.heap.size ≤ F' ∧ w.heap.size ≤ G' ∧ Below w.heap.size w w' := by
  have hmx : Tryd.prog.follows .mixedOrders = true := by kernel_rfl
  have K0 := Lib.hid (there_fl h)
  have c0 := h.c0
  have c1 := h.c1
  have c2 := h.c2
  have c3 := h.c3
  have c4 := h.c4
  have c5 := h.c5
  have HLEN := Lib.hid h.len
  have HLT := Lib.hid h.lt
  obtain ⟨n, hn⟩ : ∃ n, n = f.ns.length := ⟨_, rfl⟩
  have HN := Lib.hid hn
  have b1 := below_alloc (Below.refl _ w) (.cells (flC f G) 60)
  have nF := World.alloc_heap_new w (.cells (flC f G) 60)
  have HB1 := Lib.hid b1
  have H1 := Lib.hid (h.below b1)
  have hfl : flC f G = #[.int .i64 f.S, .int .i64 f.D, .int .i64 f.P, .slice (some ⟨G, 0, none⟩) n n, .int .u64 (nv f.sp), .int .i64 f.sw] := by rw [hn]; rfl
  have hsz : (w.alloc (.cells (flC f G) 60)).heap.size = w.heap.size + 1 := by simp
  have hmk := make_nodes n (by rw [hn]; exact h.len.2)
  rw [hfl] at nF HB1 H1 hsz
  rw [← hn] at c3
  have HMK := Lib.hid hmk
  have NF := Lib.hid nF
  have HSZ := Lib.hid hsz
  clear h hn b1 hfl hsz hmk nF
  go_enter Tryd.func18, Tryd.ntmps18
  go_wp2_with fail
  refine K0.out.mono ?_
  rintro e w' ⟨rfl, rfl⟩
  go_upto_region 4 with fail
  generalize w.alloc (.cells #[.int .i64 f.S, .int .i64 f.D, .int .i64 f.P, .slice (some ⟨G, 0, none⟩) n n, .int .u64 (nv f.sp), .int .i64 f.sw] 60) = W1 at *
  clear c0 c1 c2 c3 c4 c5 K0
  have c3 := H1.out.c3
  rw [← HN.out] at c3
  have hmk := HMK.out W1
  have b2 := below_alloc (Below.refl _ W1) (.cells (flatN (List.replicate n (0, 0, 0))).toArray 62)
  have nG := World.alloc_heap_new W1 (.cells (flatN (List.replicate n (0, 0, 0))).toArray 62)
  have nF2 := (b2.block _ (Array.getElem?_eq_some_iff.1 NF.out).1).trans NF.out
  have H2 := Lib.hid (H1.out.below b2)
  have HB2 := Lib.hid (below_next HB1.out b2)
  have NF2 := Lib.hid nF2
  rw [HSZ.out] at nG hmk
  have NG := Lib.hid nG
  have d3 := cell_of_block (o := 3) nF2 rfl
  have g3 := free_of_block 3 nF2
  have e3 := cell_of_block (o := 3) NF.out rfl
  have x3 := free_of_block 3 NF.out
  clear b2 nG nF2
  go_upto_region 5 with fail
  have hw3 := (wrote_refl NF2.out).set 3 (.slice (some ⟨w.heap.size + 1, 0, none⟩) n n)
  have HW3 := Lib.hid hw3
  have H3 := Lib.hid (show Fl (((W1.alloc (.cells (flatN (List.replicate n (0, 0, 0))).toArray 62)).setCell ⟨w.heap.size, 3, none⟩ (.slice (some ⟨w.heap.size + 1, 0, none⟩) n n)).drew) F G f from ⟨H2.out.ne, H2.out.len, (hw3.rest F (by have := HLT.out.1; omega)).trans H2.out.blk, (hw3.rest G (by have := HLT.out.2; omega)).trans H2.out.row⟩)
  have HB3 := Lib.hid (show Below w.heap.size w (((W1.alloc (.cells (flatN (List.replicate n (0, 0, 0))).toArray 62)).setCell ⟨w.heap.size, 3, none⟩ (.slice (some ⟨w.heap.size + 1, 0, none⟩) n n)).drew) from (hw3.below HB2.out (Nat.le_refl _)).drew)
  have NF3 := Lib.hid (show (((W1.alloc (.cells (flatN (List.replicate n (0, 0, 0))).toArray 62)).setCell ⟨w.heap.size, 3, none⟩ (.slice (some ⟨w.heap.size + 1, 0, none⟩) n n)).drew).heap[w.heap.size]? = some (.cells #[.int .i64 f.S, .int .i64 f.D, .int .i64 f.P, .slice (some ⟨w.heap.size + 1, 0, none⟩) n n, .int .u64 (nv f.sp), .int .i64 f.sw] 60 (0, 0)) from hw3.there)
  have NG3 := Lib.hid (show (((W1.alloc (.cells (flatN (List.replicate n (0, 0, 0))).toArray 62)).setCell ⟨w.heap.size, 3, none⟩ (.slice (some ⟨w.heap.size + 1, 0, none⟩) n n)).drew).heap[w.heap.size + 1]? = _ from (hw3.rest _ (by omega)).trans NG.out)
  clear hw3 HW3 c3 hmk d3 g3 e3 x3 H1 H2 HB1 HB2 NF NF2 NG HMK HSZ
  refine wp_region_held (S := fun X => X.cell? ⟨F, 3, none⟩ = some (.slice (some ⟨G, 0, none⟩) n n) ∧ X.cell? ⟨w.heap.size, 3, none⟩ = some (.slice (some ⟨w.heap.size + 1, 0, none⟩) n n)) hmx ?_
  change wpAnyH _ _ _ _ _ 7 _ _ (((W1.alloc (.cells (flatN (List.replicate n (0, 0, 0))).toArray 62)).setCell ⟨w.heap.size, 3, none⟩ (.slice (some ⟨w.heap.size + 1, 0, none⟩) n n)).drew)
  generalize ((W1.alloc (.cells (flatN (List.replicate n (0, 0, 0))).toArray 62)).setCell ⟨w.heap.size, 3, none⟩ (.slice (some ⟨w.heap.size + 1, 0, none⟩) n n)).drew = W3 at *
  have hS : W3.cell? ⟨F, 3, none⟩ = some (.slice (some ⟨G, 0, none⟩) n n) ∧ W3.cell? ⟨w.heap.size, 3, none⟩ = some (.slice (some ⟨w.heap.size + 1, 0, none⟩) n n) := ⟨by rw [HN.out]; exact H3.out.c3, cell_of_block (o := 3) NF3.out rfl⟩
  (refine wpAnyH_take (i := 0) (v := .pointer (some ⟨w.heap.size, 3, none⟩)) rfl (by decide +kernel) (by decide +kernel) (by decide +kernel) (fun _ _ _ h => h) (.inl ⟨by first | rfl | (go_simp; done), fun X hX => by obtain ⟨hx0, hx1⟩ := hX; first | (go_simp; done) | (go_simp; rfl)⟩) hS ?_)
  (refine wpAnyH_take (i := 1) (v := .slice (some ⟨w.heap.size + 1, 0, none⟩) n n) rfl (by decide +kernel) (by decide +kernel) (by decide +kernel) (fun _ _ _ h => h) (.inl ⟨by first | rfl | (go_simp; done), fun X hX => by obtain ⟨hx0, hx1⟩ := hX; first | (go_simp; done) | (go_simp; rfl)⟩) hS ?_)
  (refine wpAnyH_take (i := 2) (v := .pointer (some ⟨F, 0, none⟩)) rfl (by decide +kernel) (by decide +kernel) (by decide +kernel) (fun _ _ _ h => h) (.inl ⟨by first | rfl | (go_simp; done), fun X hX => by obtain ⟨hx0, hx1⟩ := hX; first | (go_simp; done) | (go_simp; rfl)⟩) hS ?_)
  (refine wpAnyH_take (i := 3) (v := .pointer (some ⟨F, 0, none⟩)) rfl (by decide +kernel) (by decide +kernel) (by decide +kernel) (fun _ _ _ h => h) (.inl ⟨by first | rfl | (go_simp; done), fun X hX => by obtain ⟨hx0, hx1⟩ := hX; first | (go_simp; done) | (go_simp; rfl)⟩) hS ?_)
  (refine wpAnyH_take (i := 4) (v := .pointer (some ⟨F, 3, none⟩)) rfl (by decide +kernel) (by decide +kernel) (by decide +kernel) (fun _ _ _ h => h) (.inl ⟨by first | rfl | (go_simp; done), fun X hX => by obtain ⟨hx0, hx1⟩ := hX; first | (go_simp; done) | (go_simp; rfl)⟩) hS ?_)
  (refine wpAnyH_take (i := 5) (v := .slice (some ⟨G, 0, none⟩) n n) rfl (by decide +kernel) (by decide +kernel) (by decide +kernel) (fun _ _ _ h => h) (.inl ⟨by first | rfl | (go_simp; done), fun X hX => by obtain ⟨hx0, hx1⟩ := hX; first | (go_simp; done) | (go_simp; rfl)⟩) hS ?_)
  clear hS
  have hlen0 : (flatN (List.replicate n ((0, 0, 0) : N3))).length = n * 3 := by rw [flatN_length, List.length_replicate]
  have hlen1 : (flatN f.ns).length = n * 3 := by rw [flatN_length, HN.out]
  have hcp := fun ty => run_copy_sized (P := Tryd.prog) W3 58 58 ty 62 (w.heap.size + 1) 0 n n ⟨G, 0, none⟩ n n 3 (flatN f.ns) Tryd.underlying58 (by kernel_rfl) (by rw [hlen1, show Nat.min n n = n from Nat.min_self n])
    (fun j v hv => by
      have : ((⟨G, 0, none⟩ : Addr).add j) = ⟨G, j, none⟩ := by unfold Addr.add; split <;> simp_all
      rw [this]
      exact cell_of_block H3.out.row (by simpa using hv))
    (fun j hj => by
      rw [Nat.zero_add, cell_of_block (o := j) NG3.out (Array.getElem?_eq_getElem (by rw [List.size_toArray, hlen0]; omega))]; rfl)
    (fun j hj => by rw [Nat.zero_add]; exact free_of_block j NG3.out) (flatN_one _)
  rw [show Nat.min n n = n from Nat.min_self n] at hcp
  have hw4 := wrote_all NG3.out (l := flatN f.ns) (by rw [List.size_toArray, hlen0, hlen1])
  have H4 := Lib.hid (show Fl (W3.setCells (w.heap.size + 1) 0 (flatN f.ns)) w.heap.size (w.heap.size + 1) f from ⟨by omega, HLEN.out, by
    have := (hw4.rest w.heap.size (by omega)).trans NF3.out
    unfold flC
    rw [← HN.out]
    exact this, hw4.there⟩)
  have HB4 := Lib.hid (hw4.below HB3.out (by omega))
  have H4F := Lib.hid (show Fl (W3.setCells (w.heap.size + 1) 0 (flatN f.ns)) F G f from ⟨H3.out.ne, H3.out.len, (hw4.rest F (by have := HLT.out.1; omega)).trans H3.out.blk, (hw4.rest G (by have := HLT.out.2; omega)).trans H3.out.row⟩)
  have hS4 : (W3.setCells (w.heap.size + 1) 0 (flatN f.ns)).cell? ⟨F, 3, none⟩ = some (.slice (some ⟨G, 0, none⟩) n n) ∧ (W3.setCells (w.heap.size + 1) 0 (flatN f.ns)).cell? ⟨w.heap.size, 3, none⟩ = some (.slice (some ⟨w.heap.size + 1, 0, none⟩) n n) := ⟨by rw [HN.out]; exact H4F.out.c3, by rw [HN.out]; exact H4.out.c3⟩
  clear hlen0 hlen1 hw4
  refine anyH_one (i := 6) (by decide +kernel) ?_
  refine opH_val (i := 6) (v := goInt n) (w' := W3.setCells (w.heap.size + 1) 0 (flatN f.ns)) rfl (by first | rfl | (go_simp; done)) (by first | (go_simp; done) | (go_simp; rfl)) ?_
  clear hcp
  generalize W3.setCells (w.heap.size + 1) 0 (flatN f.ns) = W4 at *
  refine ⟨hS4, ?_⟩
  clear hS4
  refine wpAnyH_done (by decide +kernel) ?_ _
  go_simp
  go_wp2_with fail
  go_ret
  exact ⟨_, _, rfl, H4.out, Nat.le_refl _, by omega, HB4.out⟩
end Go.Proofs.YtnofgffkfapodaaDoor
