/- Note and Charge of books (layer 14), by books that were made and by nobody's. Condition: the lines' numbers are within their bounds. -/
import Derived.Test.YtmpknjlfabpipaaBkD
import Derived.Test.YtmpknjlfabpipaaShareSplits
import Derived.Test.YtmpknjlfabpipaaBkT
namespace Go.Proofs.Ytmpknjlfabpipaa
set_option linter.unusedVariables false
open Go.ChangeShapes Go.WideShapes Go.ChangeAt Go.RowKit Bk
attribute [local go_sem ↓] Go.wp_at_zero Go.wp_at_succ

theorem Num.zero : Num zL := by
  refine ⟨fun i h0 h1 => ?_, by decide, by decide, by decide⟩
  rcases (by omega : i = 1 ∨ i = 2 ∨ i = 3 ∨ i = 4 ∨ i = 5) with rfl | rfl | rfl | rfl | rfl <;> decide
theorem Num.set0 {l : LV} (h : Num l) (u : Int) : Num (l.set 0 u) :=
  ⟨fun i h0 h1 => by rw [getD_set, if_neg (by omega)]; exact h.c i h0 h1, by rw [getD_set, if_neg (by omega)]; exact h.t, by rw [getD_set, if_neg (by omega)]; exact h.s, by rw [getD_set, if_neg (by omega)]; exact h.n⟩
theorem Num.note {l : LV} (h : Num l) {k : Nat} (hk : k ≤ 4) : Num (noteL k l) := by
  unfold noteL
  have hc := h.c (1 + k) (by omega) (by omega)
  refine ⟨fun i h0 h1 => ?_, by rw [getD_set, if_neg (by omega)]; exact h.t, by rw [getD_set, if_neg (by omega)]; exact h.s, by rw [getD_set, if_neg (by omega)]; exact h.n⟩
  rw [getD_set]
  split
  · omega
  · exact h.c i h0 h1
theorem Num.charge {l : LV} (h : Num l) {n hf us : Int} (hu : 0 ≤ us ∧ us ≤ 1125899906842624) : Num (chargeL n hf us l) := by
  unfold chargeL
  have hb := charge_bd (l.getD 7 0) (l.getD 8 0) n hf us
  have ht := h.t
  refine ⟨fun i h0 h1 => ?_, ?_, ?_, ?_⟩
  · rw [getD_set, if_neg (by omega), getD_set, if_neg (by omega), getD_set, if_neg (by omega)]; exact h.c i h0 h1
  · rw [getD_set, if_neg (by omega), getD_set, if_neg (by omega), getD_set]; split <;> omega
  · rw [getD_set, if_neg (by omega), getD_set]; split
    · exact hb.1
    · rw [getD_set, if_neg (by omega)]; exact h.s
  · rw [getD_set]; split
    · exact hb.2.1
    · rw [getD_set, if_neg (by omega), getD_set, if_neg (by omega)]; exact h.n
/-- all lines' numbers are within their bounds -/
def BN (L : List LV) : Prop := ∀ l ∈ L, Num l
theorem BN.line {L : List LV} (h : BN L) (u : Int) : Num (lineB L u) := by
  unfold lineB
  cases hg : getB L u with
  | none => exact Num.zero
  | some l => exact h l (getB_usr hg).2
theorem BN.put {L : List LV} (h : BN L) {x : LV} (hx : Num x) : BN (putB L x) := fun l hl => by
  rcases putB_mem hl with rfl | hl
  · exact hx
  · exact h l hl
theorem usr_set0 {l : LV} (h : l.length = 9) (u : Int) : usr (l.set 0 u) = u := by unfold usr; rw [getD_set, if_pos ⟨rfl, by omega⟩]
theorem usr_note {l : LV} (k : Nat) : usr (noteL k l) = usr l := by unfold usr noteL; rw [getD_set, if_neg (by omega)]
theorem usr_charge {l : LV} (n hf us : Int) : usr (chargeL n hf us l) = usr l := by unfold usr chargeL; rw [getD_set, if_neg (by omega), getD_set, if_neg (by omega), getD_set, if_neg (by omega)]
theorem len_note {l : LV} (h : l.length = 9) (k : Nat) : (noteL k l).length = 9 := by unfold noteL; rw [List.length_set]; exact h
theorem len_charge {l : LV} (h : l.length = 9) (n hf us : Int) : (chargeL n hf us l).length = 9 := by unfold chargeL; rw [List.length_set, List.length_set, List.length_set]; exact h
/-- the books behind a note -/
def notedB (L : List LV) (u : Int) (k : Nat) : List LV := putB L (noteL k ((lineB L u).set 0 u))
def usedI (many nodes : Int) : Int := if timesI many nodes = 1099511627776 then 1125899906842624 else timesI many nodes
def chargedB (L : List LV) (h u now nodes many : Int) : List LV := putB L (chargeL now h (usedI many nodes) ((lineB L u).set 0 u))
theorem enterN : Go.Proofs.Enters Try.prog 18 := enters_of Try.func18 (by kernel_rfl) rfl
theorem enterG : Go.Proofs.Enters Try.prog 20 := enters_of Try.func20 (by kernel_rfl) rfl
set_option maxHeartbeats 2000000 in
theorem note_ok {w : World} {b m : Nat} {h : Int} {L : List LV} (H : BkAt w b m h L) (hN : BN L) {u : Int} (h0 : 1 ≤ u) (h1 : u ≤ 16) {k : Nat} (hk : k ≤ 4) :
    Calls Try.prog 6 #[.pointer (some ⟨b, 0, none⟩), .int .i64 u, .int .i64 k] w fun e w' => e = .returned (.int .i64 0) ∧ BkAt w' b m h (notedB L u k) ∧ w.grownBy w' (some m) := by
  have hl := H.good.line u
  have KT := Lib.hid (there_bk H)
  have KU := Lib.hid (isUser_yes h0 h1)
  have KC := Lib.hid (change_bk H h0 h1 18 (.agg #[.int .i64 k, .int .i64 0, .int .i64 0, .int .i64 0]) enterN ((lineB L u).set 0 u) (noteL k ((lineB L u).set 0 u)) rfl (len_note (by rw [List.length_set]; exact hl) k) (by rw [usr_note, usr_set0 hl])
    (fun X => note_e k hk 0 0 0 _ (by rw [List.length_set]; exact hl) ((hN.line u).set0 u) X))
  have d1 : decide ((k : Int) < 0) = false := decide_eq_false (by omega)
  have d2 : decide ((k : Int) > 4) = false := decide_eq_false (by omega)
  have d3 : decide ((4 : Int) < (k : Int)) = false := decide_eq_false (by omega)
  clear H hN hl hk h0 h1
  go_enter Try.func6, Try.ntmps6
  go_wp2_with fail
  refine KT.out.mono ?_
  rintro e w1 ⟨rfl, hw⟩
  obtain rfl := hw
  go_wp2_with fail
  refine (KU.out _).mono ?_
  rintro e w2 ⟨rfl, hw⟩
  obtain rfl := hw
  go_wp2_with fail
  refine KC.out.mono ?_
  rintro e w3 ⟨rfl, h3, g3⟩
  have H3 := Lib.hid (And.intro h3 g3)
  clear h3 g3
  go_wp2_with fail
  go_ret
  exact ⟨rfl, H3.out⟩
theorem note_bad {w : World} {b m : Nat} {h : Int} {L : List LV} (H : BkAt w b m h L) {u k : Int} (hn : ¬ ((1 ≤ u ∧ u ≤ 16) ∧ 0 ≤ k ∧ k ≤ 4)) :
    Calls Try.prog 6 #[.pointer (some ⟨b, 0, none⟩), .int .i64 u, .int .i64 k] w fun e w' => e = .returned (.int .i64 2) ∧ w' = w := by
  have KT := Lib.hid (there_bk H)
  clear H
  by_cases hu : 1 ≤ u ∧ u ≤ 16
  · have KU := Lib.hid (isUser_yes hu.1 hu.2)
    by_cases hk : k < 0
    · have d1 : decide (k < 0) = true := decide_eq_true hk
      clear hu hn
      go_enter Try.func6, Try.ntmps6
      go_wp2_with fail
      refine KT.out.mono ?_
      rintro e w1 ⟨rfl, hw⟩
      obtain rfl := hw
      go_wp2_with fail
      refine (KU.out _).mono ?_
      rintro e w2 ⟨rfl, hw⟩
      obtain rfl := hw
      go_wp2_with fail
      go_ret
      exact ⟨rfl, rfl⟩
    · have d1 : decide (k < 0) = false := decide_eq_false hk
      have d2 : decide (k > 4) = true := decide_eq_true (by omega)
      have d3 : decide (4 < k) = true := decide_eq_true (by omega)
      clear hu hn hk
      go_enter Try.func6, Try.ntmps6
      go_wp2_with fail
      refine KT.out.mono ?_
      rintro e w1 ⟨rfl, hw⟩
      obtain rfl := hw
      go_wp2_with fail
      refine (KU.out _).mono ?_
      rintro e w2 ⟨rfl, hw⟩
      obtain rfl := hw
      go_wp2_with fail
      go_ret
      exact ⟨rfl, rfl⟩
  · have KU := Lib.hid (isUser_no hu)
    clear hu hn
    go_enter Try.func6, Try.ntmps6
    go_wp2_with fail
    refine KT.out.mono ?_
    rintro e w1 ⟨rfl, hw⟩
    obtain rfl := hw
    go_wp2_with fail
    refine (KU.out _).mono ?_
    rintro e w2 ⟨rfl, hw⟩
    obtain rfl := hw
    go_wp2_with fail
    go_ret
    exact ⟨rfl, rfl⟩
theorem note_no {w : World} {v : Value} (h : NoBk w v) (u k : Int) : Calls Try.prog 6 #[v, .int .i64 u, .int .i64 k] w fun e w' => e = .returned (.int .i64 1) ∧ w' = w := by
  have KT := Lib.hid (there_no h)
  obtain ⟨p, rfl⟩ : ∃ p, v = .pointer p := by rcases h with rfl | ⟨g, rfl, _⟩ <;> exact ⟨_, rfl⟩
  clear h
  go_enter Try.func6, Try.ntmps6
  go_wp2_with fail
  refine KT.out.mono ?_
  rintro e w1 ⟨rfl, hw⟩
  obtain rfl := hw
  go_wp2_with fail
  go_ret
  exact ⟨rfl, rfl⟩
theorem charge_no {w : World} {v : Value} (h : NoBk w v) (u n c y : Int) : Calls Try.prog 7 #[v, .int .i64 u, .int .i64 n, .int .i64 c, .int .i64 y] w fun e w' => e = .returned (.int .i64 1) ∧ w' = w := by
  have KT := Lib.hid (there_no h)
  obtain ⟨p, rfl⟩ : ∃ p, v = .pointer p := by rcases h with rfl | ⟨g, rfl, _⟩ <;> exact ⟨_, rfl⟩
  clear h
  go_enter Try.func7, Try.ntmps7
  go_wp2_with fail
  refine KT.out.mono ?_
  rintro e w1 ⟨rfl, hw⟩
  obtain rfl := hw
  go_wp2_with fail
  go_ret
  exact ⟨rfl, rfl⟩
theorem charge_bad {w : World} {b m : Nat} {h : Int} {L : List LV} (H : BkAt w b m h L) {u k : Int} (n y : Int) (hn : ¬ ((1 ≤ u ∧ u ≤ 16) ∧ 0 ≤ k ∧ k ≤ 64)) :
    Calls Try.prog 7 #[.pointer (some ⟨b, 0, none⟩), .int .i64 u, .int .i64 n, .int .i64 k, .int .i64 y] w fun e w' => e = .returned (.int .i64 2) ∧ w' = w := by
  have KT := Lib.hid (there_bk H)
  clear H
  by_cases hu : 1 ≤ u ∧ u ≤ 16
  · have KU := Lib.hid (isUser_yes hu.1 hu.2)
    by_cases hk : k < 0
    · have d1 : decide (k < 0) = true := decide_eq_true hk
      clear hu hn
      go_enter Try.func7, Try.ntmps7
      go_wp2_with fail
      refine KT.out.mono ?_
      rintro e w1 ⟨rfl, hw⟩
      obtain rfl := hw
      go_wp2_with fail
      refine (KU.out _).mono ?_
      rintro e w2 ⟨rfl, hw⟩
      obtain rfl := hw
      go_wp2_with fail
      go_ret
      exact ⟨rfl, rfl⟩
    · have d1 : decide (k < 0) = false := decide_eq_false hk
      have d2 : decide (k > 64) = true := decide_eq_true (by omega)
      have d3 : decide (64 < k) = true := decide_eq_true (by omega)
      clear hu hn hk
      go_enter Try.func7, Try.ntmps7
      go_wp2_with fail
      refine KT.out.mono ?_
      rintro e w1 ⟨rfl, hw⟩
      obtain rfl := hw
      go_wp2_with fail
      refine (KU.out _).mono ?_
      rintro e w2 ⟨rfl, hw⟩
      obtain rfl := hw
      go_wp2_with fail
      go_ret
      exact ⟨rfl, rfl⟩
  · have KU := Lib.hid (isUser_no hu)
    clear hu hn
    go_enter Try.func7, Try.ntmps7
    go_wp2_with fail
    refine KT.out.mono ?_
    rintro e w1 ⟨rfl, hw⟩
    obtain rfl := hw
    go_wp2_with fail
    refine (KU.out _).mono ?_
    rintro e w2 ⟨rfl, hw⟩
    obtain rfl := hw
    go_wp2_with fail
    go_ret
    exact ⟨rfl, rfl⟩
theorem usedI_bd (a n : Int) : 0 ≤ usedI a n ∧ usedI a n ≤ 1125899906842624 := by
  unfold usedI
  have := timesI_bd a n
  split <;> omega
set_option maxHeartbeats 2000000 in
theorem charge_ok {w : World} {b m : Nat} {h : Int} {L : List LV} (H : BkAt w b m h L) (hN : BN L) {u : Int} (h0 : 1 ≤ u) (h1 : u ≤ 16) {c : Int} (c0 : 0 ≤ c) (c1 : c ≤ 64) (n y : Int) :
    Calls Try.prog 7 #[.pointer (some ⟨b, 0, none⟩), .int .i64 u, .int .i64 n, .int .i64 c, .int .i64 y] w fun e w' => e = .returned (.int .i64 0) ∧ BkAt w' b m h (chargedB L h u n c y) ∧ w.grownBy w' (some m) := by
  have hl := H.good.line u
  have KT := Lib.hid (there_bk H)
  have KU := Lib.hid (isUser_yes h0 h1)
  obtain ⟨us, hus⟩ : ∃ us, us = usedI y c := ⟨_, rfl⟩
  have KC := Lib.hid (change_bk H h0 h1 20 (.agg #[.int .i64 0, .int .i64 n, .int .i64 h, .int .i64 us]) enterG ((lineB L u).set 0 u) (chargeL n h us ((lineB L u).set 0 u)) rfl (len_charge (by rw [List.length_set]; exact hl) n h us) (by rw [usr_charge, usr_set0 hl])
    (fun X => charge_e 0 n h us (by rw [hus]; exact usedI_bd y c) _ (by rw [List.length_set]; exact hl) ((hN.line u).set0 u) X))
  have HE := Lib.hid (show putB L (chargeL n h us ((lineB L u).set 0 u)) = chargedB L h u n c y from by rw [hus]; rfl)
  rw [HE.out] at KC
  have KM := Lib.hid (btimes_any y c (by omega))
  have hb := timesI_bd y c
  have hcl : w.cell? ⟨b, 0, none⟩ = some (.int .i64 h) := cell_of_block (o := 0) H.blk rfl
  have d1 : decide (c < 0) = false := decide_eq_false (by omega)
  have d2 : decide (c > 64) = false := decide_eq_false (by omega)
  have d3 : decide (64 < c) = false := decide_eq_false (by omega)
  unfold usedI at hus
  generalize timesI y c = T at *
  by_cases hT : T = 1099511627776
  · rw [if_pos hT] at hus
    subst hT
    subst hus
    clear H hN hl h0 h1 c0 c1 hb HE
    go_enter Try.func7, Try.ntmps7
    go_wp2_with fail
    refine KT.out.mono ?_
    rintro e w1 ⟨rfl, hw⟩
    obtain rfl := hw
    go_wp2_with fail
    refine (KU.out _).mono ?_
    rintro e w2 ⟨rfl, hw⟩
    obtain rfl := hw
    go_wp2_with fail
    refine (KM.out _).mono ?_
    rintro e w2 ⟨rfl, hw⟩
    obtain rfl := hw
    go_wp2_with fail
    refine KC.out.mono ?_
    rintro e w3 ⟨rfl, h3, g3⟩
    have H3 := Lib.hid (And.intro h3 g3)
    clear h3 g3
    go_wp2_with fail
    go_ret
    exact ⟨rfl, H3.out⟩
  · rw [if_neg hT] at hus
    have hq : (T == 1099511627776) = false := by simpa using hT
    subst hus
    clear H hN hl h0 h1 c0 c1 hb HE hT
    go_enter Try.func7, Try.ntmps7
    go_wp2_with fail
    refine KT.out.mono ?_
    rintro e w1 ⟨rfl, hw⟩
    obtain rfl := hw
    go_wp2_with fail
    refine (KU.out _).mono ?_
    rintro e w2 ⟨rfl, hw⟩
    obtain rfl := hw
    go_wp2_with fail
    refine (KM.out _).mono ?_
    rintro e w2 ⟨rfl, hw⟩
    obtain rfl := hw
    go_wp2_with fail
    refine KC.out.mono ?_
    rintro e w3 ⟨rfl, h3, g3⟩
    have H3 := Lib.hid (And.intro h3 g3)
    clear h3 g3
    go_wp2_with fail
    go_ret
    exact ⟨rfl, H3.out⟩
end Go.Proofs.Ytmpknjlfabpipaa
